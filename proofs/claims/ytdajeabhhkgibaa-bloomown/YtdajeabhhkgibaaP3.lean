import Derived.Test.YtdajeabhhkgibaaP2
import Derived.Test.YtdajeabhhkgibaaYe
import Derived.Test.YtdajeabhhkgibaaYg0
import Derived.Test.YtdajeabhhkgibaaP0
namespace Go.Proofs.Ytdajeabhhkgibaa
open Go.RowKit
set_option linter.unusedVariables false
set_option linter.unusedSimpArgs false

def plays13_ops : Array Oper := #[{ dst := some 72, op := Op.move (Operand.tmp 3), type := 25, pos := "law.go:59", after := #[], guard := none }, { dst := some 73, op := Op.move (Operand.tmp 7), type := 3, pos := "law.go:59", after := #[], guard := none }, { dst := some 74, op := Op.indexAddr 25 (Operand.tmp 72) (Operand.tmp 73), type := 0, pos := "law.go:59", after := #[{ on := 0, ground := Ground.data }, { on := 1, ground := Ground.data }], guard := none }, { dst := some 75, op := Op.load 23 (Operand.tmp 74), type := 23, pos := "law.go:59", after := #[{ on := 2, ground := Ground.data }], guard := none }, { dst := some 76, op := Op.fieldAddr 33 (Operand.tmp 6) 3, type := 0, pos := "law.go:59", after := #[], guard := none }, { dst := some 77, op := Op.load 30 (Operand.tmp 76), type := 30, pos := "law.go:59", after := #[{ on := 4, ground := Ground.data }], guard := none }, { dst := some 78, op := Op.call { callee := Callee.value (Operand.func 12), args := #[Operand.tmp 75, Operand.tmp 77], argTypes := #[23, 30] }, type := 0, pos := "law.go:59", after := #[{ on := 3, ground := Ground.data }, { on := 5, ground := Ground.data }], guard := none }]
set_option maxRecDepth 100000 in
set_option maxHeartbeats 4000000 in
theorem plays13 (fb fc n i ob : Nat) (px : Option Addr) (hh : List UInt8) (D : World → Prop) (a : Act) (w : World) (Q : Exit → Act → World → Prop) (hsz : a.tmps.size = 222)
    (t3 : a.tmps.getD 3 undef = .slice (some ⟨fb, 0, none⟩) n fc)
    (t6 : a.tmps.getD 6 undef = .pointer (some ⟨ob, 0, none⟩))
    (t7 : a.tmps.getD 7 undef = .int .i64 (i : Int))
    (h0 : w.drew.cell? ⟨fb, i, none⟩ = some (.pointer px) ∧ (Instr.loadAt 30 (.pointer (some ⟨ob, 3, none⟩))).run Try.prog w.drew = .ok (.agg (bs hh)) w.drew)
    (IX1 : ∀ W, (Instr.indexAt 25 (.slice (some ⟨fb, 0, none⟩) n fc) (.int .i64 (i : Int))).run Try.prog W = .ok (.pointer (some ⟨fb, i, none⟩)) W)
    (CA : Calls Try.prog 12 #[.pointer px, .agg (bs hh)] w.drew fun e w' => e = .returned (.tuple #[]) ∧ D w' ∧ (w'.cell? ⟨fb, i, none⟩ = some (.pointer px) ∧ (Instr.loadAt 30 (.pointer (some ⟨ob, 3, none⟩))).run Try.prog w' = .ok (.agg (bs hh)) w'))
    (h : ∀ (a' : Act) (w' : World), D w' → a' = (((((((a).put (some 72) (.slice (some ⟨fb, 0, none⟩) n fc)).put (some 73) (.int .i64 (i : Int))).put (some 74) (.pointer (some ⟨fb, i, none⟩))).put (some 75) (.pointer px)).put (some 76) (.pointer (some ⟨ob, 3, none⟩))).put (some 77) (.agg (bs hh))).put (some 78) (.tuple #[]) → Q .normal a' w') :
    (Code.region 13 plays13_ops true).wp Try.prog Q a w := by
  refine wp_region_noPanic ?_
  refine wp_region_held_drew (S := fun w' => w'.cell? ⟨fb, i, none⟩ = some (.pointer px) ∧ (Instr.loadAt 30 (.pointer (some ⟨ob, 3, none⟩))).run Try.prog w' = .ok (.agg (bs hh)) w') (by kernel_rfl) (h0) (fun hHeld => ?_)
  refine wpAnyH_take (i := 0) (oi := { dst := some 72, op := Op.move (Operand.tmp 3), type := 25, pos := "law.go:59", after := #[], guard := none }) (v := .slice (some ⟨fb, 0, none⟩) n fc) rfl (by kernel_rfl) (by kernel_rfl) (by kernel_rfl) (fun _ _ _ h => h) (Or.inl ⟨by rfl, fun w1 hw => by go_simp⟩) hHeld ?_
  change wpAnyH _ _ _ _ _ _ _ (a.put (some 72) (.slice (some ⟨fb, 0, none⟩) n fc)) _
  obtain ⟨a1, e1⟩ : ∃ act, act = a.put (some 72) (.slice (some ⟨fb, 0, none⟩) n fc) := ⟨_, rfl⟩
  rw [← e1] at h ⊢
  have z1 : a1.tmps.size = 222 := by rw [e1, put_size]; exact hsz
  clear t3
  replace t6 : a1.tmps.getD 6 undef = .pointer (some ⟨ob, 0, none⟩) := by rw [e1, put_ne _ _ _ _ (by decide)]; exact t6
  replace t7 : a1.tmps.getD 7 undef = .int .i64 (i : Int) := by rw [e1, put_ne _ _ _ _ (by decide)]; exact t7
  have t72 : a1.tmps.getD 72 undef = .slice (some ⟨fb, 0, none⟩) n fc := by rw [e1]; exact put_same _ _ _ (by omega)
  clear e1 hsz
  refine wpAnyH_take (i := 1) (oi := { dst := some 73, op := Op.move (Operand.tmp 7), type := 3, pos := "law.go:59", after := #[], guard := none }) (v := .int .i64 (i : Int)) rfl (by kernel_rfl) (by kernel_rfl) (by kernel_rfl) (fun _ _ _ h => h) (Or.inl ⟨by rfl, fun w1 hw => by go_simp⟩) hHeld ?_
  change wpAnyH _ _ _ _ _ _ _ (a1.put (some 73) (.int .i64 (i : Int))) _
  obtain ⟨a2, e2⟩ : ∃ act, act = a1.put (some 73) (.int .i64 (i : Int)) := ⟨_, rfl⟩
  rw [← e2] at h ⊢
  have z2 : a2.tmps.size = 222 := by rw [e2, put_size]; exact z1
  replace t6 : a2.tmps.getD 6 undef = .pointer (some ⟨ob, 0, none⟩) := by rw [e2, put_ne _ _ _ _ (by decide)]; exact t6
  clear t7
  replace t72 : a2.tmps.getD 72 undef = .slice (some ⟨fb, 0, none⟩) n fc := by rw [e2, put_ne _ _ _ _ (by decide)]; exact t72
  have t73 : a2.tmps.getD 73 undef = .int .i64 (i : Int) := by rw [e2]; exact put_same _ _ _ (by omega)
  clear e2 z1
  refine wpAnyH_take (i := 2) (oi := { dst := some 74, op := Op.indexAddr 25 (Operand.tmp 72) (Operand.tmp 73), type := 0, pos := "law.go:59", after := #[{ on := 0, ground := Ground.data }, { on := 1, ground := Ground.data }], guard := none }) (v := .pointer (some ⟨fb, i, none⟩)) rfl (by kernel_rfl) (by kernel_rfl) (by kernel_rfl) (fun _ _ _ h => h) (Or.inl ⟨by rfl, fun w1 hw => by go_simp⟩) hHeld ?_
  change wpAnyH _ _ _ _ _ _ _ (a2.put (some 74) (.pointer (some ⟨fb, i, none⟩))) _
  obtain ⟨a3, e3⟩ : ∃ act, act = a2.put (some 74) (.pointer (some ⟨fb, i, none⟩)) := ⟨_, rfl⟩
  rw [← e3] at h ⊢
  have z3 : a3.tmps.size = 222 := by rw [e3, put_size]; exact z2
  replace t6 : a3.tmps.getD 6 undef = .pointer (some ⟨ob, 0, none⟩) := by rw [e3, put_ne _ _ _ _ (by decide)]; exact t6
  clear t72
  clear t73
  have t74 : a3.tmps.getD 74 undef = .pointer (some ⟨fb, i, none⟩) := by rw [e3]; exact put_same _ _ _ (by omega)
  clear e3 z2
  refine wpAnyH_take (i := 3) (oi := { dst := some 75, op := Op.load 23 (Operand.tmp 74), type := 23, pos := "law.go:59", after := #[{ on := 2, ground := Ground.data }], guard := none }) (v := .pointer px) rfl (by kernel_rfl) (by kernel_rfl) (by kernel_rfl) (fun _ _ _ h => h) (Or.inl ⟨by rfl, fun w1 hw => by have c := hw.1; go_simp⟩) hHeld ?_
  change wpAnyH _ _ _ _ _ _ _ (a3.put (some 75) (.pointer px)) _
  obtain ⟨a4, e4⟩ : ∃ act, act = a3.put (some 75) (.pointer px) := ⟨_, rfl⟩
  rw [← e4] at h ⊢
  have z4 : a4.tmps.size = 222 := by rw [e4, put_size]; exact z3
  replace t6 : a4.tmps.getD 6 undef = .pointer (some ⟨ob, 0, none⟩) := by rw [e4, put_ne _ _ _ _ (by decide)]; exact t6
  clear t74
  have t75 : a4.tmps.getD 75 undef = .pointer px := by rw [e4]; exact put_same _ _ _ (by omega)
  clear e4 z3
  refine wpAnyH_take (i := 4) (oi := { dst := some 76, op := Op.fieldAddr 33 (Operand.tmp 6) 3, type := 0, pos := "law.go:59", after := #[], guard := none }) (v := .pointer (some ⟨ob, 3, none⟩)) rfl (by kernel_rfl) (by kernel_rfl) (by kernel_rfl) (fun _ _ _ h => h) (Or.inl ⟨by rfl, fun w1 hw => by go_simp⟩) hHeld ?_
  change wpAnyH _ _ _ _ _ _ _ (a4.put (some 76) (.pointer (some ⟨ob, 3, none⟩))) _
  obtain ⟨a5, e5⟩ : ∃ act, act = a4.put (some 76) (.pointer (some ⟨ob, 3, none⟩)) := ⟨_, rfl⟩
  rw [← e5] at h ⊢
  have z5 : a5.tmps.size = 222 := by rw [e5, put_size]; exact z4
  clear t6
  replace t75 : a5.tmps.getD 75 undef = .pointer px := by rw [e5, put_ne _ _ _ _ (by decide)]; exact t75
  have t76 : a5.tmps.getD 76 undef = .pointer (some ⟨ob, 3, none⟩) := by rw [e5]; exact put_same _ _ _ (by omega)
  clear e5 z4
  refine wpAnyH_take (i := 5) (oi := { dst := some 77, op := Op.load 30 (Operand.tmp 76), type := 30, pos := "law.go:59", after := #[{ on := 4, ground := Ground.data }], guard := none }) (v := .agg (bs hh)) rfl (by kernel_rfl) (by kernel_rfl) (by kernel_rfl) (fun _ _ _ h => h) (Or.inl ⟨by rfl, fun w1 hw => exec_load rfl t76 hw.2⟩) hHeld ?_
  change wpAnyH _ _ _ _ _ _ _ (a5.put (some 77) (.agg (bs hh))) _
  obtain ⟨a6, e6⟩ : ∃ act, act = a5.put (some 77) (.agg (bs hh)) := ⟨_, rfl⟩
  rw [← e6] at h ⊢
  have z6 : a6.tmps.size = 222 := by rw [e6, put_size]; exact z5
  replace t75 : a6.tmps.getD 75 undef = .pointer px := by rw [e6, put_ne _ _ _ _ (by decide)]; exact t75
  clear t76
  have t77 : a6.tmps.getD 77 undef = .agg (bs hh) := by rw [e6]; exact put_same _ _ _ (by omega)
  clear e6 z5
  refine wpAnyH_ready (rs := [6]) (by kernel_rfl) (by simp) ?_
  refine AllReadyH.cons (o := { dst := some 78, op := Op.call { callee := Callee.value (Operand.func 12), args := #[Operand.tmp 75, Operand.tmp 77], argTypes := #[23, 30] }, type := 0, pos := "law.go:59", after := #[{ on := 3, ground := Ground.data }, { on := 5, ground := Ground.data }], guard := none }) rfl (fun K hK => ?_) AllReadyH.nil
  rw [if_pos (by rfl)]
  go_simp
  refine (CA).mono ?_
  rintro e x7 ⟨rfl, d1, s1⟩
  try go_wp2_with fail
  skip
  refine hK.out _ _ (s1) (fun hHeld => ?_)
  clear hK K
  change wpAnyH _ _ _ _ _ _ _ (a6.put (some 78) (.tuple #[])) _
  obtain ⟨a7, e7⟩ : ∃ act, act = a6.put (some 78) (.tuple #[]) := ⟨_, rfl⟩
  rw [← e7] at h ⊢
  have z7 : a7.tmps.size = 222 := by rw [e7, put_size]; exact z6
  clear t75
  clear t77
  clear e7 z6
  exact wpAnyH_done (by kernel_rfl) (NoPanic.normal (h _ _ d1 rfl)) _
def plays14_ops : Array Oper := #[{ dst := some 79, op := Op.move (Operand.tmp 4), type := 28, pos := "law.go:60", after := #[], guard := none }, { dst := some 80, op := Op.move (Operand.tmp 7), type := 3, pos := "law.go:60", after := #[], guard := none }, { dst := some 81, op := Op.indexAddr 28 (Operand.tmp 79) (Operand.tmp 80), type := 0, pos := "law.go:60", after := #[{ on := 0, ground := Ground.data }, { on := 1, ground := Ground.data }], guard := none }, { dst := some 82, op := Op.load 26 (Operand.tmp 81), type := 26, pos := "law.go:60", after := #[{ on := 2, ground := Ground.data }], guard := none }, { dst := some 83, op := Op.fieldAddr 33 (Operand.tmp 6) 3, type := 0, pos := "law.go:60", after := #[], guard := none }, { dst := some 84, op := Op.load 30 (Operand.tmp 83), type := 30, pos := "law.go:60", after := #[{ on := 4, ground := Ground.data }], guard := none }, { dst := some 85, op := Op.call { callee := Callee.value (Operand.func 13), args := #[Operand.tmp 82, Operand.tmp 84], argTypes := #[26, 30] }, type := 0, pos := "law.go:60", after := #[{ on := 3, ground := Ground.data }, { on := 5, ground := Ground.data }], guard := none }]
set_option maxRecDepth 100000 in
set_option maxHeartbeats 4000000 in
theorem plays14 (gb gc n i ob : Nat) (py : Option Addr) (hh : List UInt8) (D : World → Prop) (a : Act) (w : World) (Q : Exit → Act → World → Prop) (hsz : a.tmps.size = 222)
    (t4 : a.tmps.getD 4 undef = .slice (some ⟨gb, 0, none⟩) n gc)
    (t6 : a.tmps.getD 6 undef = .pointer (some ⟨ob, 0, none⟩))
    (t7 : a.tmps.getD 7 undef = .int .i64 (i : Int))
    (h0 : w.drew.cell? ⟨gb, i, none⟩ = some (.pointer py) ∧ (Instr.loadAt 30 (.pointer (some ⟨ob, 3, none⟩))).run Try.prog w.drew = .ok (.agg (bs hh)) w.drew)
    (IX1 : ∀ W, (Instr.indexAt 28 (.slice (some ⟨gb, 0, none⟩) n gc) (.int .i64 (i : Int))).run Try.prog W = .ok (.pointer (some ⟨gb, i, none⟩)) W)
    (CA : Calls Try.prog 13 #[.pointer py, .agg (bs hh)] w.drew fun e w' => e = .returned (.tuple #[]) ∧ D w' ∧ (w'.cell? ⟨gb, i, none⟩ = some (.pointer py) ∧ (Instr.loadAt 30 (.pointer (some ⟨ob, 3, none⟩))).run Try.prog w' = .ok (.agg (bs hh)) w'))
    (h : ∀ (a' : Act) (w' : World), D w' → a' = (((((((a).put (some 79) (.slice (some ⟨gb, 0, none⟩) n gc)).put (some 80) (.int .i64 (i : Int))).put (some 81) (.pointer (some ⟨gb, i, none⟩))).put (some 82) (.pointer py)).put (some 83) (.pointer (some ⟨ob, 3, none⟩))).put (some 84) (.agg (bs hh))).put (some 85) (.tuple #[]) → Q .normal a' w') :
    (Code.region 14 plays14_ops true).wp Try.prog Q a w := by
  refine wp_region_noPanic ?_
  refine wp_region_held_drew (S := fun w' => w'.cell? ⟨gb, i, none⟩ = some (.pointer py) ∧ (Instr.loadAt 30 (.pointer (some ⟨ob, 3, none⟩))).run Try.prog w' = .ok (.agg (bs hh)) w') (by kernel_rfl) (h0) (fun hHeld => ?_)
  refine wpAnyH_take (i := 0) (oi := { dst := some 79, op := Op.move (Operand.tmp 4), type := 28, pos := "law.go:60", after := #[], guard := none }) (v := .slice (some ⟨gb, 0, none⟩) n gc) rfl (by kernel_rfl) (by kernel_rfl) (by kernel_rfl) (fun _ _ _ h => h) (Or.inl ⟨by rfl, fun w1 hw => by go_simp⟩) hHeld ?_
  change wpAnyH _ _ _ _ _ _ _ (a.put (some 79) (.slice (some ⟨gb, 0, none⟩) n gc)) _
  obtain ⟨a1, e1⟩ : ∃ act, act = a.put (some 79) (.slice (some ⟨gb, 0, none⟩) n gc) := ⟨_, rfl⟩
  rw [← e1] at h ⊢
  have z1 : a1.tmps.size = 222 := by rw [e1, put_size]; exact hsz
  clear t4
  replace t6 : a1.tmps.getD 6 undef = .pointer (some ⟨ob, 0, none⟩) := by rw [e1, put_ne _ _ _ _ (by decide)]; exact t6
  replace t7 : a1.tmps.getD 7 undef = .int .i64 (i : Int) := by rw [e1, put_ne _ _ _ _ (by decide)]; exact t7
  have t79 : a1.tmps.getD 79 undef = .slice (some ⟨gb, 0, none⟩) n gc := by rw [e1]; exact put_same _ _ _ (by omega)
  clear e1 hsz
  refine wpAnyH_take (i := 1) (oi := { dst := some 80, op := Op.move (Operand.tmp 7), type := 3, pos := "law.go:60", after := #[], guard := none }) (v := .int .i64 (i : Int)) rfl (by kernel_rfl) (by kernel_rfl) (by kernel_rfl) (fun _ _ _ h => h) (Or.inl ⟨by rfl, fun w1 hw => by go_simp⟩) hHeld ?_
  change wpAnyH _ _ _ _ _ _ _ (a1.put (some 80) (.int .i64 (i : Int))) _
  obtain ⟨a2, e2⟩ : ∃ act, act = a1.put (some 80) (.int .i64 (i : Int)) := ⟨_, rfl⟩
  rw [← e2] at h ⊢
  have z2 : a2.tmps.size = 222 := by rw [e2, put_size]; exact z1
  replace t6 : a2.tmps.getD 6 undef = .pointer (some ⟨ob, 0, none⟩) := by rw [e2, put_ne _ _ _ _ (by decide)]; exact t6
  clear t7
  replace t79 : a2.tmps.getD 79 undef = .slice (some ⟨gb, 0, none⟩) n gc := by rw [e2, put_ne _ _ _ _ (by decide)]; exact t79
  have t80 : a2.tmps.getD 80 undef = .int .i64 (i : Int) := by rw [e2]; exact put_same _ _ _ (by omega)
  clear e2 z1
  refine wpAnyH_take (i := 2) (oi := { dst := some 81, op := Op.indexAddr 28 (Operand.tmp 79) (Operand.tmp 80), type := 0, pos := "law.go:60", after := #[{ on := 0, ground := Ground.data }, { on := 1, ground := Ground.data }], guard := none }) (v := .pointer (some ⟨gb, i, none⟩)) rfl (by kernel_rfl) (by kernel_rfl) (by kernel_rfl) (fun _ _ _ h => h) (Or.inl ⟨by rfl, fun w1 hw => by go_simp⟩) hHeld ?_
  change wpAnyH _ _ _ _ _ _ _ (a2.put (some 81) (.pointer (some ⟨gb, i, none⟩))) _
  obtain ⟨a3, e3⟩ : ∃ act, act = a2.put (some 81) (.pointer (some ⟨gb, i, none⟩)) := ⟨_, rfl⟩
  rw [← e3] at h ⊢
  have z3 : a3.tmps.size = 222 := by rw [e3, put_size]; exact z2
  replace t6 : a3.tmps.getD 6 undef = .pointer (some ⟨ob, 0, none⟩) := by rw [e3, put_ne _ _ _ _ (by decide)]; exact t6
  clear t79
  clear t80
  have t81 : a3.tmps.getD 81 undef = .pointer (some ⟨gb, i, none⟩) := by rw [e3]; exact put_same _ _ _ (by omega)
  clear e3 z2
  refine wpAnyH_take (i := 3) (oi := { dst := some 82, op := Op.load 26 (Operand.tmp 81), type := 26, pos := "law.go:60", after := #[{ on := 2, ground := Ground.data }], guard := none }) (v := .pointer py) rfl (by kernel_rfl) (by kernel_rfl) (by kernel_rfl) (fun _ _ _ h => h) (Or.inl ⟨by rfl, fun w1 hw => by have c := hw.1; go_simp⟩) hHeld ?_
  change wpAnyH _ _ _ _ _ _ _ (a3.put (some 82) (.pointer py)) _
  obtain ⟨a4, e4⟩ : ∃ act, act = a3.put (some 82) (.pointer py) := ⟨_, rfl⟩
  rw [← e4] at h ⊢
  have z4 : a4.tmps.size = 222 := by rw [e4, put_size]; exact z3
  replace t6 : a4.tmps.getD 6 undef = .pointer (some ⟨ob, 0, none⟩) := by rw [e4, put_ne _ _ _ _ (by decide)]; exact t6
  clear t81
  have t82 : a4.tmps.getD 82 undef = .pointer py := by rw [e4]; exact put_same _ _ _ (by omega)
  clear e4 z3
  refine wpAnyH_take (i := 4) (oi := { dst := some 83, op := Op.fieldAddr 33 (Operand.tmp 6) 3, type := 0, pos := "law.go:60", after := #[], guard := none }) (v := .pointer (some ⟨ob, 3, none⟩)) rfl (by kernel_rfl) (by kernel_rfl) (by kernel_rfl) (fun _ _ _ h => h) (Or.inl ⟨by rfl, fun w1 hw => by go_simp⟩) hHeld ?_
  change wpAnyH _ _ _ _ _ _ _ (a4.put (some 83) (.pointer (some ⟨ob, 3, none⟩))) _
  obtain ⟨a5, e5⟩ : ∃ act, act = a4.put (some 83) (.pointer (some ⟨ob, 3, none⟩)) := ⟨_, rfl⟩
  rw [← e5] at h ⊢
  have z5 : a5.tmps.size = 222 := by rw [e5, put_size]; exact z4
  clear t6
  replace t82 : a5.tmps.getD 82 undef = .pointer py := by rw [e5, put_ne _ _ _ _ (by decide)]; exact t82
  have t83 : a5.tmps.getD 83 undef = .pointer (some ⟨ob, 3, none⟩) := by rw [e5]; exact put_same _ _ _ (by omega)
  clear e5 z4
  refine wpAnyH_take (i := 5) (oi := { dst := some 84, op := Op.load 30 (Operand.tmp 83), type := 30, pos := "law.go:60", after := #[{ on := 4, ground := Ground.data }], guard := none }) (v := .agg (bs hh)) rfl (by kernel_rfl) (by kernel_rfl) (by kernel_rfl) (fun _ _ _ h => h) (Or.inl ⟨by rfl, fun w1 hw => exec_load rfl t83 hw.2⟩) hHeld ?_
  change wpAnyH _ _ _ _ _ _ _ (a5.put (some 84) (.agg (bs hh))) _
  obtain ⟨a6, e6⟩ : ∃ act, act = a5.put (some 84) (.agg (bs hh)) := ⟨_, rfl⟩
  rw [← e6] at h ⊢
  have z6 : a6.tmps.size = 222 := by rw [e6, put_size]; exact z5
  replace t82 : a6.tmps.getD 82 undef = .pointer py := by rw [e6, put_ne _ _ _ _ (by decide)]; exact t82
  clear t83
  have t84 : a6.tmps.getD 84 undef = .agg (bs hh) := by rw [e6]; exact put_same _ _ _ (by omega)
  clear e6 z5
  refine wpAnyH_ready (rs := [6]) (by kernel_rfl) (by simp) ?_
  refine AllReadyH.cons (o := { dst := some 85, op := Op.call { callee := Callee.value (Operand.func 13), args := #[Operand.tmp 82, Operand.tmp 84], argTypes := #[26, 30] }, type := 0, pos := "law.go:60", after := #[{ on := 3, ground := Ground.data }, { on := 5, ground := Ground.data }], guard := none }) rfl (fun K hK => ?_) AllReadyH.nil
  rw [if_pos (by rfl)]
  go_simp
  refine (CA).mono ?_
  rintro e x7 ⟨rfl, d1, s1⟩
  try go_wp2_with fail
  skip
  refine hK.out _ _ (s1) (fun hHeld => ?_)
  clear hK K
  change wpAnyH _ _ _ _ _ _ _ (a6.put (some 85) (.tuple #[])) _
  obtain ⟨a7, e7⟩ : ∃ act, act = a6.put (some 85) (.tuple #[]) := ⟨_, rfl⟩
  rw [← e7] at h ⊢
  have z7 : a7.tmps.size = 222 := by rw [e7, put_size]; exact z6
  clear t82
  clear t84
  clear e7 z6
  exact wpAnyH_done (by kernel_rfl) (NoPanic.normal (h _ _ d1 rfl)) _
def plays17_ops : Array Oper := #[{ dst := some 93, op := Op.move (Operand.tmp 3), type := 25, pos := "law.go:63", after := #[], guard := none }, { dst := some 94, op := Op.move (Operand.tmp 7), type := 3, pos := "law.go:63", after := #[], guard := none }, { dst := some 95, op := Op.indexAddr 25 (Operand.tmp 93) (Operand.tmp 94), type := 0, pos := "law.go:63", after := #[{ on := 0, ground := Ground.data }, { on := 1, ground := Ground.data }], guard := none }, { dst := some 96, op := Op.load 23 (Operand.tmp 95), type := 23, pos := "law.go:63", after := #[{ on := 2, ground := Ground.data }], guard := none }, { dst := some 97, op := Op.move (Operand.tmp 3), type := 25, pos := "law.go:63", after := #[], guard := none }, { dst := some 98, op := Op.move (Operand.tmp 9), type := 3, pos := "law.go:63", after := #[], guard := none }, { dst := some 99, op := Op.indexAddr 25 (Operand.tmp 97) (Operand.tmp 98), type := 0, pos := "law.go:63", after := #[{ on := 4, ground := Ground.data }, { on := 5, ground := Ground.data }], guard := none }, { dst := some 100, op := Op.load 23 (Operand.tmp 99), type := 23, pos := "law.go:63", after := #[{ on := 6, ground := Ground.data }], guard := none }, { dst := some 101, op := Op.call { callee := Callee.value (Operand.func 14), args := #[Operand.tmp 96, Operand.tmp 100], argTypes := #[23, 23] }, type := 36, pos := "law.go:63", after := #[{ on := 3, ground := Ground.data }, { on := 7, ground := Ground.data }], guard := none }, { dst := some 102, op := Op.move (Operand.tmp 4), type := 28, pos := "law.go:63", after := #[], guard := none }, { dst := some 103, op := Op.move (Operand.tmp 7), type := 3, pos := "law.go:63", after := #[], guard := none }, { dst := some 104, op := Op.indexAddr 28 (Operand.tmp 102) (Operand.tmp 103), type := 0, pos := "law.go:63", after := #[{ on := 9, ground := Ground.data }, { on := 10, ground := Ground.data }], guard := none }, { dst := some 105, op := Op.load 26 (Operand.tmp 104), type := 26, pos := "law.go:63", after := #[{ on := 11, ground := Ground.data }], guard := none }, { dst := some 106, op := Op.move (Operand.tmp 4), type := 28, pos := "law.go:63", after := #[], guard := none }, { dst := some 107, op := Op.move (Operand.tmp 9), type := 3, pos := "law.go:63", after := #[], guard := none }, { dst := some 108, op := Op.indexAddr 28 (Operand.tmp 106) (Operand.tmp 107), type := 0, pos := "law.go:63", after := #[{ on := 13, ground := Ground.data }, { on := 14, ground := Ground.data }], guard := none }, { dst := some 109, op := Op.load 26 (Operand.tmp 108), type := 26, pos := "law.go:63", after := #[{ on := 15, ground := Ground.data }], guard := none }, { dst := some 110, op := Op.call { callee := Callee.value (Operand.func 15), args := #[Operand.tmp 105, Operand.tmp 109], argTypes := #[26, 26] }, type := 36, pos := "law.go:63", after := #[{ on := 12, ground := Ground.data }, { on := 16, ground := Ground.data }, { on := 8, ground := Ground.chain }], guard := none }, { dst := some 111, op := Op.binOp BinOp.eql 36 (Operand.tmp 101) (Operand.tmp 110) 36, type := 4, pos := "law.go:63", after := #[{ on := 8, ground := Ground.data }, { on := 17, ground := Ground.data }], guard := none }, { dst := some 8, op := Op.assign (Operand.tmp 111), type := 4, pos := "law.go:63", after := #[{ on := 18, ground := Ground.data }, { on := 17, ground := Ground.chain }, { on := 0, ground := Ground.phase }, { on := 1, ground := Ground.phase }, { on := 2, ground := Ground.phase }, { on := 3, ground := Ground.phase }, { on := 4, ground := Ground.phase }, { on := 5, ground := Ground.phase }, { on := 6, ground := Ground.phase }, { on := 7, ground := Ground.phase }, { on := 8, ground := Ground.phase }, { on := 9, ground := Ground.phase }, { on := 10, ground := Ground.phase }, { on := 11, ground := Ground.phase }, { on := 12, ground := Ground.phase }, { on := 13, ground := Ground.phase }, { on := 14, ground := Ground.phase }, { on := 15, ground := Ground.phase }, { on := 16, ground := Ground.phase }, { on := 17, ground := Ground.phase }, { on := 18, ground := Ground.phase }], guard := none }]
set_option maxRecDepth 100000 in
set_option maxHeartbeats 4000000 in
theorem plays17 (fb fc gb gc n i k : Nat) (px px2 py py2 : Option Addr) (r : Int) (D1 D2 : World → Prop) (a : Act) (w : World) (Q : Exit → Act → World → Prop) (hsz : a.tmps.size = 222)
    (t3 : a.tmps.getD 3 undef = .slice (some ⟨fb, 0, none⟩) n fc)
    (t4 : a.tmps.getD 4 undef = .slice (some ⟨gb, 0, none⟩) n gc)
    (t7 : a.tmps.getD 7 undef = .int .i64 (i : Int))
    (t9 : a.tmps.getD 9 undef = .int .i64 (k : Int))
    (h0 : w.drew.cell? ⟨fb, i, none⟩ = some (.pointer px) ∧ w.drew.cell? ⟨fb, k, none⟩ = some (.pointer px2) ∧ w.drew.cell? ⟨gb, i, none⟩ = some (.pointer py) ∧ w.drew.cell? ⟨gb, k, none⟩ = some (.pointer py2))
    (IX1 : ∀ W, (Instr.indexAt 25 (.slice (some ⟨fb, 0, none⟩) n fc) (.int .i64 (i : Int))).run Try.prog W = .ok (.pointer (some ⟨fb, i, none⟩)) W)
    (IX2 : ∀ W, (Instr.indexAt 25 (.slice (some ⟨fb, 0, none⟩) n fc) (.int .i64 (k : Int))).run Try.prog W = .ok (.pointer (some ⟨fb, k, none⟩)) W)
    (IX3 : ∀ W, (Instr.indexAt 28 (.slice (some ⟨gb, 0, none⟩) n gc) (.int .i64 (i : Int))).run Try.prog W = .ok (.pointer (some ⟨gb, i, none⟩)) W)
    (IX4 : ∀ W, (Instr.indexAt 28 (.slice (some ⟨gb, 0, none⟩) n gc) (.int .i64 (k : Int))).run Try.prog W = .ok (.pointer (some ⟨gb, k, none⟩)) W)
    (CA : Calls Try.prog 14 #[.pointer px, .pointer px2] w.drew fun e w' => e = .returned (.int .i64 r) ∧ D1 w' ∧ (w'.cell? ⟨fb, i, none⟩ = some (.pointer px) ∧ w'.cell? ⟨fb, k, none⟩ = some (.pointer px2) ∧ w'.cell? ⟨gb, i, none⟩ = some (.pointer py) ∧ w'.cell? ⟨gb, k, none⟩ = some (.pointer py2)))
    (CB : ∀ W, D1 W → Calls Try.prog 15 #[.pointer py, .pointer py2] W fun e w' => e = .returned (.int .i64 r) ∧ D2 w' ∧ (w'.cell? ⟨fb, i, none⟩ = some (.pointer px) ∧ w'.cell? ⟨fb, k, none⟩ = some (.pointer px2) ∧ w'.cell? ⟨gb, i, none⟩ = some (.pointer py) ∧ w'.cell? ⟨gb, k, none⟩ = some (.pointer py2)))
    (h : ∀ (a' : Act) (w' : World), D2 w' → a' = ((((((((((((((((((((a).put (some 93) (.slice (some ⟨fb, 0, none⟩) n fc)).put (some 94) (.int .i64 (i : Int))).put (some 95) (.pointer (some ⟨fb, i, none⟩))).put (some 96) (.pointer px)).put (some 97) (.slice (some ⟨fb, 0, none⟩) n fc)).put (some 98) (.int .i64 (k : Int))).put (some 99) (.pointer (some ⟨fb, k, none⟩))).put (some 100) (.pointer px2)).put (some 102) (.slice (some ⟨gb, 0, none⟩) n gc)).put (some 103) (.int .i64 (i : Int))).put (some 104) (.pointer (some ⟨gb, i, none⟩))).put (some 105) (.pointer py)).put (some 106) (.slice (some ⟨gb, 0, none⟩) n gc)).put (some 107) (.int .i64 (k : Int))).put (some 108) (.pointer (some ⟨gb, k, none⟩))).put (some 109) (.pointer py2)).put (some 101) (.int .i64 r)).put (some 110) (.int .i64 r)).put (some 111) (.bool true)).put (some 8) (.bool true) → Q .normal a' w') :
    (Code.region 17 plays17_ops true).wp Try.prog Q a w := by
  refine wp_region_noPanic ?_
  refine wp_region_held_drew (S := fun w' => w'.cell? ⟨fb, i, none⟩ = some (.pointer px) ∧ w'.cell? ⟨fb, k, none⟩ = some (.pointer px2) ∧ w'.cell? ⟨gb, i, none⟩ = some (.pointer py) ∧ w'.cell? ⟨gb, k, none⟩ = some (.pointer py2)) (by kernel_rfl) (h0) (fun hHeld => ?_)
  refine wpAnyH_take (i := 0) (oi := { dst := some 93, op := Op.move (Operand.tmp 3), type := 25, pos := "law.go:63", after := #[], guard := none }) (v := .slice (some ⟨fb, 0, none⟩) n fc) rfl (by kernel_rfl) (by kernel_rfl) (by kernel_rfl) (fun _ _ _ h => h) (Or.inl ⟨by rfl, fun w1 hw => by go_simp⟩) hHeld ?_
  change wpAnyH _ _ _ _ _ _ _ (a.put (some 93) (.slice (some ⟨fb, 0, none⟩) n fc)) _
  obtain ⟨a1, e1⟩ : ∃ act, act = a.put (some 93) (.slice (some ⟨fb, 0, none⟩) n fc) := ⟨_, rfl⟩
  rw [← e1] at h ⊢
  have z1 : a1.tmps.size = 222 := by rw [e1, put_size]; exact hsz
  replace t3 : a1.tmps.getD 3 undef = .slice (some ⟨fb, 0, none⟩) n fc := by rw [e1, put_ne _ _ _ _ (by decide)]; exact t3
  replace t4 : a1.tmps.getD 4 undef = .slice (some ⟨gb, 0, none⟩) n gc := by rw [e1, put_ne _ _ _ _ (by decide)]; exact t4
  replace t7 : a1.tmps.getD 7 undef = .int .i64 (i : Int) := by rw [e1, put_ne _ _ _ _ (by decide)]; exact t7
  replace t9 : a1.tmps.getD 9 undef = .int .i64 (k : Int) := by rw [e1, put_ne _ _ _ _ (by decide)]; exact t9
  have t93 : a1.tmps.getD 93 undef = .slice (some ⟨fb, 0, none⟩) n fc := by rw [e1]; exact put_same _ _ _ (by omega)
  clear e1 hsz
  refine wpAnyH_take (i := 1) (oi := { dst := some 94, op := Op.move (Operand.tmp 7), type := 3, pos := "law.go:63", after := #[], guard := none }) (v := .int .i64 (i : Int)) rfl (by kernel_rfl) (by kernel_rfl) (by kernel_rfl) (fun _ _ _ h => h) (Or.inl ⟨by rfl, fun w1 hw => by go_simp⟩) hHeld ?_
  change wpAnyH _ _ _ _ _ _ _ (a1.put (some 94) (.int .i64 (i : Int))) _
  obtain ⟨a2, e2⟩ : ∃ act, act = a1.put (some 94) (.int .i64 (i : Int)) := ⟨_, rfl⟩
  rw [← e2] at h ⊢
  have z2 : a2.tmps.size = 222 := by rw [e2, put_size]; exact z1
  replace t3 : a2.tmps.getD 3 undef = .slice (some ⟨fb, 0, none⟩) n fc := by rw [e2, put_ne _ _ _ _ (by decide)]; exact t3
  replace t4 : a2.tmps.getD 4 undef = .slice (some ⟨gb, 0, none⟩) n gc := by rw [e2, put_ne _ _ _ _ (by decide)]; exact t4
  replace t7 : a2.tmps.getD 7 undef = .int .i64 (i : Int) := by rw [e2, put_ne _ _ _ _ (by decide)]; exact t7
  replace t9 : a2.tmps.getD 9 undef = .int .i64 (k : Int) := by rw [e2, put_ne _ _ _ _ (by decide)]; exact t9
  replace t93 : a2.tmps.getD 93 undef = .slice (some ⟨fb, 0, none⟩) n fc := by rw [e2, put_ne _ _ _ _ (by decide)]; exact t93
  have t94 : a2.tmps.getD 94 undef = .int .i64 (i : Int) := by rw [e2]; exact put_same _ _ _ (by omega)
  clear e2 z1
  refine wpAnyH_take (i := 2) (oi := { dst := some 95, op := Op.indexAddr 25 (Operand.tmp 93) (Operand.tmp 94), type := 0, pos := "law.go:63", after := #[{ on := 0, ground := Ground.data }, { on := 1, ground := Ground.data }], guard := none }) (v := .pointer (some ⟨fb, i, none⟩)) rfl (by kernel_rfl) (by kernel_rfl) (by kernel_rfl) (fun _ _ _ h => h) (Or.inl ⟨by rfl, fun w1 hw => by go_simp⟩) hHeld ?_
  change wpAnyH _ _ _ _ _ _ _ (a2.put (some 95) (.pointer (some ⟨fb, i, none⟩))) _
  obtain ⟨a3, e3⟩ : ∃ act, act = a2.put (some 95) (.pointer (some ⟨fb, i, none⟩)) := ⟨_, rfl⟩
  rw [← e3] at h ⊢
  have z3 : a3.tmps.size = 222 := by rw [e3, put_size]; exact z2
  replace t3 : a3.tmps.getD 3 undef = .slice (some ⟨fb, 0, none⟩) n fc := by rw [e3, put_ne _ _ _ _ (by decide)]; exact t3
  replace t4 : a3.tmps.getD 4 undef = .slice (some ⟨gb, 0, none⟩) n gc := by rw [e3, put_ne _ _ _ _ (by decide)]; exact t4
  replace t7 : a3.tmps.getD 7 undef = .int .i64 (i : Int) := by rw [e3, put_ne _ _ _ _ (by decide)]; exact t7
  replace t9 : a3.tmps.getD 9 undef = .int .i64 (k : Int) := by rw [e3, put_ne _ _ _ _ (by decide)]; exact t9
  clear t93
  clear t94
  have t95 : a3.tmps.getD 95 undef = .pointer (some ⟨fb, i, none⟩) := by rw [e3]; exact put_same _ _ _ (by omega)
  clear e3 z2
  refine wpAnyH_take (i := 3) (oi := { dst := some 96, op := Op.load 23 (Operand.tmp 95), type := 23, pos := "law.go:63", after := #[{ on := 2, ground := Ground.data }], guard := none }) (v := .pointer px) rfl (by kernel_rfl) (by kernel_rfl) (by kernel_rfl) (fun _ _ _ h => h) (Or.inl ⟨by rfl, fun w1 hw => by have c := hw.1; go_simp⟩) hHeld ?_
  change wpAnyH _ _ _ _ _ _ _ (a3.put (some 96) (.pointer px)) _
  obtain ⟨a4, e4⟩ : ∃ act, act = a3.put (some 96) (.pointer px) := ⟨_, rfl⟩
  rw [← e4] at h ⊢
  have z4 : a4.tmps.size = 222 := by rw [e4, put_size]; exact z3
  replace t3 : a4.tmps.getD 3 undef = .slice (some ⟨fb, 0, none⟩) n fc := by rw [e4, put_ne _ _ _ _ (by decide)]; exact t3
  replace t4 : a4.tmps.getD 4 undef = .slice (some ⟨gb, 0, none⟩) n gc := by rw [e4, put_ne _ _ _ _ (by decide)]; exact t4
  replace t7 : a4.tmps.getD 7 undef = .int .i64 (i : Int) := by rw [e4, put_ne _ _ _ _ (by decide)]; exact t7
  replace t9 : a4.tmps.getD 9 undef = .int .i64 (k : Int) := by rw [e4, put_ne _ _ _ _ (by decide)]; exact t9
  clear t95
  have t96 : a4.tmps.getD 96 undef = .pointer px := by rw [e4]; exact put_same _ _ _ (by omega)
  clear e4 z3
  refine wpAnyH_take (i := 4) (oi := { dst := some 97, op := Op.move (Operand.tmp 3), type := 25, pos := "law.go:63", after := #[], guard := none }) (v := .slice (some ⟨fb, 0, none⟩) n fc) rfl (by kernel_rfl) (by kernel_rfl) (by kernel_rfl) (fun _ _ _ h => h) (Or.inl ⟨by rfl, fun w1 hw => by go_simp⟩) hHeld ?_
  change wpAnyH _ _ _ _ _ _ _ (a4.put (some 97) (.slice (some ⟨fb, 0, none⟩) n fc)) _
  obtain ⟨a5, e5⟩ : ∃ act, act = a4.put (some 97) (.slice (some ⟨fb, 0, none⟩) n fc) := ⟨_, rfl⟩
  rw [← e5] at h ⊢
  have z5 : a5.tmps.size = 222 := by rw [e5, put_size]; exact z4
  clear t3
  replace t4 : a5.tmps.getD 4 undef = .slice (some ⟨gb, 0, none⟩) n gc := by rw [e5, put_ne _ _ _ _ (by decide)]; exact t4
  replace t7 : a5.tmps.getD 7 undef = .int .i64 (i : Int) := by rw [e5, put_ne _ _ _ _ (by decide)]; exact t7
  replace t9 : a5.tmps.getD 9 undef = .int .i64 (k : Int) := by rw [e5, put_ne _ _ _ _ (by decide)]; exact t9
  replace t96 : a5.tmps.getD 96 undef = .pointer px := by rw [e5, put_ne _ _ _ _ (by decide)]; exact t96
  have t97 : a5.tmps.getD 97 undef = .slice (some ⟨fb, 0, none⟩) n fc := by rw [e5]; exact put_same _ _ _ (by omega)
  clear e5 z4
  refine wpAnyH_take (i := 5) (oi := { dst := some 98, op := Op.move (Operand.tmp 9), type := 3, pos := "law.go:63", after := #[], guard := none }) (v := .int .i64 (k : Int)) rfl (by kernel_rfl) (by kernel_rfl) (by kernel_rfl) (fun _ _ _ h => h) (Or.inl ⟨by rfl, fun w1 hw => by go_simp⟩) hHeld ?_
  change wpAnyH _ _ _ _ _ _ _ (a5.put (some 98) (.int .i64 (k : Int))) _
  obtain ⟨a6, e6⟩ : ∃ act, act = a5.put (some 98) (.int .i64 (k : Int)) := ⟨_, rfl⟩
  rw [← e6] at h ⊢
  have z6 : a6.tmps.size = 222 := by rw [e6, put_size]; exact z5
  replace t4 : a6.tmps.getD 4 undef = .slice (some ⟨gb, 0, none⟩) n gc := by rw [e6, put_ne _ _ _ _ (by decide)]; exact t4
  replace t7 : a6.tmps.getD 7 undef = .int .i64 (i : Int) := by rw [e6, put_ne _ _ _ _ (by decide)]; exact t7
  replace t9 : a6.tmps.getD 9 undef = .int .i64 (k : Int) := by rw [e6, put_ne _ _ _ _ (by decide)]; exact t9
  replace t96 : a6.tmps.getD 96 undef = .pointer px := by rw [e6, put_ne _ _ _ _ (by decide)]; exact t96
  replace t97 : a6.tmps.getD 97 undef = .slice (some ⟨fb, 0, none⟩) n fc := by rw [e6, put_ne _ _ _ _ (by decide)]; exact t97
  have t98 : a6.tmps.getD 98 undef = .int .i64 (k : Int) := by rw [e6]; exact put_same _ _ _ (by omega)
  clear e6 z5
  refine wpAnyH_take (i := 6) (oi := { dst := some 99, op := Op.indexAddr 25 (Operand.tmp 97) (Operand.tmp 98), type := 0, pos := "law.go:63", after := #[{ on := 4, ground := Ground.data }, { on := 5, ground := Ground.data }], guard := none }) (v := .pointer (some ⟨fb, k, none⟩)) rfl (by kernel_rfl) (by kernel_rfl) (by kernel_rfl) (fun _ _ _ h => h) (Or.inl ⟨by rfl, fun w1 hw => by go_simp⟩) hHeld ?_
  change wpAnyH _ _ _ _ _ _ _ (a6.put (some 99) (.pointer (some ⟨fb, k, none⟩))) _
  obtain ⟨a7, e7⟩ : ∃ act, act = a6.put (some 99) (.pointer (some ⟨fb, k, none⟩)) := ⟨_, rfl⟩
  rw [← e7] at h ⊢
  have z7 : a7.tmps.size = 222 := by rw [e7, put_size]; exact z6
  replace t4 : a7.tmps.getD 4 undef = .slice (some ⟨gb, 0, none⟩) n gc := by rw [e7, put_ne _ _ _ _ (by decide)]; exact t4
  replace t7 : a7.tmps.getD 7 undef = .int .i64 (i : Int) := by rw [e7, put_ne _ _ _ _ (by decide)]; exact t7
  replace t9 : a7.tmps.getD 9 undef = .int .i64 (k : Int) := by rw [e7, put_ne _ _ _ _ (by decide)]; exact t9
  replace t96 : a7.tmps.getD 96 undef = .pointer px := by rw [e7, put_ne _ _ _ _ (by decide)]; exact t96
  clear t97
  clear t98
  have t99 : a7.tmps.getD 99 undef = .pointer (some ⟨fb, k, none⟩) := by rw [e7]; exact put_same _ _ _ (by omega)
  clear e7 z6
  refine wpAnyH_take (i := 7) (oi := { dst := some 100, op := Op.load 23 (Operand.tmp 99), type := 23, pos := "law.go:63", after := #[{ on := 6, ground := Ground.data }], guard := none }) (v := .pointer px2) rfl (by kernel_rfl) (by kernel_rfl) (by kernel_rfl) (fun _ _ _ h => h) (Or.inl ⟨by rfl, fun w1 hw => by have c := hw.2.1; go_simp⟩) hHeld ?_
  change wpAnyH _ _ _ _ _ _ _ (a7.put (some 100) (.pointer px2)) _
  obtain ⟨a8, e8⟩ : ∃ act, act = a7.put (some 100) (.pointer px2) := ⟨_, rfl⟩
  rw [← e8] at h ⊢
  have z8 : a8.tmps.size = 222 := by rw [e8, put_size]; exact z7
  replace t4 : a8.tmps.getD 4 undef = .slice (some ⟨gb, 0, none⟩) n gc := by rw [e8, put_ne _ _ _ _ (by decide)]; exact t4
  replace t7 : a8.tmps.getD 7 undef = .int .i64 (i : Int) := by rw [e8, put_ne _ _ _ _ (by decide)]; exact t7
  replace t9 : a8.tmps.getD 9 undef = .int .i64 (k : Int) := by rw [e8, put_ne _ _ _ _ (by decide)]; exact t9
  replace t96 : a8.tmps.getD 96 undef = .pointer px := by rw [e8, put_ne _ _ _ _ (by decide)]; exact t96
  clear t99
  have t100 : a8.tmps.getD 100 undef = .pointer px2 := by rw [e8]; exact put_same _ _ _ (by omega)
  clear e8 z7
  refine wpAnyH_take (i := 9) (oi := { dst := some 102, op := Op.move (Operand.tmp 4), type := 28, pos := "law.go:63", after := #[], guard := none }) (v := .slice (some ⟨gb, 0, none⟩) n gc) rfl (by kernel_rfl) (by kernel_rfl) (by kernel_rfl) (fun _ _ _ h => h) (Or.inl ⟨by rfl, fun w1 hw => by go_simp⟩) hHeld ?_
  change wpAnyH _ _ _ _ _ _ _ (a8.put (some 102) (.slice (some ⟨gb, 0, none⟩) n gc)) _
  obtain ⟨a9, e9⟩ : ∃ act, act = a8.put (some 102) (.slice (some ⟨gb, 0, none⟩) n gc) := ⟨_, rfl⟩
  rw [← e9] at h ⊢
  have z9 : a9.tmps.size = 222 := by rw [e9, put_size]; exact z8
  replace t4 : a9.tmps.getD 4 undef = .slice (some ⟨gb, 0, none⟩) n gc := by rw [e9, put_ne _ _ _ _ (by decide)]; exact t4
  replace t7 : a9.tmps.getD 7 undef = .int .i64 (i : Int) := by rw [e9, put_ne _ _ _ _ (by decide)]; exact t7
  replace t9 : a9.tmps.getD 9 undef = .int .i64 (k : Int) := by rw [e9, put_ne _ _ _ _ (by decide)]; exact t9
  replace t96 : a9.tmps.getD 96 undef = .pointer px := by rw [e9, put_ne _ _ _ _ (by decide)]; exact t96
  replace t100 : a9.tmps.getD 100 undef = .pointer px2 := by rw [e9, put_ne _ _ _ _ (by decide)]; exact t100
  have t102 : a9.tmps.getD 102 undef = .slice (some ⟨gb, 0, none⟩) n gc := by rw [e9]; exact put_same _ _ _ (by omega)
  clear e9 z8
  refine wpAnyH_take (i := 10) (oi := { dst := some 103, op := Op.move (Operand.tmp 7), type := 3, pos := "law.go:63", after := #[], guard := none }) (v := .int .i64 (i : Int)) rfl (by kernel_rfl) (by kernel_rfl) (by kernel_rfl) (fun _ _ _ h => h) (Or.inl ⟨by rfl, fun w1 hw => by go_simp⟩) hHeld ?_
  change wpAnyH _ _ _ _ _ _ _ (a9.put (some 103) (.int .i64 (i : Int))) _
  obtain ⟨a10, e10⟩ : ∃ act, act = a9.put (some 103) (.int .i64 (i : Int)) := ⟨_, rfl⟩
  rw [← e10] at h ⊢
  have z10 : a10.tmps.size = 222 := by rw [e10, put_size]; exact z9
  replace t4 : a10.tmps.getD 4 undef = .slice (some ⟨gb, 0, none⟩) n gc := by rw [e10, put_ne _ _ _ _ (by decide)]; exact t4
  clear t7
  replace t9 : a10.tmps.getD 9 undef = .int .i64 (k : Int) := by rw [e10, put_ne _ _ _ _ (by decide)]; exact t9
  replace t96 : a10.tmps.getD 96 undef = .pointer px := by rw [e10, put_ne _ _ _ _ (by decide)]; exact t96
  replace t100 : a10.tmps.getD 100 undef = .pointer px2 := by rw [e10, put_ne _ _ _ _ (by decide)]; exact t100
  replace t102 : a10.tmps.getD 102 undef = .slice (some ⟨gb, 0, none⟩) n gc := by rw [e10, put_ne _ _ _ _ (by decide)]; exact t102
  have t103 : a10.tmps.getD 103 undef = .int .i64 (i : Int) := by rw [e10]; exact put_same _ _ _ (by omega)
  clear e10 z9
  refine wpAnyH_take (i := 11) (oi := { dst := some 104, op := Op.indexAddr 28 (Operand.tmp 102) (Operand.tmp 103), type := 0, pos := "law.go:63", after := #[{ on := 9, ground := Ground.data }, { on := 10, ground := Ground.data }], guard := none }) (v := .pointer (some ⟨gb, i, none⟩)) rfl (by kernel_rfl) (by kernel_rfl) (by kernel_rfl) (fun _ _ _ h => h) (Or.inl ⟨by rfl, fun w1 hw => by go_simp⟩) hHeld ?_
  change wpAnyH _ _ _ _ _ _ _ (a10.put (some 104) (.pointer (some ⟨gb, i, none⟩))) _
  obtain ⟨a11, e11⟩ : ∃ act, act = a10.put (some 104) (.pointer (some ⟨gb, i, none⟩)) := ⟨_, rfl⟩
  rw [← e11] at h ⊢
  have z11 : a11.tmps.size = 222 := by rw [e11, put_size]; exact z10
  replace t4 : a11.tmps.getD 4 undef = .slice (some ⟨gb, 0, none⟩) n gc := by rw [e11, put_ne _ _ _ _ (by decide)]; exact t4
  replace t9 : a11.tmps.getD 9 undef = .int .i64 (k : Int) := by rw [e11, put_ne _ _ _ _ (by decide)]; exact t9
  replace t96 : a11.tmps.getD 96 undef = .pointer px := by rw [e11, put_ne _ _ _ _ (by decide)]; exact t96
  replace t100 : a11.tmps.getD 100 undef = .pointer px2 := by rw [e11, put_ne _ _ _ _ (by decide)]; exact t100
  clear t102
  clear t103
  have t104 : a11.tmps.getD 104 undef = .pointer (some ⟨gb, i, none⟩) := by rw [e11]; exact put_same _ _ _ (by omega)
  clear e11 z10
  refine wpAnyH_take (i := 12) (oi := { dst := some 105, op := Op.load 26 (Operand.tmp 104), type := 26, pos := "law.go:63", after := #[{ on := 11, ground := Ground.data }], guard := none }) (v := .pointer py) rfl (by kernel_rfl) (by kernel_rfl) (by kernel_rfl) (fun _ _ _ h => h) (Or.inl ⟨by rfl, fun w1 hw => by have c := hw.2.2.1; go_simp⟩) hHeld ?_
  change wpAnyH _ _ _ _ _ _ _ (a11.put (some 105) (.pointer py)) _
  obtain ⟨a12, e12⟩ : ∃ act, act = a11.put (some 105) (.pointer py) := ⟨_, rfl⟩
  rw [← e12] at h ⊢
  have z12 : a12.tmps.size = 222 := by rw [e12, put_size]; exact z11
  replace t4 : a12.tmps.getD 4 undef = .slice (some ⟨gb, 0, none⟩) n gc := by rw [e12, put_ne _ _ _ _ (by decide)]; exact t4
  replace t9 : a12.tmps.getD 9 undef = .int .i64 (k : Int) := by rw [e12, put_ne _ _ _ _ (by decide)]; exact t9
  replace t96 : a12.tmps.getD 96 undef = .pointer px := by rw [e12, put_ne _ _ _ _ (by decide)]; exact t96
  replace t100 : a12.tmps.getD 100 undef = .pointer px2 := by rw [e12, put_ne _ _ _ _ (by decide)]; exact t100
  clear t104
  have t105 : a12.tmps.getD 105 undef = .pointer py := by rw [e12]; exact put_same _ _ _ (by omega)
  clear e12 z11
  refine wpAnyH_take (i := 13) (oi := { dst := some 106, op := Op.move (Operand.tmp 4), type := 28, pos := "law.go:63", after := #[], guard := none }) (v := .slice (some ⟨gb, 0, none⟩) n gc) rfl (by kernel_rfl) (by kernel_rfl) (by kernel_rfl) (fun _ _ _ h => h) (Or.inl ⟨by rfl, fun w1 hw => by go_simp⟩) hHeld ?_
  change wpAnyH _ _ _ _ _ _ _ (a12.put (some 106) (.slice (some ⟨gb, 0, none⟩) n gc)) _
  obtain ⟨a13, e13⟩ : ∃ act, act = a12.put (some 106) (.slice (some ⟨gb, 0, none⟩) n gc) := ⟨_, rfl⟩
  rw [← e13] at h ⊢
  have z13 : a13.tmps.size = 222 := by rw [e13, put_size]; exact z12
  clear t4
  replace t9 : a13.tmps.getD 9 undef = .int .i64 (k : Int) := by rw [e13, put_ne _ _ _ _ (by decide)]; exact t9
  replace t96 : a13.tmps.getD 96 undef = .pointer px := by rw [e13, put_ne _ _ _ _ (by decide)]; exact t96
  replace t100 : a13.tmps.getD 100 undef = .pointer px2 := by rw [e13, put_ne _ _ _ _ (by decide)]; exact t100
  replace t105 : a13.tmps.getD 105 undef = .pointer py := by rw [e13, put_ne _ _ _ _ (by decide)]; exact t105
  have t106 : a13.tmps.getD 106 undef = .slice (some ⟨gb, 0, none⟩) n gc := by rw [e13]; exact put_same _ _ _ (by omega)
  clear e13 z12
  refine wpAnyH_take (i := 14) (oi := { dst := some 107, op := Op.move (Operand.tmp 9), type := 3, pos := "law.go:63", after := #[], guard := none }) (v := .int .i64 (k : Int)) rfl (by kernel_rfl) (by kernel_rfl) (by kernel_rfl) (fun _ _ _ h => h) (Or.inl ⟨by rfl, fun w1 hw => by go_simp⟩) hHeld ?_
  change wpAnyH _ _ _ _ _ _ _ (a13.put (some 107) (.int .i64 (k : Int))) _
  obtain ⟨a14, e14⟩ : ∃ act, act = a13.put (some 107) (.int .i64 (k : Int)) := ⟨_, rfl⟩
  rw [← e14] at h ⊢
  have z14 : a14.tmps.size = 222 := by rw [e14, put_size]; exact z13
  clear t9
  replace t96 : a14.tmps.getD 96 undef = .pointer px := by rw [e14, put_ne _ _ _ _ (by decide)]; exact t96
  replace t100 : a14.tmps.getD 100 undef = .pointer px2 := by rw [e14, put_ne _ _ _ _ (by decide)]; exact t100
  replace t105 : a14.tmps.getD 105 undef = .pointer py := by rw [e14, put_ne _ _ _ _ (by decide)]; exact t105
  replace t106 : a14.tmps.getD 106 undef = .slice (some ⟨gb, 0, none⟩) n gc := by rw [e14, put_ne _ _ _ _ (by decide)]; exact t106
  have t107 : a14.tmps.getD 107 undef = .int .i64 (k : Int) := by rw [e14]; exact put_same _ _ _ (by omega)
  clear e14 z13
  refine wpAnyH_take (i := 15) (oi := { dst := some 108, op := Op.indexAddr 28 (Operand.tmp 106) (Operand.tmp 107), type := 0, pos := "law.go:63", after := #[{ on := 13, ground := Ground.data }, { on := 14, ground := Ground.data }], guard := none }) (v := .pointer (some ⟨gb, k, none⟩)) rfl (by kernel_rfl) (by kernel_rfl) (by kernel_rfl) (fun _ _ _ h => h) (Or.inl ⟨by rfl, fun w1 hw => by go_simp⟩) hHeld ?_
  change wpAnyH _ _ _ _ _ _ _ (a14.put (some 108) (.pointer (some ⟨gb, k, none⟩))) _
  obtain ⟨a15, e15⟩ : ∃ act, act = a14.put (some 108) (.pointer (some ⟨gb, k, none⟩)) := ⟨_, rfl⟩
  rw [← e15] at h ⊢
  have z15 : a15.tmps.size = 222 := by rw [e15, put_size]; exact z14
  replace t96 : a15.tmps.getD 96 undef = .pointer px := by rw [e15, put_ne _ _ _ _ (by decide)]; exact t96
  replace t100 : a15.tmps.getD 100 undef = .pointer px2 := by rw [e15, put_ne _ _ _ _ (by decide)]; exact t100
  replace t105 : a15.tmps.getD 105 undef = .pointer py := by rw [e15, put_ne _ _ _ _ (by decide)]; exact t105
  clear t106
  clear t107
  have t108 : a15.tmps.getD 108 undef = .pointer (some ⟨gb, k, none⟩) := by rw [e15]; exact put_same _ _ _ (by omega)
  clear e15 z14
  refine wpAnyH_take (i := 16) (oi := { dst := some 109, op := Op.load 26 (Operand.tmp 108), type := 26, pos := "law.go:63", after := #[{ on := 15, ground := Ground.data }], guard := none }) (v := .pointer py2) rfl (by kernel_rfl) (by kernel_rfl) (by kernel_rfl) (fun _ _ _ h => h) (Or.inl ⟨by rfl, fun w1 hw => by have c := hw.2.2.2; go_simp⟩) hHeld ?_
  change wpAnyH _ _ _ _ _ _ _ (a15.put (some 109) (.pointer py2)) _
  obtain ⟨a16, e16⟩ : ∃ act, act = a15.put (some 109) (.pointer py2) := ⟨_, rfl⟩
  rw [← e16] at h ⊢
  have z16 : a16.tmps.size = 222 := by rw [e16, put_size]; exact z15
  replace t96 : a16.tmps.getD 96 undef = .pointer px := by rw [e16, put_ne _ _ _ _ (by decide)]; exact t96
  replace t100 : a16.tmps.getD 100 undef = .pointer px2 := by rw [e16, put_ne _ _ _ _ (by decide)]; exact t100
  replace t105 : a16.tmps.getD 105 undef = .pointer py := by rw [e16, put_ne _ _ _ _ (by decide)]; exact t105
  clear t108
  have t109 : a16.tmps.getD 109 undef = .pointer py2 := by rw [e16]; exact put_same _ _ _ (by omega)
  clear e16 z15
  refine wpAnyH_ready (rs := [8]) (by kernel_rfl) (by simp) ?_
  refine AllReadyH.cons (o := { dst := some 101, op := Op.call { callee := Callee.value (Operand.func 14), args := #[Operand.tmp 96, Operand.tmp 100], argTypes := #[23, 23] }, type := 36, pos := "law.go:63", after := #[{ on := 3, ground := Ground.data }, { on := 7, ground := Ground.data }], guard := none }) rfl (fun K hK => ?_) AllReadyH.nil
  rw [if_pos (by rfl)]
  go_simp
  refine (CA).mono ?_
  rintro e x17 ⟨rfl, d1, s1⟩
  try go_wp2_with fail
  skip
  refine hK.out _ _ (s1) (fun hHeld => ?_)
  clear hK K
  change wpAnyH _ _ _ _ _ _ _ (a16.put (some 101) (.int .i64 r)) _
  obtain ⟨a17, e17⟩ : ∃ act, act = a16.put (some 101) (.int .i64 r) := ⟨_, rfl⟩
  rw [← e17] at h ⊢
  have z17 : a17.tmps.size = 222 := by rw [e17, put_size]; exact z16
  clear t96
  clear t100
  replace t105 : a17.tmps.getD 105 undef = .pointer py := by rw [e17, put_ne _ _ _ _ (by decide)]; exact t105
  replace t109 : a17.tmps.getD 109 undef = .pointer py2 := by rw [e17, put_ne _ _ _ _ (by decide)]; exact t109
  have t101 : a17.tmps.getD 101 undef = .int .i64 r := by rw [e17]; exact put_same _ _ _ (by omega)
  clear e17 z16
  refine wpAnyH_ready (rs := [17]) (by kernel_rfl) (by simp) ?_
  refine AllReadyH.cons (o := { dst := some 110, op := Op.call { callee := Callee.value (Operand.func 15), args := #[Operand.tmp 105, Operand.tmp 109], argTypes := #[26, 26] }, type := 36, pos := "law.go:63", after := #[{ on := 12, ground := Ground.data }, { on := 16, ground := Ground.data }, { on := 8, ground := Ground.chain }], guard := none }) rfl (fun K hK => ?_) AllReadyH.nil
  rw [if_pos (by rfl)]
  go_simp
  refine (CB _ d1).mono ?_
  rintro e x18 ⟨rfl, d2, s2⟩
  try go_wp2_with fail
  skip
  refine hK.out _ _ (s2) (fun hHeld => ?_)
  clear hK K
  change wpAnyH _ _ _ _ _ _ _ (a17.put (some 110) (.int .i64 r)) _
  obtain ⟨a18, e18⟩ : ∃ act, act = a17.put (some 110) (.int .i64 r) := ⟨_, rfl⟩
  rw [← e18] at h ⊢
  have z18 : a18.tmps.size = 222 := by rw [e18, put_size]; exact z17
  clear t105
  clear t109
  replace t101 : a18.tmps.getD 101 undef = .int .i64 r := by rw [e18, put_ne _ _ _ _ (by decide)]; exact t101
  have t110 : a18.tmps.getD 110 undef = .int .i64 r := by rw [e18]; exact put_same _ _ _ (by omega)
  clear e18 z17
  refine wpAnyH_take (i := 18) (oi := { dst := some 111, op := Op.binOp BinOp.eql 36 (Operand.tmp 101) (Operand.tmp 110) 36, type := 4, pos := "law.go:63", after := #[{ on := 8, ground := Ground.data }, { on := 17, ground := Ground.data }], guard := none }) (v := .bool true) rfl (by kernel_rfl) (by kernel_rfl) (by kernel_rfl) (fun _ _ _ h => h) (Or.inl ⟨by rfl, fun w1 hw => by go_simp⟩) hHeld ?_
  change wpAnyH _ _ _ _ _ _ _ (a18.put (some 111) (.bool true)) _
  obtain ⟨a19, e19⟩ : ∃ act, act = a18.put (some 111) (.bool true) := ⟨_, rfl⟩
  rw [← e19] at h ⊢
  have z19 : a19.tmps.size = 222 := by rw [e19, put_size]; exact z18
  clear t101
  clear t110
  have t111 : a19.tmps.getD 111 undef = .bool true := by rw [e19]; exact put_same _ _ _ (by omega)
  clear e19 z18
  refine wpAnyH_take (i := 19) (oi := { dst := some 8, op := Op.assign (Operand.tmp 111), type := 4, pos := "law.go:63", after := #[{ on := 18, ground := Ground.data }, { on := 17, ground := Ground.chain }, { on := 0, ground := Ground.phase }, { on := 1, ground := Ground.phase }, { on := 2, ground := Ground.phase }, { on := 3, ground := Ground.phase }, { on := 4, ground := Ground.phase }, { on := 5, ground := Ground.phase }, { on := 6, ground := Ground.phase }, { on := 7, ground := Ground.phase }, { on := 8, ground := Ground.phase }, { on := 9, ground := Ground.phase }, { on := 10, ground := Ground.phase }, { on := 11, ground := Ground.phase }, { on := 12, ground := Ground.phase }, { on := 13, ground := Ground.phase }, { on := 14, ground := Ground.phase }, { on := 15, ground := Ground.phase }, { on := 16, ground := Ground.phase }, { on := 17, ground := Ground.phase }, { on := 18, ground := Ground.phase }], guard := none }) (v := .bool true) rfl (by kernel_rfl) (by kernel_rfl) (by kernel_rfl) (fun _ _ _ h => h) (Or.inl ⟨by rfl, fun w1 hw => by go_simp⟩) hHeld ?_
  change wpAnyH _ _ _ _ _ _ _ (a19.put (some 8) (.bool true)) _
  obtain ⟨a20, e20⟩ : ∃ act, act = a19.put (some 8) (.bool true) := ⟨_, rfl⟩
  rw [← e20] at h ⊢
  have z20 : a20.tmps.size = 222 := by rw [e20, put_size]; exact z19
  clear t111
  clear e20 z19
  exact wpAnyH_done (by kernel_rfl) (NoPanic.normal (h _ _ d2 rfl)) _
def plays36n_ops : Array Oper := #[{ dst := some 190, op := Op.move (Operand.tmp 8), type := 4, pos := "law.go:84", after := #[], guard := none }, { dst := some 191, op := Op.unOp UnOp.not 4 (Operand.tmp 190), type := 4, pos := "law.go:84", after := #[{ on := 0, ground := Ground.data }], guard := none }, { dst := some 192, op := Op.move (Operand.tmp 191), type := 4, pos := "law.go:84", after := #[{ on := 1, ground := Ground.data }], guard := none }, { dst := some 193, op := Op.move (Operand.tmp 3), type := 25, pos := "law.go:84", after := #[{ on := 2, ground := Ground.guard }], guard := some (2, false) }, { dst := some 194, op := Op.move (Operand.tmp 15), type := 3, pos := "law.go:84", after := #[{ on := 2, ground := Ground.guard }], guard := some (2, false) }, { dst := some 195, op := Op.indexAddr 25 (Operand.tmp 193) (Operand.tmp 194), type := 0, pos := "law.go:84", after := #[{ on := 3, ground := Ground.data }, { on := 4, ground := Ground.data }, { on := 2, ground := Ground.guard }], guard := some (2, false) }, { dst := some 196, op := Op.load 23 (Operand.tmp 195), type := 23, pos := "law.go:84", after := #[{ on := 5, ground := Ground.data }, { on := 2, ground := Ground.guard }], guard := some (2, false) }, { dst := some 197, op := Op.binOp BinOp.eql 23 (Operand.tmp 196) (Operand.const (Value.pointer none)) 23, type := 4, pos := "law.go:84", after := #[{ on := 6, ground := Ground.data }, { on := 2, ground := Ground.guard }], guard := some (2, false) }, { dst := some 198, op := Op.move (Operand.tmp 4), type := 28, pos := "law.go:84", after := #[{ on := 2, ground := Ground.guard }], guard := some (2, false) }, { dst := some 199, op := Op.move (Operand.tmp 15), type := 3, pos := "law.go:84", after := #[{ on := 2, ground := Ground.guard }], guard := some (2, false) }, { dst := some 200, op := Op.indexAddr 28 (Operand.tmp 198) (Operand.tmp 199), type := 0, pos := "law.go:84", after := #[{ on := 8, ground := Ground.data }, { on := 9, ground := Ground.data }, { on := 2, ground := Ground.guard }], guard := some (2, false) }, { dst := some 201, op := Op.load 26 (Operand.tmp 200), type := 26, pos := "law.go:84", after := #[{ on := 10, ground := Ground.data }, { on := 2, ground := Ground.guard }], guard := some (2, false) }, { dst := some 202, op := Op.binOp BinOp.eql 26 (Operand.tmp 201) (Operand.const (Value.pointer none)) 26, type := 4, pos := "law.go:84", after := #[{ on := 11, ground := Ground.data }, { on := 2, ground := Ground.guard }], guard := some (2, false) }, { dst := some 203, op := Op.binOp BinOp.neq 4 (Operand.tmp 197) (Operand.tmp 202) 4, type := 4, pos := "law.go:84", after := #[{ on := 7, ground := Ground.data }, { on := 12, ground := Ground.data }, { on := 2, ground := Ground.guard }], guard := some (2, false) }, { dst := some 204, op := Op.pick (Operand.tmp 192) (Operand.const (Value.bool true)) (Operand.tmp 203), type := 4, pos := "law.go:84", after := #[{ on := 2, ground := Ground.data }, { on := 13, ground := Ground.data }], guard := none }]
set_option maxRecDepth 100000 in
set_option maxHeartbeats 4000000 in
theorem plays36n (fb fc gb gc n i : Nat) (a : Act) (w : World) (Q : Exit → Act → World → Prop) (hsz : a.tmps.size = 222)
    (t3 : a.tmps.getD 3 undef = .slice (some ⟨fb, 0, none⟩) n fc)
    (t4 : a.tmps.getD 4 undef = .slice (some ⟨gb, 0, none⟩) n gc)
    (t8 : a.tmps.getD 8 undef = .bool true)
    (t15 : a.tmps.getD 15 undef = .int .i64 (i : Int))
    (h0 : w.drew.cell? ⟨fb, i, none⟩ = some (.pointer none) ∧ w.drew.cell? ⟨gb, i, none⟩ = some (.pointer none))
    (IX1 : ∀ W, (Instr.indexAt 25 (.slice (some ⟨fb, 0, none⟩) n fc) (.int .i64 (i : Int))).run Try.prog W = .ok (.pointer (some ⟨fb, i, none⟩)) W)
    (IX2 : ∀ W, (Instr.indexAt 28 (.slice (some ⟨gb, 0, none⟩) n gc) (.int .i64 (i : Int))).run Try.prog W = .ok (.pointer (some ⟨gb, i, none⟩)) W)
    (h : ∀ (a' : Act) (w' : World), w' = w.drew → a' = (((((((((((((((a).put (some 190) (.bool true)).put (some 191) (.bool false)).put (some 192) (.bool false)).put (some 193) (.slice (some ⟨fb, 0, none⟩) n fc)).put (some 194) (.int .i64 (i : Int))).put (some 195) (.pointer (some ⟨fb, i, none⟩))).put (some 196) (.pointer none)).put (some 197) (.bool true)).put (some 198) (.slice (some ⟨gb, 0, none⟩) n gc)).put (some 199) (.int .i64 (i : Int))).put (some 200) (.pointer (some ⟨gb, i, none⟩))).put (some 201) (.pointer none)).put (some 202) (.bool true)).put (some 203) (.bool false)).put (some 204) (.bool false) → Q .normal a' w') :
    (Code.region 36 plays36n_ops true).wp Try.prog Q a w := by
  refine wp_region_noPanic ?_
  refine wp_region_held_drew (S := fun w' => w'.cell? ⟨fb, i, none⟩ = some (.pointer none) ∧ w'.cell? ⟨gb, i, none⟩ = some (.pointer none) ∧ w' = w.drew) (by kernel_rfl) (⟨h0.1, h0.2, rfl⟩) (fun hHeld => ?_)
  refine wpAnyH_take (i := 0) (oi := { dst := some 190, op := Op.move (Operand.tmp 8), type := 4, pos := "law.go:84", after := #[], guard := none }) (v := .bool true) rfl (by kernel_rfl) (by kernel_rfl) (by kernel_rfl) (fun _ _ _ h => h) (Or.inl ⟨by rfl, fun w1 hw => by go_simp⟩) hHeld ?_
  change wpAnyH _ _ _ _ _ _ _ (a.put (some 190) (.bool true)) _
  obtain ⟨a1, e1⟩ : ∃ act, act = a.put (some 190) (.bool true) := ⟨_, rfl⟩
  rw [← e1] at h ⊢
  have z1 : a1.tmps.size = 222 := by rw [e1, put_size]; exact hsz
  replace t3 : a1.tmps.getD 3 undef = .slice (some ⟨fb, 0, none⟩) n fc := by rw [e1, put_ne _ _ _ _ (by decide)]; exact t3
  replace t4 : a1.tmps.getD 4 undef = .slice (some ⟨gb, 0, none⟩) n gc := by rw [e1, put_ne _ _ _ _ (by decide)]; exact t4
  clear t8
  replace t15 : a1.tmps.getD 15 undef = .int .i64 (i : Int) := by rw [e1, put_ne _ _ _ _ (by decide)]; exact t15
  have t190 : a1.tmps.getD 190 undef = .bool true := by rw [e1]; exact put_same _ _ _ (by omega)
  clear e1 hsz
  refine wpAnyH_take (i := 1) (oi := { dst := some 191, op := Op.unOp UnOp.not 4 (Operand.tmp 190), type := 4, pos := "law.go:84", after := #[{ on := 0, ground := Ground.data }], guard := none }) (v := .bool false) rfl (by kernel_rfl) (by kernel_rfl) (by kernel_rfl) (fun _ _ _ h => h) (Or.inl ⟨by rfl, fun w1 hw => by go_simp⟩) hHeld ?_
  change wpAnyH _ _ _ _ _ _ _ (a1.put (some 191) (.bool false)) _
  obtain ⟨a2, e2⟩ : ∃ act, act = a1.put (some 191) (.bool false) := ⟨_, rfl⟩
  rw [← e2] at h ⊢
  have z2 : a2.tmps.size = 222 := by rw [e2, put_size]; exact z1
  replace t3 : a2.tmps.getD 3 undef = .slice (some ⟨fb, 0, none⟩) n fc := by rw [e2, put_ne _ _ _ _ (by decide)]; exact t3
  replace t4 : a2.tmps.getD 4 undef = .slice (some ⟨gb, 0, none⟩) n gc := by rw [e2, put_ne _ _ _ _ (by decide)]; exact t4
  replace t15 : a2.tmps.getD 15 undef = .int .i64 (i : Int) := by rw [e2, put_ne _ _ _ _ (by decide)]; exact t15
  clear t190
  have t191 : a2.tmps.getD 191 undef = .bool false := by rw [e2]; exact put_same _ _ _ (by omega)
  clear e2 z1
  refine wpAnyH_take (i := 2) (oi := { dst := some 192, op := Op.move (Operand.tmp 191), type := 4, pos := "law.go:84", after := #[{ on := 1, ground := Ground.data }], guard := none }) (v := .bool false) rfl (by kernel_rfl) (by kernel_rfl) (by kernel_rfl) (fun _ _ _ h => h) (Or.inl ⟨by rfl, fun w1 hw => by go_simp⟩) hHeld ?_
  change wpAnyH _ _ _ _ _ _ _ (a2.put (some 192) (.bool false)) _
  obtain ⟨a3, e3⟩ : ∃ act, act = a2.put (some 192) (.bool false) := ⟨_, rfl⟩
  rw [← e3] at h ⊢
  have z3 : a3.tmps.size = 222 := by rw [e3, put_size]; exact z2
  replace t3 : a3.tmps.getD 3 undef = .slice (some ⟨fb, 0, none⟩) n fc := by rw [e3, put_ne _ _ _ _ (by decide)]; exact t3
  replace t4 : a3.tmps.getD 4 undef = .slice (some ⟨gb, 0, none⟩) n gc := by rw [e3, put_ne _ _ _ _ (by decide)]; exact t4
  replace t15 : a3.tmps.getD 15 undef = .int .i64 (i : Int) := by rw [e3, put_ne _ _ _ _ (by decide)]; exact t15
  clear t191
  have t192 : a3.tmps.getD 192 undef = .bool false := by rw [e3]; exact put_same _ _ _ (by omega)
  clear e3 z2
  refine wpAnyH_take (i := 3) (oi := { dst := some 193, op := Op.move (Operand.tmp 3), type := 25, pos := "law.go:84", after := #[{ on := 2, ground := Ground.guard }], guard := some (2, false) }) (v := .slice (some ⟨fb, 0, none⟩) n fc) rfl (by kernel_rfl) (by kernel_rfl) (by kernel_rfl) (fun _ _ _ h => h) (Or.inl ⟨by simp [Region.wanted, yielded, plays36n_ops, tget z3 (by decide) t192], fun w1 hw => by go_simp⟩) hHeld ?_
  change wpAnyH _ _ _ _ _ _ _ (a3.put (some 193) (.slice (some ⟨fb, 0, none⟩) n fc)) _
  obtain ⟨a4, e4⟩ : ∃ act, act = a3.put (some 193) (.slice (some ⟨fb, 0, none⟩) n fc) := ⟨_, rfl⟩
  rw [← e4] at h ⊢
  have z4 : a4.tmps.size = 222 := by rw [e4, put_size]; exact z3
  clear t3
  replace t4 : a4.tmps.getD 4 undef = .slice (some ⟨gb, 0, none⟩) n gc := by rw [e4, put_ne _ _ _ _ (by decide)]; exact t4
  replace t15 : a4.tmps.getD 15 undef = .int .i64 (i : Int) := by rw [e4, put_ne _ _ _ _ (by decide)]; exact t15
  replace t192 : a4.tmps.getD 192 undef = .bool false := by rw [e4, put_ne _ _ _ _ (by decide)]; exact t192
  have t193 : a4.tmps.getD 193 undef = .slice (some ⟨fb, 0, none⟩) n fc := by rw [e4]; exact put_same _ _ _ (by omega)
  clear e4 z3
  refine wpAnyH_take (i := 4) (oi := { dst := some 194, op := Op.move (Operand.tmp 15), type := 3, pos := "law.go:84", after := #[{ on := 2, ground := Ground.guard }], guard := some (2, false) }) (v := .int .i64 (i : Int)) rfl (by kernel_rfl) (by kernel_rfl) (by kernel_rfl) (fun _ _ _ h => h) (Or.inl ⟨by simp [Region.wanted, yielded, plays36n_ops, tget z4 (by decide) t192], fun w1 hw => by go_simp⟩) hHeld ?_
  change wpAnyH _ _ _ _ _ _ _ (a4.put (some 194) (.int .i64 (i : Int))) _
  obtain ⟨a5, e5⟩ : ∃ act, act = a4.put (some 194) (.int .i64 (i : Int)) := ⟨_, rfl⟩
  rw [← e5] at h ⊢
  have z5 : a5.tmps.size = 222 := by rw [e5, put_size]; exact z4
  replace t4 : a5.tmps.getD 4 undef = .slice (some ⟨gb, 0, none⟩) n gc := by rw [e5, put_ne _ _ _ _ (by decide)]; exact t4
  replace t15 : a5.tmps.getD 15 undef = .int .i64 (i : Int) := by rw [e5, put_ne _ _ _ _ (by decide)]; exact t15
  replace t192 : a5.tmps.getD 192 undef = .bool false := by rw [e5, put_ne _ _ _ _ (by decide)]; exact t192
  replace t193 : a5.tmps.getD 193 undef = .slice (some ⟨fb, 0, none⟩) n fc := by rw [e5, put_ne _ _ _ _ (by decide)]; exact t193
  have t194 : a5.tmps.getD 194 undef = .int .i64 (i : Int) := by rw [e5]; exact put_same _ _ _ (by omega)
  clear e5 z4
  refine wpAnyH_take (i := 5) (oi := { dst := some 195, op := Op.indexAddr 25 (Operand.tmp 193) (Operand.tmp 194), type := 0, pos := "law.go:84", after := #[{ on := 3, ground := Ground.data }, { on := 4, ground := Ground.data }, { on := 2, ground := Ground.guard }], guard := some (2, false) }) (v := .pointer (some ⟨fb, i, none⟩)) rfl (by kernel_rfl) (by kernel_rfl) (by kernel_rfl) (fun _ _ _ h => h) (Or.inl ⟨by simp [Region.wanted, yielded, plays36n_ops, tget z5 (by decide) t192], fun w1 hw => by go_simp⟩) hHeld ?_
  change wpAnyH _ _ _ _ _ _ _ (a5.put (some 195) (.pointer (some ⟨fb, i, none⟩))) _
  obtain ⟨a6, e6⟩ : ∃ act, act = a5.put (some 195) (.pointer (some ⟨fb, i, none⟩)) := ⟨_, rfl⟩
  rw [← e6] at h ⊢
  have z6 : a6.tmps.size = 222 := by rw [e6, put_size]; exact z5
  replace t4 : a6.tmps.getD 4 undef = .slice (some ⟨gb, 0, none⟩) n gc := by rw [e6, put_ne _ _ _ _ (by decide)]; exact t4
  replace t15 : a6.tmps.getD 15 undef = .int .i64 (i : Int) := by rw [e6, put_ne _ _ _ _ (by decide)]; exact t15
  replace t192 : a6.tmps.getD 192 undef = .bool false := by rw [e6, put_ne _ _ _ _ (by decide)]; exact t192
  clear t193
  clear t194
  have t195 : a6.tmps.getD 195 undef = .pointer (some ⟨fb, i, none⟩) := by rw [e6]; exact put_same _ _ _ (by omega)
  clear e6 z5
  refine wpAnyH_take (i := 6) (oi := { dst := some 196, op := Op.load 23 (Operand.tmp 195), type := 23, pos := "law.go:84", after := #[{ on := 5, ground := Ground.data }, { on := 2, ground := Ground.guard }], guard := some (2, false) }) (v := .pointer none) rfl (by kernel_rfl) (by kernel_rfl) (by kernel_rfl) (fun _ _ _ h => h) (Or.inl ⟨by simp [Region.wanted, yielded, plays36n_ops, tget z6 (by decide) t192], fun w1 hw => by have c := hw.1; go_simp⟩) hHeld ?_
  change wpAnyH _ _ _ _ _ _ _ (a6.put (some 196) (.pointer none)) _
  obtain ⟨a7, e7⟩ : ∃ act, act = a6.put (some 196) (.pointer none) := ⟨_, rfl⟩
  rw [← e7] at h ⊢
  have z7 : a7.tmps.size = 222 := by rw [e7, put_size]; exact z6
  replace t4 : a7.tmps.getD 4 undef = .slice (some ⟨gb, 0, none⟩) n gc := by rw [e7, put_ne _ _ _ _ (by decide)]; exact t4
  replace t15 : a7.tmps.getD 15 undef = .int .i64 (i : Int) := by rw [e7, put_ne _ _ _ _ (by decide)]; exact t15
  replace t192 : a7.tmps.getD 192 undef = .bool false := by rw [e7, put_ne _ _ _ _ (by decide)]; exact t192
  clear t195
  have t196 : a7.tmps.getD 196 undef = .pointer none := by rw [e7]; exact put_same _ _ _ (by omega)
  clear e7 z6
  refine wpAnyH_take (i := 7) (oi := { dst := some 197, op := Op.binOp BinOp.eql 23 (Operand.tmp 196) (Operand.const (Value.pointer none)) 23, type := 4, pos := "law.go:84", after := #[{ on := 6, ground := Ground.data }, { on := 2, ground := Ground.guard }], guard := some (2, false) }) (v := .bool true) rfl (by kernel_rfl) (by kernel_rfl) (by kernel_rfl) (fun _ _ _ h => h) (Or.inl ⟨by simp [Region.wanted, yielded, plays36n_ops, tget z7 (by decide) t192], fun w1 hw => by go_simp⟩) hHeld ?_
  change wpAnyH _ _ _ _ _ _ _ (a7.put (some 197) (.bool true)) _
  obtain ⟨a8, e8⟩ : ∃ act, act = a7.put (some 197) (.bool true) := ⟨_, rfl⟩
  rw [← e8] at h ⊢
  have z8 : a8.tmps.size = 222 := by rw [e8, put_size]; exact z7
  replace t4 : a8.tmps.getD 4 undef = .slice (some ⟨gb, 0, none⟩) n gc := by rw [e8, put_ne _ _ _ _ (by decide)]; exact t4
  replace t15 : a8.tmps.getD 15 undef = .int .i64 (i : Int) := by rw [e8, put_ne _ _ _ _ (by decide)]; exact t15
  replace t192 : a8.tmps.getD 192 undef = .bool false := by rw [e8, put_ne _ _ _ _ (by decide)]; exact t192
  clear t196
  have t197 : a8.tmps.getD 197 undef = .bool true := by rw [e8]; exact put_same _ _ _ (by omega)
  clear e8 z7
  refine wpAnyH_take (i := 8) (oi := { dst := some 198, op := Op.move (Operand.tmp 4), type := 28, pos := "law.go:84", after := #[{ on := 2, ground := Ground.guard }], guard := some (2, false) }) (v := .slice (some ⟨gb, 0, none⟩) n gc) rfl (by kernel_rfl) (by kernel_rfl) (by kernel_rfl) (fun _ _ _ h => h) (Or.inl ⟨by simp [Region.wanted, yielded, plays36n_ops, tget z8 (by decide) t192], fun w1 hw => by go_simp⟩) hHeld ?_
  change wpAnyH _ _ _ _ _ _ _ (a8.put (some 198) (.slice (some ⟨gb, 0, none⟩) n gc)) _
  obtain ⟨a9, e9⟩ : ∃ act, act = a8.put (some 198) (.slice (some ⟨gb, 0, none⟩) n gc) := ⟨_, rfl⟩
  rw [← e9] at h ⊢
  have z9 : a9.tmps.size = 222 := by rw [e9, put_size]; exact z8
  clear t4
  replace t15 : a9.tmps.getD 15 undef = .int .i64 (i : Int) := by rw [e9, put_ne _ _ _ _ (by decide)]; exact t15
  replace t192 : a9.tmps.getD 192 undef = .bool false := by rw [e9, put_ne _ _ _ _ (by decide)]; exact t192
  replace t197 : a9.tmps.getD 197 undef = .bool true := by rw [e9, put_ne _ _ _ _ (by decide)]; exact t197
  have t198 : a9.tmps.getD 198 undef = .slice (some ⟨gb, 0, none⟩) n gc := by rw [e9]; exact put_same _ _ _ (by omega)
  clear e9 z8
  refine wpAnyH_take (i := 9) (oi := { dst := some 199, op := Op.move (Operand.tmp 15), type := 3, pos := "law.go:84", after := #[{ on := 2, ground := Ground.guard }], guard := some (2, false) }) (v := .int .i64 (i : Int)) rfl (by kernel_rfl) (by kernel_rfl) (by kernel_rfl) (fun _ _ _ h => h) (Or.inl ⟨by simp [Region.wanted, yielded, plays36n_ops, tget z9 (by decide) t192], fun w1 hw => by go_simp⟩) hHeld ?_
  change wpAnyH _ _ _ _ _ _ _ (a9.put (some 199) (.int .i64 (i : Int))) _
  obtain ⟨a10, e10⟩ : ∃ act, act = a9.put (some 199) (.int .i64 (i : Int)) := ⟨_, rfl⟩
  rw [← e10] at h ⊢
  have z10 : a10.tmps.size = 222 := by rw [e10, put_size]; exact z9
  clear t15
  replace t192 : a10.tmps.getD 192 undef = .bool false := by rw [e10, put_ne _ _ _ _ (by decide)]; exact t192
  replace t197 : a10.tmps.getD 197 undef = .bool true := by rw [e10, put_ne _ _ _ _ (by decide)]; exact t197
  replace t198 : a10.tmps.getD 198 undef = .slice (some ⟨gb, 0, none⟩) n gc := by rw [e10, put_ne _ _ _ _ (by decide)]; exact t198
  have t199 : a10.tmps.getD 199 undef = .int .i64 (i : Int) := by rw [e10]; exact put_same _ _ _ (by omega)
  clear e10 z9
  refine wpAnyH_take (i := 10) (oi := { dst := some 200, op := Op.indexAddr 28 (Operand.tmp 198) (Operand.tmp 199), type := 0, pos := "law.go:84", after := #[{ on := 8, ground := Ground.data }, { on := 9, ground := Ground.data }, { on := 2, ground := Ground.guard }], guard := some (2, false) }) (v := .pointer (some ⟨gb, i, none⟩)) rfl (by kernel_rfl) (by kernel_rfl) (by kernel_rfl) (fun _ _ _ h => h) (Or.inl ⟨by simp [Region.wanted, yielded, plays36n_ops, tget z10 (by decide) t192], fun w1 hw => by go_simp⟩) hHeld ?_
  change wpAnyH _ _ _ _ _ _ _ (a10.put (some 200) (.pointer (some ⟨gb, i, none⟩))) _
  obtain ⟨a11, e11⟩ : ∃ act, act = a10.put (some 200) (.pointer (some ⟨gb, i, none⟩)) := ⟨_, rfl⟩
  rw [← e11] at h ⊢
  have z11 : a11.tmps.size = 222 := by rw [e11, put_size]; exact z10
  replace t192 : a11.tmps.getD 192 undef = .bool false := by rw [e11, put_ne _ _ _ _ (by decide)]; exact t192
  replace t197 : a11.tmps.getD 197 undef = .bool true := by rw [e11, put_ne _ _ _ _ (by decide)]; exact t197
  clear t198
  clear t199
  have t200 : a11.tmps.getD 200 undef = .pointer (some ⟨gb, i, none⟩) := by rw [e11]; exact put_same _ _ _ (by omega)
  clear e11 z10
  refine wpAnyH_take (i := 11) (oi := { dst := some 201, op := Op.load 26 (Operand.tmp 200), type := 26, pos := "law.go:84", after := #[{ on := 10, ground := Ground.data }, { on := 2, ground := Ground.guard }], guard := some (2, false) }) (v := .pointer none) rfl (by kernel_rfl) (by kernel_rfl) (by kernel_rfl) (fun _ _ _ h => h) (Or.inl ⟨by simp [Region.wanted, yielded, plays36n_ops, tget z11 (by decide) t192], fun w1 hw => by have c := hw.2.1; go_simp⟩) hHeld ?_
  change wpAnyH _ _ _ _ _ _ _ (a11.put (some 201) (.pointer none)) _
  obtain ⟨a12, e12⟩ : ∃ act, act = a11.put (some 201) (.pointer none) := ⟨_, rfl⟩
  rw [← e12] at h ⊢
  have z12 : a12.tmps.size = 222 := by rw [e12, put_size]; exact z11
  replace t192 : a12.tmps.getD 192 undef = .bool false := by rw [e12, put_ne _ _ _ _ (by decide)]; exact t192
  replace t197 : a12.tmps.getD 197 undef = .bool true := by rw [e12, put_ne _ _ _ _ (by decide)]; exact t197
  clear t200
  have t201 : a12.tmps.getD 201 undef = .pointer none := by rw [e12]; exact put_same _ _ _ (by omega)
  clear e12 z11
  refine wpAnyH_take (i := 12) (oi := { dst := some 202, op := Op.binOp BinOp.eql 26 (Operand.tmp 201) (Operand.const (Value.pointer none)) 26, type := 4, pos := "law.go:84", after := #[{ on := 11, ground := Ground.data }, { on := 2, ground := Ground.guard }], guard := some (2, false) }) (v := .bool true) rfl (by kernel_rfl) (by kernel_rfl) (by kernel_rfl) (fun _ _ _ h => h) (Or.inl ⟨by simp [Region.wanted, yielded, plays36n_ops, tget z12 (by decide) t192], fun w1 hw => by go_simp⟩) hHeld ?_
  change wpAnyH _ _ _ _ _ _ _ (a12.put (some 202) (.bool true)) _
  obtain ⟨a13, e13⟩ : ∃ act, act = a12.put (some 202) (.bool true) := ⟨_, rfl⟩
  rw [← e13] at h ⊢
  have z13 : a13.tmps.size = 222 := by rw [e13, put_size]; exact z12
  replace t192 : a13.tmps.getD 192 undef = .bool false := by rw [e13, put_ne _ _ _ _ (by decide)]; exact t192
  replace t197 : a13.tmps.getD 197 undef = .bool true := by rw [e13, put_ne _ _ _ _ (by decide)]; exact t197
  clear t201
  have t202 : a13.tmps.getD 202 undef = .bool true := by rw [e13]; exact put_same _ _ _ (by omega)
  clear e13 z12
  refine wpAnyH_take (i := 13) (oi := { dst := some 203, op := Op.binOp BinOp.neq 4 (Operand.tmp 197) (Operand.tmp 202) 4, type := 4, pos := "law.go:84", after := #[{ on := 7, ground := Ground.data }, { on := 12, ground := Ground.data }, { on := 2, ground := Ground.guard }], guard := some (2, false) }) (v := .bool false) rfl (by kernel_rfl) (by kernel_rfl) (by kernel_rfl) (fun _ _ _ h => h) (Or.inl ⟨by simp [Region.wanted, yielded, plays36n_ops, tget z13 (by decide) t192], fun w1 hw => by go_simp⟩) hHeld ?_
  change wpAnyH _ _ _ _ _ _ _ (a13.put (some 203) (.bool false)) _
  obtain ⟨a14, e14⟩ : ∃ act, act = a13.put (some 203) (.bool false) := ⟨_, rfl⟩
  rw [← e14] at h ⊢
  have z14 : a14.tmps.size = 222 := by rw [e14, put_size]; exact z13
  replace t192 : a14.tmps.getD 192 undef = .bool false := by rw [e14, put_ne _ _ _ _ (by decide)]; exact t192
  clear t197
  clear t202
  have t203 : a14.tmps.getD 203 undef = .bool false := by rw [e14]; exact put_same _ _ _ (by omega)
  clear e14 z13
  refine wpAnyH_take (i := 14) (oi := { dst := some 204, op := Op.pick (Operand.tmp 192) (Operand.const (Value.bool true)) (Operand.tmp 203), type := 4, pos := "law.go:84", after := #[{ on := 2, ground := Ground.data }, { on := 13, ground := Ground.data }], guard := none }) (v := .bool false) rfl (by kernel_rfl) (by kernel_rfl) (by kernel_rfl) (fun _ _ _ h => h) (Or.inl ⟨by rfl, fun w1 hw => by go_simp⟩) hHeld ?_
  change wpAnyH _ _ _ _ _ _ _ (a14.put (some 204) (.bool false)) _
  obtain ⟨a15, e15⟩ : ∃ act, act = a14.put (some 204) (.bool false) := ⟨_, rfl⟩
  rw [← e15] at h ⊢
  have z15 : a15.tmps.size = 222 := by rw [e15, put_size]; exact z14
  clear t192
  clear t203
  clear e15 z14
  exact wpAnyH_done (by kernel_rfl) (NoPanic.normal (h _ _ hHeld.2.2 rfl)) _
def plays36s_ops : Array Oper := #[{ dst := some 190, op := Op.move (Operand.tmp 8), type := 4, pos := "law.go:84", after := #[], guard := none }, { dst := some 191, op := Op.unOp UnOp.not 4 (Operand.tmp 190), type := 4, pos := "law.go:84", after := #[{ on := 0, ground := Ground.data }], guard := none }, { dst := some 192, op := Op.move (Operand.tmp 191), type := 4, pos := "law.go:84", after := #[{ on := 1, ground := Ground.data }], guard := none }, { dst := some 193, op := Op.move (Operand.tmp 3), type := 25, pos := "law.go:84", after := #[{ on := 2, ground := Ground.guard }], guard := some (2, false) }, { dst := some 194, op := Op.move (Operand.tmp 15), type := 3, pos := "law.go:84", after := #[{ on := 2, ground := Ground.guard }], guard := some (2, false) }, { dst := some 195, op := Op.indexAddr 25 (Operand.tmp 193) (Operand.tmp 194), type := 0, pos := "law.go:84", after := #[{ on := 3, ground := Ground.data }, { on := 4, ground := Ground.data }, { on := 2, ground := Ground.guard }], guard := some (2, false) }, { dst := some 196, op := Op.load 23 (Operand.tmp 195), type := 23, pos := "law.go:84", after := #[{ on := 5, ground := Ground.data }, { on := 2, ground := Ground.guard }], guard := some (2, false) }, { dst := some 197, op := Op.binOp BinOp.eql 23 (Operand.tmp 196) (Operand.const (Value.pointer none)) 23, type := 4, pos := "law.go:84", after := #[{ on := 6, ground := Ground.data }, { on := 2, ground := Ground.guard }], guard := some (2, false) }, { dst := some 198, op := Op.move (Operand.tmp 4), type := 28, pos := "law.go:84", after := #[{ on := 2, ground := Ground.guard }], guard := some (2, false) }, { dst := some 199, op := Op.move (Operand.tmp 15), type := 3, pos := "law.go:84", after := #[{ on := 2, ground := Ground.guard }], guard := some (2, false) }, { dst := some 200, op := Op.indexAddr 28 (Operand.tmp 198) (Operand.tmp 199), type := 0, pos := "law.go:84", after := #[{ on := 8, ground := Ground.data }, { on := 9, ground := Ground.data }, { on := 2, ground := Ground.guard }], guard := some (2, false) }, { dst := some 201, op := Op.load 26 (Operand.tmp 200), type := 26, pos := "law.go:84", after := #[{ on := 10, ground := Ground.data }, { on := 2, ground := Ground.guard }], guard := some (2, false) }, { dst := some 202, op := Op.binOp BinOp.eql 26 (Operand.tmp 201) (Operand.const (Value.pointer none)) 26, type := 4, pos := "law.go:84", after := #[{ on := 11, ground := Ground.data }, { on := 2, ground := Ground.guard }], guard := some (2, false) }, { dst := some 203, op := Op.binOp BinOp.neq 4 (Operand.tmp 197) (Operand.tmp 202) 4, type := 4, pos := "law.go:84", after := #[{ on := 7, ground := Ground.data }, { on := 12, ground := Ground.data }, { on := 2, ground := Ground.guard }], guard := some (2, false) }, { dst := some 204, op := Op.pick (Operand.tmp 192) (Operand.const (Value.bool true)) (Operand.tmp 203), type := 4, pos := "law.go:84", after := #[{ on := 2, ground := Ground.data }, { on := 13, ground := Ground.data }], guard := none }]
set_option maxRecDepth 100000 in
set_option maxHeartbeats 4000000 in
theorem plays36s (fb fc gb gc n i q q2 : Nat) (a : Act) (w : World) (Q : Exit → Act → World → Prop) (hsz : a.tmps.size = 222)
    (t3 : a.tmps.getD 3 undef = .slice (some ⟨fb, 0, none⟩) n fc)
    (t4 : a.tmps.getD 4 undef = .slice (some ⟨gb, 0, none⟩) n gc)
    (t8 : a.tmps.getD 8 undef = .bool true)
    (t15 : a.tmps.getD 15 undef = .int .i64 (i : Int))
    (h0 : w.drew.cell? ⟨fb, i, none⟩ = some (.pointer (some ⟨q, 0, none⟩)) ∧ w.drew.cell? ⟨gb, i, none⟩ = some (.pointer (some ⟨q2, 0, none⟩)))
    (IX1 : ∀ W, (Instr.indexAt 25 (.slice (some ⟨fb, 0, none⟩) n fc) (.int .i64 (i : Int))).run Try.prog W = .ok (.pointer (some ⟨fb, i, none⟩)) W)
    (IX2 : ∀ W, (Instr.indexAt 28 (.slice (some ⟨gb, 0, none⟩) n gc) (.int .i64 (i : Int))).run Try.prog W = .ok (.pointer (some ⟨gb, i, none⟩)) W)
    (h : ∀ (a' : Act) (w' : World), w' = w.drew → a' = (((((((((((((((a).put (some 190) (.bool true)).put (some 191) (.bool false)).put (some 192) (.bool false)).put (some 193) (.slice (some ⟨fb, 0, none⟩) n fc)).put (some 194) (.int .i64 (i : Int))).put (some 195) (.pointer (some ⟨fb, i, none⟩))).put (some 196) (.pointer (some ⟨q, 0, none⟩))).put (some 197) (.bool false)).put (some 198) (.slice (some ⟨gb, 0, none⟩) n gc)).put (some 199) (.int .i64 (i : Int))).put (some 200) (.pointer (some ⟨gb, i, none⟩))).put (some 201) (.pointer (some ⟨q2, 0, none⟩))).put (some 202) (.bool false)).put (some 203) (.bool false)).put (some 204) (.bool false) → Q .normal a' w') :
    (Code.region 36 plays36s_ops true).wp Try.prog Q a w := by
  refine wp_region_noPanic ?_
  refine wp_region_held_drew (S := fun w' => w'.cell? ⟨fb, i, none⟩ = some (.pointer (some ⟨q, 0, none⟩)) ∧ w'.cell? ⟨gb, i, none⟩ = some (.pointer (some ⟨q2, 0, none⟩)) ∧ w' = w.drew) (by kernel_rfl) (⟨h0.1, h0.2, rfl⟩) (fun hHeld => ?_)
  refine wpAnyH_take (i := 0) (oi := { dst := some 190, op := Op.move (Operand.tmp 8), type := 4, pos := "law.go:84", after := #[], guard := none }) (v := .bool true) rfl (by kernel_rfl) (by kernel_rfl) (by kernel_rfl) (fun _ _ _ h => h) (Or.inl ⟨by rfl, fun w1 hw => by go_simp⟩) hHeld ?_
  change wpAnyH _ _ _ _ _ _ _ (a.put (some 190) (.bool true)) _
  obtain ⟨a1, e1⟩ : ∃ act, act = a.put (some 190) (.bool true) := ⟨_, rfl⟩
  rw [← e1] at h ⊢
  have z1 : a1.tmps.size = 222 := by rw [e1, put_size]; exact hsz
  replace t3 : a1.tmps.getD 3 undef = .slice (some ⟨fb, 0, none⟩) n fc := by rw [e1, put_ne _ _ _ _ (by decide)]; exact t3
  replace t4 : a1.tmps.getD 4 undef = .slice (some ⟨gb, 0, none⟩) n gc := by rw [e1, put_ne _ _ _ _ (by decide)]; exact t4
  clear t8
  replace t15 : a1.tmps.getD 15 undef = .int .i64 (i : Int) := by rw [e1, put_ne _ _ _ _ (by decide)]; exact t15
  have t190 : a1.tmps.getD 190 undef = .bool true := by rw [e1]; exact put_same _ _ _ (by omega)
  clear e1 hsz
  refine wpAnyH_take (i := 1) (oi := { dst := some 191, op := Op.unOp UnOp.not 4 (Operand.tmp 190), type := 4, pos := "law.go:84", after := #[{ on := 0, ground := Ground.data }], guard := none }) (v := .bool false) rfl (by kernel_rfl) (by kernel_rfl) (by kernel_rfl) (fun _ _ _ h => h) (Or.inl ⟨by rfl, fun w1 hw => by go_simp⟩) hHeld ?_
  change wpAnyH _ _ _ _ _ _ _ (a1.put (some 191) (.bool false)) _
  obtain ⟨a2, e2⟩ : ∃ act, act = a1.put (some 191) (.bool false) := ⟨_, rfl⟩
  rw [← e2] at h ⊢
  have z2 : a2.tmps.size = 222 := by rw [e2, put_size]; exact z1
  replace t3 : a2.tmps.getD 3 undef = .slice (some ⟨fb, 0, none⟩) n fc := by rw [e2, put_ne _ _ _ _ (by decide)]; exact t3
  replace t4 : a2.tmps.getD 4 undef = .slice (some ⟨gb, 0, none⟩) n gc := by rw [e2, put_ne _ _ _ _ (by decide)]; exact t4
  replace t15 : a2.tmps.getD 15 undef = .int .i64 (i : Int) := by rw [e2, put_ne _ _ _ _ (by decide)]; exact t15
  clear t190
  have t191 : a2.tmps.getD 191 undef = .bool false := by rw [e2]; exact put_same _ _ _ (by omega)
  clear e2 z1
  refine wpAnyH_take (i := 2) (oi := { dst := some 192, op := Op.move (Operand.tmp 191), type := 4, pos := "law.go:84", after := #[{ on := 1, ground := Ground.data }], guard := none }) (v := .bool false) rfl (by kernel_rfl) (by kernel_rfl) (by kernel_rfl) (fun _ _ _ h => h) (Or.inl ⟨by rfl, fun w1 hw => by go_simp⟩) hHeld ?_
  change wpAnyH _ _ _ _ _ _ _ (a2.put (some 192) (.bool false)) _
  obtain ⟨a3, e3⟩ : ∃ act, act = a2.put (some 192) (.bool false) := ⟨_, rfl⟩
  rw [← e3] at h ⊢
  have z3 : a3.tmps.size = 222 := by rw [e3, put_size]; exact z2
  replace t3 : a3.tmps.getD 3 undef = .slice (some ⟨fb, 0, none⟩) n fc := by rw [e3, put_ne _ _ _ _ (by decide)]; exact t3
  replace t4 : a3.tmps.getD 4 undef = .slice (some ⟨gb, 0, none⟩) n gc := by rw [e3, put_ne _ _ _ _ (by decide)]; exact t4
  replace t15 : a3.tmps.getD 15 undef = .int .i64 (i : Int) := by rw [e3, put_ne _ _ _ _ (by decide)]; exact t15
  clear t191
  have t192 : a3.tmps.getD 192 undef = .bool false := by rw [e3]; exact put_same _ _ _ (by omega)
  clear e3 z2
  refine wpAnyH_take (i := 3) (oi := { dst := some 193, op := Op.move (Operand.tmp 3), type := 25, pos := "law.go:84", after := #[{ on := 2, ground := Ground.guard }], guard := some (2, false) }) (v := .slice (some ⟨fb, 0, none⟩) n fc) rfl (by kernel_rfl) (by kernel_rfl) (by kernel_rfl) (fun _ _ _ h => h) (Or.inl ⟨by simp [Region.wanted, yielded, plays36s_ops, tget z3 (by decide) t192], fun w1 hw => by go_simp⟩) hHeld ?_
  change wpAnyH _ _ _ _ _ _ _ (a3.put (some 193) (.slice (some ⟨fb, 0, none⟩) n fc)) _
  obtain ⟨a4, e4⟩ : ∃ act, act = a3.put (some 193) (.slice (some ⟨fb, 0, none⟩) n fc) := ⟨_, rfl⟩
  rw [← e4] at h ⊢
  have z4 : a4.tmps.size = 222 := by rw [e4, put_size]; exact z3
  clear t3
  replace t4 : a4.tmps.getD 4 undef = .slice (some ⟨gb, 0, none⟩) n gc := by rw [e4, put_ne _ _ _ _ (by decide)]; exact t4
  replace t15 : a4.tmps.getD 15 undef = .int .i64 (i : Int) := by rw [e4, put_ne _ _ _ _ (by decide)]; exact t15
  replace t192 : a4.tmps.getD 192 undef = .bool false := by rw [e4, put_ne _ _ _ _ (by decide)]; exact t192
  have t193 : a4.tmps.getD 193 undef = .slice (some ⟨fb, 0, none⟩) n fc := by rw [e4]; exact put_same _ _ _ (by omega)
  clear e4 z3
  refine wpAnyH_take (i := 4) (oi := { dst := some 194, op := Op.move (Operand.tmp 15), type := 3, pos := "law.go:84", after := #[{ on := 2, ground := Ground.guard }], guard := some (2, false) }) (v := .int .i64 (i : Int)) rfl (by kernel_rfl) (by kernel_rfl) (by kernel_rfl) (fun _ _ _ h => h) (Or.inl ⟨by simp [Region.wanted, yielded, plays36s_ops, tget z4 (by decide) t192], fun w1 hw => by go_simp⟩) hHeld ?_
  change wpAnyH _ _ _ _ _ _ _ (a4.put (some 194) (.int .i64 (i : Int))) _
  obtain ⟨a5, e5⟩ : ∃ act, act = a4.put (some 194) (.int .i64 (i : Int)) := ⟨_, rfl⟩
  rw [← e5] at h ⊢
  have z5 : a5.tmps.size = 222 := by rw [e5, put_size]; exact z4
  replace t4 : a5.tmps.getD 4 undef = .slice (some ⟨gb, 0, none⟩) n gc := by rw [e5, put_ne _ _ _ _ (by decide)]; exact t4
  replace t15 : a5.tmps.getD 15 undef = .int .i64 (i : Int) := by rw [e5, put_ne _ _ _ _ (by decide)]; exact t15
  replace t192 : a5.tmps.getD 192 undef = .bool false := by rw [e5, put_ne _ _ _ _ (by decide)]; exact t192
  replace t193 : a5.tmps.getD 193 undef = .slice (some ⟨fb, 0, none⟩) n fc := by rw [e5, put_ne _ _ _ _ (by decide)]; exact t193
  have t194 : a5.tmps.getD 194 undef = .int .i64 (i : Int) := by rw [e5]; exact put_same _ _ _ (by omega)
  clear e5 z4
  refine wpAnyH_take (i := 5) (oi := { dst := some 195, op := Op.indexAddr 25 (Operand.tmp 193) (Operand.tmp 194), type := 0, pos := "law.go:84", after := #[{ on := 3, ground := Ground.data }, { on := 4, ground := Ground.data }, { on := 2, ground := Ground.guard }], guard := some (2, false) }) (v := .pointer (some ⟨fb, i, none⟩)) rfl (by kernel_rfl) (by kernel_rfl) (by kernel_rfl) (fun _ _ _ h => h) (Or.inl ⟨by simp [Region.wanted, yielded, plays36s_ops, tget z5 (by decide) t192], fun w1 hw => by go_simp⟩) hHeld ?_
  change wpAnyH _ _ _ _ _ _ _ (a5.put (some 195) (.pointer (some ⟨fb, i, none⟩))) _
  obtain ⟨a6, e6⟩ : ∃ act, act = a5.put (some 195) (.pointer (some ⟨fb, i, none⟩)) := ⟨_, rfl⟩
  rw [← e6] at h ⊢
  have z6 : a6.tmps.size = 222 := by rw [e6, put_size]; exact z5
  replace t4 : a6.tmps.getD 4 undef = .slice (some ⟨gb, 0, none⟩) n gc := by rw [e6, put_ne _ _ _ _ (by decide)]; exact t4
  replace t15 : a6.tmps.getD 15 undef = .int .i64 (i : Int) := by rw [e6, put_ne _ _ _ _ (by decide)]; exact t15
  replace t192 : a6.tmps.getD 192 undef = .bool false := by rw [e6, put_ne _ _ _ _ (by decide)]; exact t192
  clear t193
  clear t194
  have t195 : a6.tmps.getD 195 undef = .pointer (some ⟨fb, i, none⟩) := by rw [e6]; exact put_same _ _ _ (by omega)
  clear e6 z5
  refine wpAnyH_take (i := 6) (oi := { dst := some 196, op := Op.load 23 (Operand.tmp 195), type := 23, pos := "law.go:84", after := #[{ on := 5, ground := Ground.data }, { on := 2, ground := Ground.guard }], guard := some (2, false) }) (v := .pointer (some ⟨q, 0, none⟩)) rfl (by kernel_rfl) (by kernel_rfl) (by kernel_rfl) (fun _ _ _ h => h) (Or.inl ⟨by simp [Region.wanted, yielded, plays36s_ops, tget z6 (by decide) t192], fun w1 hw => by have c := hw.1; go_simp⟩) hHeld ?_
  change wpAnyH _ _ _ _ _ _ _ (a6.put (some 196) (.pointer (some ⟨q, 0, none⟩))) _
  obtain ⟨a7, e7⟩ : ∃ act, act = a6.put (some 196) (.pointer (some ⟨q, 0, none⟩)) := ⟨_, rfl⟩
  rw [← e7] at h ⊢
  have z7 : a7.tmps.size = 222 := by rw [e7, put_size]; exact z6
  replace t4 : a7.tmps.getD 4 undef = .slice (some ⟨gb, 0, none⟩) n gc := by rw [e7, put_ne _ _ _ _ (by decide)]; exact t4
  replace t15 : a7.tmps.getD 15 undef = .int .i64 (i : Int) := by rw [e7, put_ne _ _ _ _ (by decide)]; exact t15
  replace t192 : a7.tmps.getD 192 undef = .bool false := by rw [e7, put_ne _ _ _ _ (by decide)]; exact t192
  clear t195
  have t196 : a7.tmps.getD 196 undef = .pointer (some ⟨q, 0, none⟩) := by rw [e7]; exact put_same _ _ _ (by omega)
  clear e7 z6
  refine wpAnyH_take (i := 7) (oi := { dst := some 197, op := Op.binOp BinOp.eql 23 (Operand.tmp 196) (Operand.const (Value.pointer none)) 23, type := 4, pos := "law.go:84", after := #[{ on := 6, ground := Ground.data }, { on := 2, ground := Ground.guard }], guard := some (2, false) }) (v := .bool false) rfl (by kernel_rfl) (by kernel_rfl) (by kernel_rfl) (fun _ _ _ h => h) (Or.inl ⟨by simp [Region.wanted, yielded, plays36s_ops, tget z7 (by decide) t192], fun w1 hw => by go_simp⟩) hHeld ?_
  change wpAnyH _ _ _ _ _ _ _ (a7.put (some 197) (.bool false)) _
  obtain ⟨a8, e8⟩ : ∃ act, act = a7.put (some 197) (.bool false) := ⟨_, rfl⟩
  rw [← e8] at h ⊢
  have z8 : a8.tmps.size = 222 := by rw [e8, put_size]; exact z7
  replace t4 : a8.tmps.getD 4 undef = .slice (some ⟨gb, 0, none⟩) n gc := by rw [e8, put_ne _ _ _ _ (by decide)]; exact t4
  replace t15 : a8.tmps.getD 15 undef = .int .i64 (i : Int) := by rw [e8, put_ne _ _ _ _ (by decide)]; exact t15
  replace t192 : a8.tmps.getD 192 undef = .bool false := by rw [e8, put_ne _ _ _ _ (by decide)]; exact t192
  clear t196
  have t197 : a8.tmps.getD 197 undef = .bool false := by rw [e8]; exact put_same _ _ _ (by omega)
  clear e8 z7
  refine wpAnyH_take (i := 8) (oi := { dst := some 198, op := Op.move (Operand.tmp 4), type := 28, pos := "law.go:84", after := #[{ on := 2, ground := Ground.guard }], guard := some (2, false) }) (v := .slice (some ⟨gb, 0, none⟩) n gc) rfl (by kernel_rfl) (by kernel_rfl) (by kernel_rfl) (fun _ _ _ h => h) (Or.inl ⟨by simp [Region.wanted, yielded, plays36s_ops, tget z8 (by decide) t192], fun w1 hw => by go_simp⟩) hHeld ?_
  change wpAnyH _ _ _ _ _ _ _ (a8.put (some 198) (.slice (some ⟨gb, 0, none⟩) n gc)) _
  obtain ⟨a9, e9⟩ : ∃ act, act = a8.put (some 198) (.slice (some ⟨gb, 0, none⟩) n gc) := ⟨_, rfl⟩
  rw [← e9] at h ⊢
  have z9 : a9.tmps.size = 222 := by rw [e9, put_size]; exact z8
  clear t4
  replace t15 : a9.tmps.getD 15 undef = .int .i64 (i : Int) := by rw [e9, put_ne _ _ _ _ (by decide)]; exact t15
  replace t192 : a9.tmps.getD 192 undef = .bool false := by rw [e9, put_ne _ _ _ _ (by decide)]; exact t192
  replace t197 : a9.tmps.getD 197 undef = .bool false := by rw [e9, put_ne _ _ _ _ (by decide)]; exact t197
  have t198 : a9.tmps.getD 198 undef = .slice (some ⟨gb, 0, none⟩) n gc := by rw [e9]; exact put_same _ _ _ (by omega)
  clear e9 z8
  refine wpAnyH_take (i := 9) (oi := { dst := some 199, op := Op.move (Operand.tmp 15), type := 3, pos := "law.go:84", after := #[{ on := 2, ground := Ground.guard }], guard := some (2, false) }) (v := .int .i64 (i : Int)) rfl (by kernel_rfl) (by kernel_rfl) (by kernel_rfl) (fun _ _ _ h => h) (Or.inl ⟨by simp [Region.wanted, yielded, plays36s_ops, tget z9 (by decide) t192], fun w1 hw => by go_simp⟩) hHeld ?_
  change wpAnyH _ _ _ _ _ _ _ (a9.put (some 199) (.int .i64 (i : Int))) _
  obtain ⟨a10, e10⟩ : ∃ act, act = a9.put (some 199) (.int .i64 (i : Int)) := ⟨_, rfl⟩
  rw [← e10] at h ⊢
  have z10 : a10.tmps.size = 222 := by rw [e10, put_size]; exact z9
  clear t15
  replace t192 : a10.tmps.getD 192 undef = .bool false := by rw [e10, put_ne _ _ _ _ (by decide)]; exact t192
  replace t197 : a10.tmps.getD 197 undef = .bool false := by rw [e10, put_ne _ _ _ _ (by decide)]; exact t197
  replace t198 : a10.tmps.getD 198 undef = .slice (some ⟨gb, 0, none⟩) n gc := by rw [e10, put_ne _ _ _ _ (by decide)]; exact t198
  have t199 : a10.tmps.getD 199 undef = .int .i64 (i : Int) := by rw [e10]; exact put_same _ _ _ (by omega)
  clear e10 z9
  refine wpAnyH_take (i := 10) (oi := { dst := some 200, op := Op.indexAddr 28 (Operand.tmp 198) (Operand.tmp 199), type := 0, pos := "law.go:84", after := #[{ on := 8, ground := Ground.data }, { on := 9, ground := Ground.data }, { on := 2, ground := Ground.guard }], guard := some (2, false) }) (v := .pointer (some ⟨gb, i, none⟩)) rfl (by kernel_rfl) (by kernel_rfl) (by kernel_rfl) (fun _ _ _ h => h) (Or.inl ⟨by simp [Region.wanted, yielded, plays36s_ops, tget z10 (by decide) t192], fun w1 hw => by go_simp⟩) hHeld ?_
  change wpAnyH _ _ _ _ _ _ _ (a10.put (some 200) (.pointer (some ⟨gb, i, none⟩))) _
  obtain ⟨a11, e11⟩ : ∃ act, act = a10.put (some 200) (.pointer (some ⟨gb, i, none⟩)) := ⟨_, rfl⟩
  rw [← e11] at h ⊢
  have z11 : a11.tmps.size = 222 := by rw [e11, put_size]; exact z10
  replace t192 : a11.tmps.getD 192 undef = .bool false := by rw [e11, put_ne _ _ _ _ (by decide)]; exact t192
  replace t197 : a11.tmps.getD 197 undef = .bool false := by rw [e11, put_ne _ _ _ _ (by decide)]; exact t197
  clear t198
  clear t199
  have t200 : a11.tmps.getD 200 undef = .pointer (some ⟨gb, i, none⟩) := by rw [e11]; exact put_same _ _ _ (by omega)
  clear e11 z10
  refine wpAnyH_take (i := 11) (oi := { dst := some 201, op := Op.load 26 (Operand.tmp 200), type := 26, pos := "law.go:84", after := #[{ on := 10, ground := Ground.data }, { on := 2, ground := Ground.guard }], guard := some (2, false) }) (v := .pointer (some ⟨q2, 0, none⟩)) rfl (by kernel_rfl) (by kernel_rfl) (by kernel_rfl) (fun _ _ _ h => h) (Or.inl ⟨by simp [Region.wanted, yielded, plays36s_ops, tget z11 (by decide) t192], fun w1 hw => by have c := hw.2.1; go_simp⟩) hHeld ?_
  change wpAnyH _ _ _ _ _ _ _ (a11.put (some 201) (.pointer (some ⟨q2, 0, none⟩))) _
  obtain ⟨a12, e12⟩ : ∃ act, act = a11.put (some 201) (.pointer (some ⟨q2, 0, none⟩)) := ⟨_, rfl⟩
  rw [← e12] at h ⊢
  have z12 : a12.tmps.size = 222 := by rw [e12, put_size]; exact z11
  replace t192 : a12.tmps.getD 192 undef = .bool false := by rw [e12, put_ne _ _ _ _ (by decide)]; exact t192
  replace t197 : a12.tmps.getD 197 undef = .bool false := by rw [e12, put_ne _ _ _ _ (by decide)]; exact t197
  clear t200
  have t201 : a12.tmps.getD 201 undef = .pointer (some ⟨q2, 0, none⟩) := by rw [e12]; exact put_same _ _ _ (by omega)
  clear e12 z11
  refine wpAnyH_take (i := 12) (oi := { dst := some 202, op := Op.binOp BinOp.eql 26 (Operand.tmp 201) (Operand.const (Value.pointer none)) 26, type := 4, pos := "law.go:84", after := #[{ on := 11, ground := Ground.data }, { on := 2, ground := Ground.guard }], guard := some (2, false) }) (v := .bool false) rfl (by kernel_rfl) (by kernel_rfl) (by kernel_rfl) (fun _ _ _ h => h) (Or.inl ⟨by simp [Region.wanted, yielded, plays36s_ops, tget z12 (by decide) t192], fun w1 hw => by go_simp⟩) hHeld ?_
  change wpAnyH _ _ _ _ _ _ _ (a12.put (some 202) (.bool false)) _
  obtain ⟨a13, e13⟩ : ∃ act, act = a12.put (some 202) (.bool false) := ⟨_, rfl⟩
  rw [← e13] at h ⊢
  have z13 : a13.tmps.size = 222 := by rw [e13, put_size]; exact z12
  replace t192 : a13.tmps.getD 192 undef = .bool false := by rw [e13, put_ne _ _ _ _ (by decide)]; exact t192
  replace t197 : a13.tmps.getD 197 undef = .bool false := by rw [e13, put_ne _ _ _ _ (by decide)]; exact t197
  clear t201
  have t202 : a13.tmps.getD 202 undef = .bool false := by rw [e13]; exact put_same _ _ _ (by omega)
  clear e13 z12
  refine wpAnyH_take (i := 13) (oi := { dst := some 203, op := Op.binOp BinOp.neq 4 (Operand.tmp 197) (Operand.tmp 202) 4, type := 4, pos := "law.go:84", after := #[{ on := 7, ground := Ground.data }, { on := 12, ground := Ground.data }, { on := 2, ground := Ground.guard }], guard := some (2, false) }) (v := .bool false) rfl (by kernel_rfl) (by kernel_rfl) (by kernel_rfl) (fun _ _ _ h => h) (Or.inl ⟨by simp [Region.wanted, yielded, plays36s_ops, tget z13 (by decide) t192], fun w1 hw => by go_simp⟩) hHeld ?_
  change wpAnyH _ _ _ _ _ _ _ (a13.put (some 203) (.bool false)) _
  obtain ⟨a14, e14⟩ : ∃ act, act = a13.put (some 203) (.bool false) := ⟨_, rfl⟩
  rw [← e14] at h ⊢
  have z14 : a14.tmps.size = 222 := by rw [e14, put_size]; exact z13
  replace t192 : a14.tmps.getD 192 undef = .bool false := by rw [e14, put_ne _ _ _ _ (by decide)]; exact t192
  clear t197
  clear t202
  have t203 : a14.tmps.getD 203 undef = .bool false := by rw [e14]; exact put_same _ _ _ (by omega)
  clear e14 z13
  refine wpAnyH_take (i := 14) (oi := { dst := some 204, op := Op.pick (Operand.tmp 192) (Operand.const (Value.bool true)) (Operand.tmp 203), type := 4, pos := "law.go:84", after := #[{ on := 2, ground := Ground.data }, { on := 13, ground := Ground.data }], guard := none }) (v := .bool false) rfl (by kernel_rfl) (by kernel_rfl) (by kernel_rfl) (fun _ _ _ h => h) (Or.inl ⟨by rfl, fun w1 hw => by go_simp⟩) hHeld ?_
  change wpAnyH _ _ _ _ _ _ _ (a14.put (some 204) (.bool false)) _
  obtain ⟨a15, e15⟩ : ∃ act, act = a14.put (some 204) (.bool false) := ⟨_, rfl⟩
  rw [← e15] at h ⊢
  have z15 : a15.tmps.size = 222 := by rw [e15, put_size]; exact z14
  clear t192
  clear t203
  clear e15 z14
  exact wpAnyH_done (by kernel_rfl) (NoPanic.normal (h _ _ hHeld.2.2 rfl)) _
def plays42_ops : Array Oper := #[{ dst := some 212, op := Op.move (Operand.tmp 3), type := 25, pos := "law.go:89", after := #[], guard := none }, { dst := some 213, op := Op.move (Operand.tmp 16), type := 3, pos := "law.go:89", after := #[], guard := none }, { dst := some 214, op := Op.indexAddr 25 (Operand.tmp 212) (Operand.tmp 213), type := 0, pos := "law.go:89", after := #[{ on := 0, ground := Ground.data }, { on := 1, ground := Ground.data }], guard := none }, { dst := some 215, op := Op.load 23 (Operand.tmp 214), type := 23, pos := "law.go:89", after := #[{ on := 2, ground := Ground.data }], guard := none }, { dst := some 216, op := Op.move (Operand.tmp 4), type := 28, pos := "law.go:89", after := #[], guard := none }, { dst := some 217, op := Op.move (Operand.tmp 16), type := 3, pos := "law.go:89", after := #[], guard := none }, { dst := some 218, op := Op.indexAddr 28 (Operand.tmp 216) (Operand.tmp 217), type := 0, pos := "law.go:89", after := #[{ on := 4, ground := Ground.data }, { on := 5, ground := Ground.data }], guard := none }, { dst := some 219, op := Op.load 26 (Operand.tmp 218), type := 26, pos := "law.go:89", after := #[{ on := 6, ground := Ground.data }], guard := none }, { dst := some 220, op := Op.call { callee := Callee.value (Operand.func 27), args := #[Operand.tmp 215, Operand.tmp 219], argTypes := #[23, 26] }, type := 4, pos := "law.go:89", after := #[{ on := 3, ground := Ground.data }, { on := 7, ground := Ground.data }], guard := none }, { dst := some 221, op := Op.unOp UnOp.not 4 (Operand.tmp 220), type := 4, pos := "law.go:89", after := #[{ on := 8, ground := Ground.data }], guard := none }]
set_option maxRecDepth 100000 in
set_option maxHeartbeats 4000000 in
theorem plays42 (fb fc gb gc n i : Nat) (px py : Option Addr) (D : World → Prop) (a : Act) (w : World) (Q : Exit → Act → World → Prop) (hsz : a.tmps.size = 222)
    (t3 : a.tmps.getD 3 undef = .slice (some ⟨fb, 0, none⟩) n fc)
    (t4 : a.tmps.getD 4 undef = .slice (some ⟨gb, 0, none⟩) n gc)
    (t16 : a.tmps.getD 16 undef = .int .i64 (i : Int))
    (h0 : w.drew.cell? ⟨fb, i, none⟩ = some (.pointer px) ∧ w.drew.cell? ⟨gb, i, none⟩ = some (.pointer py))
    (IX1 : ∀ W, (Instr.indexAt 25 (.slice (some ⟨fb, 0, none⟩) n fc) (.int .i64 (i : Int))).run Try.prog W = .ok (.pointer (some ⟨fb, i, none⟩)) W)
    (IX2 : ∀ W, (Instr.indexAt 28 (.slice (some ⟨gb, 0, none⟩) n gc) (.int .i64 (i : Int))).run Try.prog W = .ok (.pointer (some ⟨gb, i, none⟩)) W)
    (CA : Calls Try.prog 27 #[.pointer px, .pointer py] w.drew fun e w' => e = .returned (.bool true) ∧ D w' ∧ (w'.cell? ⟨fb, i, none⟩ = some (.pointer px) ∧ w'.cell? ⟨gb, i, none⟩ = some (.pointer py)))
    (h : ∀ (a' : Act) (w' : World), D w' → a' = ((((((((((a).put (some 212) (.slice (some ⟨fb, 0, none⟩) n fc)).put (some 213) (.int .i64 (i : Int))).put (some 214) (.pointer (some ⟨fb, i, none⟩))).put (some 215) (.pointer px)).put (some 216) (.slice (some ⟨gb, 0, none⟩) n gc)).put (some 217) (.int .i64 (i : Int))).put (some 218) (.pointer (some ⟨gb, i, none⟩))).put (some 219) (.pointer py)).put (some 220) (.bool true)).put (some 221) (.bool false) → Q .normal a' w') :
    (Code.region 42 plays42_ops true).wp Try.prog Q a w := by
  refine wp_region_noPanic ?_
  refine wp_region_held_drew (S := fun w' => w'.cell? ⟨fb, i, none⟩ = some (.pointer px) ∧ w'.cell? ⟨gb, i, none⟩ = some (.pointer py)) (by kernel_rfl) (h0) (fun hHeld => ?_)
  refine wpAnyH_take (i := 0) (oi := { dst := some 212, op := Op.move (Operand.tmp 3), type := 25, pos := "law.go:89", after := #[], guard := none }) (v := .slice (some ⟨fb, 0, none⟩) n fc) rfl (by kernel_rfl) (by kernel_rfl) (by kernel_rfl) (fun _ _ _ h => h) (Or.inl ⟨by rfl, fun w1 hw => by go_simp⟩) hHeld ?_
  change wpAnyH _ _ _ _ _ _ _ (a.put (some 212) (.slice (some ⟨fb, 0, none⟩) n fc)) _
  obtain ⟨a1, e1⟩ : ∃ act, act = a.put (some 212) (.slice (some ⟨fb, 0, none⟩) n fc) := ⟨_, rfl⟩
  rw [← e1] at h ⊢
  have z1 : a1.tmps.size = 222 := by rw [e1, put_size]; exact hsz
  clear t3
  replace t4 : a1.tmps.getD 4 undef = .slice (some ⟨gb, 0, none⟩) n gc := by rw [e1, put_ne _ _ _ _ (by decide)]; exact t4
  replace t16 : a1.tmps.getD 16 undef = .int .i64 (i : Int) := by rw [e1, put_ne _ _ _ _ (by decide)]; exact t16
  have t212 : a1.tmps.getD 212 undef = .slice (some ⟨fb, 0, none⟩) n fc := by rw [e1]; exact put_same _ _ _ (by omega)
  clear e1 hsz
  refine wpAnyH_take (i := 1) (oi := { dst := some 213, op := Op.move (Operand.tmp 16), type := 3, pos := "law.go:89", after := #[], guard := none }) (v := .int .i64 (i : Int)) rfl (by kernel_rfl) (by kernel_rfl) (by kernel_rfl) (fun _ _ _ h => h) (Or.inl ⟨by rfl, fun w1 hw => by go_simp⟩) hHeld ?_
  change wpAnyH _ _ _ _ _ _ _ (a1.put (some 213) (.int .i64 (i : Int))) _
  obtain ⟨a2, e2⟩ : ∃ act, act = a1.put (some 213) (.int .i64 (i : Int)) := ⟨_, rfl⟩
  rw [← e2] at h ⊢
  have z2 : a2.tmps.size = 222 := by rw [e2, put_size]; exact z1
  replace t4 : a2.tmps.getD 4 undef = .slice (some ⟨gb, 0, none⟩) n gc := by rw [e2, put_ne _ _ _ _ (by decide)]; exact t4
  replace t16 : a2.tmps.getD 16 undef = .int .i64 (i : Int) := by rw [e2, put_ne _ _ _ _ (by decide)]; exact t16
  replace t212 : a2.tmps.getD 212 undef = .slice (some ⟨fb, 0, none⟩) n fc := by rw [e2, put_ne _ _ _ _ (by decide)]; exact t212
  have t213 : a2.tmps.getD 213 undef = .int .i64 (i : Int) := by rw [e2]; exact put_same _ _ _ (by omega)
  clear e2 z1
  refine wpAnyH_take (i := 2) (oi := { dst := some 214, op := Op.indexAddr 25 (Operand.tmp 212) (Operand.tmp 213), type := 0, pos := "law.go:89", after := #[{ on := 0, ground := Ground.data }, { on := 1, ground := Ground.data }], guard := none }) (v := .pointer (some ⟨fb, i, none⟩)) rfl (by kernel_rfl) (by kernel_rfl) (by kernel_rfl) (fun _ _ _ h => h) (Or.inl ⟨by rfl, fun w1 hw => by go_simp⟩) hHeld ?_
  change wpAnyH _ _ _ _ _ _ _ (a2.put (some 214) (.pointer (some ⟨fb, i, none⟩))) _
  obtain ⟨a3, e3⟩ : ∃ act, act = a2.put (some 214) (.pointer (some ⟨fb, i, none⟩)) := ⟨_, rfl⟩
  rw [← e3] at h ⊢
  have z3 : a3.tmps.size = 222 := by rw [e3, put_size]; exact z2
  replace t4 : a3.tmps.getD 4 undef = .slice (some ⟨gb, 0, none⟩) n gc := by rw [e3, put_ne _ _ _ _ (by decide)]; exact t4
  replace t16 : a3.tmps.getD 16 undef = .int .i64 (i : Int) := by rw [e3, put_ne _ _ _ _ (by decide)]; exact t16
  clear t212
  clear t213
  have t214 : a3.tmps.getD 214 undef = .pointer (some ⟨fb, i, none⟩) := by rw [e3]; exact put_same _ _ _ (by omega)
  clear e3 z2
  refine wpAnyH_take (i := 3) (oi := { dst := some 215, op := Op.load 23 (Operand.tmp 214), type := 23, pos := "law.go:89", after := #[{ on := 2, ground := Ground.data }], guard := none }) (v := .pointer px) rfl (by kernel_rfl) (by kernel_rfl) (by kernel_rfl) (fun _ _ _ h => h) (Or.inl ⟨by rfl, fun w1 hw => by have c := hw.1; go_simp⟩) hHeld ?_
  change wpAnyH _ _ _ _ _ _ _ (a3.put (some 215) (.pointer px)) _
  obtain ⟨a4, e4⟩ : ∃ act, act = a3.put (some 215) (.pointer px) := ⟨_, rfl⟩
  rw [← e4] at h ⊢
  have z4 : a4.tmps.size = 222 := by rw [e4, put_size]; exact z3
  replace t4 : a4.tmps.getD 4 undef = .slice (some ⟨gb, 0, none⟩) n gc := by rw [e4, put_ne _ _ _ _ (by decide)]; exact t4
  replace t16 : a4.tmps.getD 16 undef = .int .i64 (i : Int) := by rw [e4, put_ne _ _ _ _ (by decide)]; exact t16
  clear t214
  have t215 : a4.tmps.getD 215 undef = .pointer px := by rw [e4]; exact put_same _ _ _ (by omega)
  clear e4 z3
  refine wpAnyH_take (i := 4) (oi := { dst := some 216, op := Op.move (Operand.tmp 4), type := 28, pos := "law.go:89", after := #[], guard := none }) (v := .slice (some ⟨gb, 0, none⟩) n gc) rfl (by kernel_rfl) (by kernel_rfl) (by kernel_rfl) (fun _ _ _ h => h) (Or.inl ⟨by rfl, fun w1 hw => by go_simp⟩) hHeld ?_
  change wpAnyH _ _ _ _ _ _ _ (a4.put (some 216) (.slice (some ⟨gb, 0, none⟩) n gc)) _
  obtain ⟨a5, e5⟩ : ∃ act, act = a4.put (some 216) (.slice (some ⟨gb, 0, none⟩) n gc) := ⟨_, rfl⟩
  rw [← e5] at h ⊢
  have z5 : a5.tmps.size = 222 := by rw [e5, put_size]; exact z4
  clear t4
  replace t16 : a5.tmps.getD 16 undef = .int .i64 (i : Int) := by rw [e5, put_ne _ _ _ _ (by decide)]; exact t16
  replace t215 : a5.tmps.getD 215 undef = .pointer px := by rw [e5, put_ne _ _ _ _ (by decide)]; exact t215
  have t216 : a5.tmps.getD 216 undef = .slice (some ⟨gb, 0, none⟩) n gc := by rw [e5]; exact put_same _ _ _ (by omega)
  clear e5 z4
  refine wpAnyH_take (i := 5) (oi := { dst := some 217, op := Op.move (Operand.tmp 16), type := 3, pos := "law.go:89", after := #[], guard := none }) (v := .int .i64 (i : Int)) rfl (by kernel_rfl) (by kernel_rfl) (by kernel_rfl) (fun _ _ _ h => h) (Or.inl ⟨by rfl, fun w1 hw => by go_simp⟩) hHeld ?_
  change wpAnyH _ _ _ _ _ _ _ (a5.put (some 217) (.int .i64 (i : Int))) _
  obtain ⟨a6, e6⟩ : ∃ act, act = a5.put (some 217) (.int .i64 (i : Int)) := ⟨_, rfl⟩
  rw [← e6] at h ⊢
  have z6 : a6.tmps.size = 222 := by rw [e6, put_size]; exact z5
  clear t16
  replace t215 : a6.tmps.getD 215 undef = .pointer px := by rw [e6, put_ne _ _ _ _ (by decide)]; exact t215
  replace t216 : a6.tmps.getD 216 undef = .slice (some ⟨gb, 0, none⟩) n gc := by rw [e6, put_ne _ _ _ _ (by decide)]; exact t216
  have t217 : a6.tmps.getD 217 undef = .int .i64 (i : Int) := by rw [e6]; exact put_same _ _ _ (by omega)
  clear e6 z5
  refine wpAnyH_take (i := 6) (oi := { dst := some 218, op := Op.indexAddr 28 (Operand.tmp 216) (Operand.tmp 217), type := 0, pos := "law.go:89", after := #[{ on := 4, ground := Ground.data }, { on := 5, ground := Ground.data }], guard := none }) (v := .pointer (some ⟨gb, i, none⟩)) rfl (by kernel_rfl) (by kernel_rfl) (by kernel_rfl) (fun _ _ _ h => h) (Or.inl ⟨by rfl, fun w1 hw => by go_simp⟩) hHeld ?_
  change wpAnyH _ _ _ _ _ _ _ (a6.put (some 218) (.pointer (some ⟨gb, i, none⟩))) _
  obtain ⟨a7, e7⟩ : ∃ act, act = a6.put (some 218) (.pointer (some ⟨gb, i, none⟩)) := ⟨_, rfl⟩
  rw [← e7] at h ⊢
  have z7 : a7.tmps.size = 222 := by rw [e7, put_size]; exact z6
  replace t215 : a7.tmps.getD 215 undef = .pointer px := by rw [e7, put_ne _ _ _ _ (by decide)]; exact t215
  clear t216
  clear t217
  have t218 : a7.tmps.getD 218 undef = .pointer (some ⟨gb, i, none⟩) := by rw [e7]; exact put_same _ _ _ (by omega)
  clear e7 z6
  refine wpAnyH_take (i := 7) (oi := { dst := some 219, op := Op.load 26 (Operand.tmp 218), type := 26, pos := "law.go:89", after := #[{ on := 6, ground := Ground.data }], guard := none }) (v := .pointer py) rfl (by kernel_rfl) (by kernel_rfl) (by kernel_rfl) (fun _ _ _ h => h) (Or.inl ⟨by rfl, fun w1 hw => by have c := hw.2; go_simp⟩) hHeld ?_
  change wpAnyH _ _ _ _ _ _ _ (a7.put (some 219) (.pointer py)) _
  obtain ⟨a8, e8⟩ : ∃ act, act = a7.put (some 219) (.pointer py) := ⟨_, rfl⟩
  rw [← e8] at h ⊢
  have z8 : a8.tmps.size = 222 := by rw [e8, put_size]; exact z7
  replace t215 : a8.tmps.getD 215 undef = .pointer px := by rw [e8, put_ne _ _ _ _ (by decide)]; exact t215
  clear t218
  have t219 : a8.tmps.getD 219 undef = .pointer py := by rw [e8]; exact put_same _ _ _ (by omega)
  clear e8 z7
  refine wpAnyH_ready (rs := [8]) (by kernel_rfl) (by simp) ?_
  refine AllReadyH.cons (o := { dst := some 220, op := Op.call { callee := Callee.value (Operand.func 27), args := #[Operand.tmp 215, Operand.tmp 219], argTypes := #[23, 26] }, type := 4, pos := "law.go:89", after := #[{ on := 3, ground := Ground.data }, { on := 7, ground := Ground.data }], guard := none }) rfl (fun K hK => ?_) AllReadyH.nil
  rw [if_pos (by rfl)]
  go_simp
  refine (CA).mono ?_
  rintro e x9 ⟨rfl, d1, s1⟩
  try go_wp2_with fail
  skip
  refine hK.out _ _ (s1) (fun hHeld => ?_)
  clear hK K
  change wpAnyH _ _ _ _ _ _ _ (a8.put (some 220) (.bool true)) _
  obtain ⟨a9, e9⟩ : ∃ act, act = a8.put (some 220) (.bool true) := ⟨_, rfl⟩
  rw [← e9] at h ⊢
  have z9 : a9.tmps.size = 222 := by rw [e9, put_size]; exact z8
  clear t215
  clear t219
  have t220 : a9.tmps.getD 220 undef = .bool true := by rw [e9]; exact put_same _ _ _ (by omega)
  clear e9 z8
  refine wpAnyH_take (i := 9) (oi := { dst := some 221, op := Op.unOp UnOp.not 4 (Operand.tmp 220), type := 4, pos := "law.go:89", after := #[{ on := 8, ground := Ground.data }], guard := none }) (v := .bool false) rfl (by kernel_rfl) (by kernel_rfl) (by kernel_rfl) (fun _ _ _ h => h) (Or.inl ⟨by rfl, fun w1 hw => by go_simp⟩) hHeld ?_
  change wpAnyH _ _ _ _ _ _ _ (a9.put (some 221) (.bool false)) _
  obtain ⟨a10, e10⟩ : ∃ act, act = a9.put (some 221) (.bool false) := ⟨_, rfl⟩
  rw [← e10] at h ⊢
  have z10 : a10.tmps.size = 222 := by rw [e10, put_size]; exact z9
  clear t220
  clear e10 z9
  exact wpAnyH_done (by kernel_rfl) (NoPanic.normal (h _ _ d1 rfl)) _
end Go.Proofs.Ytdajeabhhkgibaa

namespace Go.Proofs.Ytdajeabhhkgibaa
open Go.RowKit
set_option linter.unusedVariables false
set_option linter.unusedSimpArgs false

/-- One call of the script. -/
structure Opr where
  kind : Int
  which : Int
  other : Int
  hash : List UInt8
  bits : Int
  probes : Int
  la : Option Addr
  lc : Nat
  L : List (List UInt8)
/-- Its cells. -/
def opC (o : Opr) : List Value := [.int .i64 o.kind, .int .i64 o.which, .int .i64 o.other] ++ hcs o.hash ++ [.int .i64 o.bits, .int .i64 o.probes, .slice o.la o.L.length o.lc]
theorem opC_len {o : Opr} (h : o.hash.length = 32) : (opC o).length = 38 := by simp [opC, hcs_len, h]
theorem opC_one (o : Opr) : ∀ v ∈ opC o, v.oneCell' = true := by
  intro v hv
  simp only [opC, List.mem_append, List.mem_cons, List.not_mem_nil, or_false] at hv
  rcases hv with ((rfl | rfl | rfl) | hv) | (rfl | rfl | rfl)
  · rfl
  · rfl
  · rfl
  · exact hcs_one _ v hv
  · rfl
  · rfl
  · rfl
theorem s33 : (Try.prog.info? 33).map (·.size) = some 38 := by kernel_rfl
def zOp : Opr := ⟨0, 0, 0, z32, 0, 0, none, 0, []⟩
theorem z33 (w : World) : (zeroValue 33).run Try.prog w = .ok (.agg (opC zOp).toArray) w := (zero_of_info (n := 38) (by kernel_rfl)).1 w
theorem load33 (w : World) (b k : Nat) (o : Opr) (h : o.hash.length = 32) (hr : w.rangeAt b k (opC o)) : (Instr.loadAt 33 (.pointer (some ⟨b, k, none⟩))).run Try.prog w = .ok (.agg (opC o).toArray) w :=
  run_loadAt_mid (P := Try.prog) w b k 33 (opC o) _ hr Try.underlying33 rfl (by rw [opC_len h]; exact s33)
theorem at_ld33 {P : Program} {ops : Array Oper} {R : List Oper} {a : Act} {w : World} {Q : Exit → Act → World → Prop} {d : Option Tmp} {x : Operand} {ty : TypeId} {pos : String} {af : _} {g : _}
    (h : wpList P ops Q (⟨d, .load 33 x, ty, pos, af, g⟩ :: R) a w) : wpList P ops Q (⟨d, .load 33 x, ty, pos, af, g⟩ :: R) a w := h
theorem at_al33 {P : Program} {ops : Array Oper} {R : List Oper} {a : Act} {w : World} {Q : Exit → Act → World → Prop} {d : Option Tmp} {ty : TypeId} {pos : String} {af : _} {g : _}
    (h : wpList P ops Q (⟨d, .alloc 33, ty, pos, af, g⟩ :: R) a w) : wpList P ops Q (⟨d, .alloc 33, ty, pos, af, g⟩ :: R) a w := h
theorem wpList_ld33 {ops : Array Oper} {rest : List Oper} {o : Oper} {a : Act} {w : World} {Q : Exit → Act → World → Prop} (x : Operand) (ho : o.op = .load 33 x) (hg : o.guard = none) (b k : Nat) (hx : a.eval x = .pointer (some ⟨b, k, none⟩)) (p : Opr) (hl : p.hash.length = 32) (hr : w.rangeAt b k (opC p))
    (hK : wpList Try.prog ops Q rest (a.put o.dst (.agg (opC p).toArray)) w) : wpList Try.prog ops Q (o :: rest) a w :=
  wpList_plain hg fun _ hK' => by
    have := load33 w b k p hl hr
    unfold Oper.wp execOp
    simp only [ho, hx, Sem.run_bind, this, Result.andThen_ok, Sem.run_pure]
    exact hK' _ _ hK
theorem wpList_box33 {ops : Array Oper} {rest R : List Oper} {o1 o2 : Oper} {a : Act} {w : World} {Q : Exit → Act → World → Prop} (y : Operand) (d : Nat) (ho1 : o1.op = .alloc 33) (hd : o1.dst = some d) (hR : R = o2 :: rest) (hg1 : o1.guard = none) (hg2 : o2.guard = none) (hd2 : o2.dst = none)
    (ho2 : o2.op = .store 33 (.tmp d) y) (p : Opr) (hl : p.hash.length = 32) (he : (a.put (some d) (.pointer (some ⟨w.heap.size, 0, none⟩))).eval (.tmp d) = .pointer (some ⟨w.heap.size, 0, none⟩)) (hy : (a.put (some d) (.pointer (some ⟨w.heap.size, 0, none⟩))).eval y = .agg (opC p).toArray)
    (hK : wpList Try.prog ops Q rest (a.put (some d) (.pointer (some ⟨w.heap.size, 0, none⟩))) (w.alloc (.cells (opC p).toArray 33))) : wpList Try.prog ops Q (o1 :: R) a w := by
  subst hR
  refine wpList_alloc_row hg1 33 ho1 (opC zOp).toArray (z33 w) ?_
  rw [hd]
  refine wpList_store_row hg2 33 (.tmp d) y ho2 w.heap.size (opC p).toArray he hy 33 (opC zOp).toArray (heap_alloc_new _ _) (by rw [List.size_toArray, opC_len hl]; exact s33) (by rw [List.size_toArray, List.size_toArray, opC_len hl, opC_len z32_len]) (by rw [Array.all_eq_true']; intro v hv; exact opC_one p v (by simpa using hv)) ?_
  rw [World.setRow_alloc_new, hd2]
  exact hK
/-- What the box of an op holds. -/
structure OpB (w : World) (b : Nat) (o : Opr) : Prop where
  c0 : w.cell? ⟨b, 0, none⟩ = some (.int .i64 o.kind)
  c1 : w.cell? ⟨b, 1, none⟩ = some (.int .i64 o.which)
  c2 : w.cell? ⟨b, 2, none⟩ = some (.int .i64 o.other)
  hs : w.rangeAt b 3 (hcs o.hash)
  c35 : w.cell? ⟨b, 35, none⟩ = some (.int .i64 o.bits)
  c36 : w.cell? ⟨b, 36, none⟩ = some (.int .i64 o.probes)
  c37 : w.cell? ⟨b, 37, none⟩ = some (.slice o.la o.L.length o.lc)
theorem opC_get {o : Opr} (h : o.hash.length = 32) : (opC o)[0]? = some (.int .i64 o.kind) ∧ (opC o)[1]? = some (.int .i64 o.which) ∧ (opC o)[2]? = some (.int .i64 o.other) ∧ (∀ j v, (hcs o.hash)[j]? = some v → (opC o)[3 + j]? = some v) ∧ (opC o)[35]? = some (.int .i64 o.bits) ∧ (opC o)[36]? = some (.int .i64 o.probes) ∧ (opC o)[37]? = some (.slice o.la o.L.length o.lc) := by
  have hl : (hcs o.hash).length = 32 := by rw [hcs_len, h]
  refine ⟨by simp [opC], by simp [opC], by simp [opC], fun j v hj => ?_, ?_, ?_, ?_⟩
  · have hlt := (List.getElem?_eq_some_iff.1 hj).1
    unfold opC
    rw [List.getElem?_append_left (by simp; omega), List.getElem?_append_right (by simp)]
    simpa using hj
  · unfold opC; rw [List.getElem?_append_right (by simp [hl])]; simp [hl]
  · unfold opC; rw [List.getElem?_append_right (by simp [hl])]; simp [hl]
  · unfold opC; rw [List.getElem?_append_right (by simp [hl])]; simp [hl]
theorem opB_new (w : World) (o : Opr) (h : o.hash.length = 32) : OpB (w.alloc (.cells (opC o).toArray 33)) w.heap.size o := by
  obtain ⟨g0, g1, g2, g3, g4, g5, g6⟩ := opC_get h
  have c : ∀ j, (w.alloc (.cells (opC o).toArray 33)).cell? ⟨w.heap.size, j, none⟩ = (opC o)[j]? := fun j => by rw [cell_of_row _ w.heap.size j _ _ _ (heap_alloc_new w _)]; simp
  exact ⟨(c 0).trans g0, (c 1).trans g1, (c 2).trans g2, fun j v hj => (c (3 + j)).trans (g3 j v hj), (c 35).trans g4, (c 36).trans g5, (c 37).trans g6⟩
theorem OpB.below {w w' : World} {b : Nat} {o : Opr} (h : OpB w b o) (e : w'.heap[b]? = w.heap[b]?) : OpB w' b o := by
  have c : ∀ j, w'.cell? ⟨b, j, none⟩ = w.cell? ⟨b, j, none⟩ := fun j => World.cell?_of_block (w := w) (a := ⟨b, j, none⟩) e
  exact ⟨(c 0).trans h.c0, (c 1).trans h.c1, (c 2).trans h.c2, fun j v hj => (c _).trans (h.hs j v hj), (c 35).trans h.c35, (c 36).trans h.c36, (c 37).trans h.c37⟩
end Go.Proofs.Ytdajeabhhkgibaa

namespace Go.Proofs.Ytdajeabhhkgibaa
open Go.RowKit
set_option linter.unusedVariables false
set_option linter.unusedSimpArgs false

theorem ownV_lit (w : World) (N : Nat) (e : TypeId) (v : Value) (hN : N ≤ w.heap.size) : K.OwnV (w.alloc (.cells #[v] e)) N e (.slice (some ⟨w.heap.size, 0, none⟩) 1 1) [v] :=
  ⟨rfl, .inr ⟨w.heap.size, 1, #[v], rfl, hN, heap_alloc_new _ _, by simp, by simp [maxLen], rfl, rfl⟩⟩
theorem okB_of (U : Nat) : okB (ofB U) = true := decide_eq_true ⟨(ofB_8 U).1, ofB_le U, (ofB_8 U).2⟩
theorem hl_nil (w : World) (a : Option Addr) : Hl w a [] := .inl rfl
/-- The two rows as they begin. -/
theorem pl_begin {w W1 W2 : World} {q g q2 g2 : Nat} (hf : FAt w.heap.size W1 q g (ofB 0) 7 (addL _ (ofB_pos 0) 7 (fun _ => 0) [])) (b1 : Below w.heap.size w W1)
    (hr : RW W2 q2 g2 (ofB 0) 7 (bitAt (addL _ (ofB_pos 0) 7 (fun _ => 0) []))) (b2 : Below (W1.alloc (.cells #[.pointer (some ⟨q, 0, none⟩)] 23)).heap.size (W1.alloc (.cells #[.pointer (some ⟨q, 0, none⟩)] 23)) W2) (l1 : (W1.alloc (.cells #[.pointer (some ⟨q, 0, none⟩)] 23)).heap.size ≤ g2) (l2 : (W1.alloc (.cells #[.pointer (some ⟨q, 0, none⟩)] 23)).heap.size ≤ q2) :
    ∃ t, t.q = q ∧ t.q2 = q2 ∧ Pl w.heap.size (W2.alloc (.cells #[.pointer (some ⟨q2, 0, none⟩)] 26)) [some t] ([some t].map fptr) ([some t].map gptr) (.slice (some ⟨W1.heap.size, 0, none⟩) 1 1) (.slice (some ⟨W2.heap.size, 0, none⟩) 1 1) ∧ Below w.heap.size w (W2.alloc (.cells #[.pointer (some ⟨q2, 0, none⟩)] 26)) := by
  obtain ⟨A, hA⟩ : ∃ A, W1.alloc (.cells #[.pointer (some ⟨q, 0, none⟩)] 23) = A := ⟨_, rfl⟩
  have sA : A.heap.size = W1.heap.size + 1 := by rw [← hA]; simp
  have bA : Below W1.heap.size W1 A := by rw [← hA]; exact (Below.refl _ _).alloc (Nat.le_refl _) _
  have oF : K.OwnV A w.heap.size 23 (.slice (some ⟨W1.heap.size, 0, none⟩) 1 1) [.pointer (some ⟨q, 0, none⟩)] := by rw [← hA]; exact ownV_lit W1 w.heap.size 23 _ b1.size
  rw [hA] at b2 l1 l2
  obtain ⟨B, hB⟩ : ∃ B, W2.alloc (.cells #[.pointer (some ⟨q2, 0, none⟩)] 26) = B := ⟨_, rfl⟩
  have sB : B.heap.size = W2.heap.size + 1 := by rw [← hB]; simp
  have bB : Below W2.heap.size W2 B := by rw [← hB]; exact (Below.refl _ _).alloc (Nat.le_refl _) _
  have z1 := b1.size
  have z2 := b2.size
  have oG : K.OwnV B w.heap.size 26 (.slice (some ⟨W2.heap.size, 0, none⟩) 1 1) [.pointer (some ⟨q2, 0, none⟩)] := by rw [← hB]; exact ownV_lit W2 w.heap.size 26 _ (by omega)
  rw [hB]
  have bw2 : Below W1.heap.size W1 W2 := bA.trans (b2.mono (by omega))
  have bwB : Below W1.heap.size W1 B := bw2.trans (bB.mono (by omega))
  have fB : FW B q g (ofB 0) 7 (addL _ (ofB_pos 0) 7 (fun _ => 0) []) := hf.fw.below bwB
  have rB : RW B q2 g2 (ofB 0) 7 (bitAt (addL _ (ofB_pos 0) 7 (fun _ => 0) [])) := hr.below bB
  have q1 := hf.fw.fc.lt
  have g1 := hf.fw.wr.lt
  have q3 := hr.rc.lt
  have g3 := hr.rb.lt
  obtain ⟨ht, hb⟩ := itAt_new (N := w.heap.size) (w := w) (w1 := W1) (w2 := B) (Nat.le_refl _) fB rB (within_addL (ofB_pos 0) 7 (within_zero _) []) (addL_lt (ofB_pos 0) 7 (fun i => by omega) []) (okB_of 0) (by omega) (by omega) hf.lq hf.lg (by omega) (by omega) q1 g1 z1
  refine ⟨⟨q, g, q2, g2, ofB 0, 7, addL _ (ofB_pos 0) 7 (fun _ => 0) []⟩, rfl, rfl, ⟨by omega, (oF.below b2).below bB, oG, ?_, ?_, ?_⟩, b1.trans (bwB.mono (by omega))⟩
  · intro k e1 e2
    simp only [Value.ownBlock, Option.some.injEq] at e1 e2
    omega
  · intro t hm
    simp at hm
    subst hm
    refine ⟨ht, fun k hk => ⟨fun e => ?_, fun e => ?_⟩⟩
    · simp only [Value.ownBlock, Option.some.injEq] at e
      rcases hk with h | h | h | h <;> (simp only at h; omega)
    · simp only [Value.ownBlock, Option.some.injEq] at e
      rcases hk with h | h | h | h <;> (simp only at h; omega)
  · intro i j x y hi hj hij
    have h1 := (List.getElem?_eq_some_iff.1 hi).1
    have h2 := (List.getElem?_eq_some_iff.1 hj).1
    simp at h1 h2
    omega
/-- A script in memory. -/
def OpsAt (w : World) (a : Option Addr) (O : List Opr) : Prop := O = [] ∨ ∃ b off, a = some ⟨b, off, none⟩ ∧ b < w.heap.size ∧ ∀ i o, O[i]? = some o → w.rangeAt b (off + 38 * i) (opC o)
def I64i (x : Int) : Prop := -9223372036854775808 ≤ x ∧ x ≤ 9223372036854775807
structure OpOk (w : World) (o : Opr) : Prop where
  hl : o.hash.length = 32
  all : All32 o.L
  few : o.L.length ≤ 4398046510976
  at_ : Hl w o.la o.L
  r0 : I64i o.kind
  r1 : I64i o.which
  r2 : I64i o.other
  r3 : I64i o.bits
  r4 : I64i o.probes
/-- A row that is not empty. -/
theorem Pl.open {N : Nat} {w : World} {X : List (Option It)} {fa ga : Option Addr} {n fc gc : Nat} (h : Pl N w X (X.map fptr) (X.map gptr) (.slice fa n fc) (.slice ga n gc)) (h0 : 0 < X.length) (hn : X.length = n) :
    ∃ fb gb, fa = some ⟨fb, 0, none⟩ ∧ ga = some ⟨gb, 0, none⟩ ∧ ∀ i x, X[i]? = some x → w.cell? ⟨fb, i, none⟩ = some (fptr x) ∧ w.cell? ⟨gb, i, none⟩ = some (gptr x) := by
  have key : ∀ (e : TypeId) (va : Option Addr) (vc : Nat) (Y : List Value), K.OwnV w N e (.slice va n vc) Y → Y.length = n → 0 < n → ∃ b, va = some ⟨b, 0, none⟩ ∧ ∀ i u, Y[i]? = some u → w.cell? ⟨b, i, none⟩ = some u := by
    intro e va vc Y ho hy hp
    rcases ho.2 with ⟨e1, h1⟩ | ⟨g, cap, cur, e1, hbg, hg, hnc, hcm, hcs, htake⟩
    · omega
    · simp only [Value.slice.injEq] at e1
      obtain ⟨rfl, _, rfl⟩ := e1
      refine ⟨g, rfl, fun i u hu => ?_⟩
      rw [cell_of_row w g i cur e (0, 0) hg]
      rw [← htake, List.getElem?_take] at hu
      split at hu
      · simpa using hu
      · cases hu
  obtain ⟨fb, e1, c1⟩ := key 23 fa fc _ h.f (by simpa using hn) (by omega)
  obtain ⟨gb, e2, c2⟩ := key 26 ga gc _ h.g (by simpa using hn) (by omega)
  exact ⟨fb, gb, e1, e2, fun i x hx => ⟨c1 i _ (by rw [List.getElem?_map, hx]; rfl), c2 i _ (by rw [List.getElem?_map, hx]; rfl)⟩⟩
set_option maxRecDepth 100000 in
theorem index25 (b n cap k : Nat) (w : World) (hk : k < n) : (Instr.indexAt 25 (.slice (some ⟨b, 0, none⟩) n cap) (.int .i64 (k : Int))).run Try.prog w = .ok (.pointer (some ⟨b, k, none⟩)) w := by
  rw [run_indexAt_slice (P := Try.prog) _ _ _ _ _ _ _ Try.underlying25]
  have hsz : (sizeOf (Try.prog.elem 25)).run Try.prog w = .ok 1 w := by kernel_rfl
  simp [hk, hsz, Addr.add_mid]
set_option maxRecDepth 100000 in
theorem index28 (b n cap k : Nat) (w : World) (hk : k < n) : (Instr.indexAt 28 (.slice (some ⟨b, 0, none⟩) n cap) (.int .i64 (k : Int))).run Try.prog w = .ok (.pointer (some ⟨b, k, none⟩)) w := by
  rw [run_indexAt_slice (P := Try.prog) _ _ _ _ _ _ _ Try.underlying28]
  have hsz : (sizeOf (Try.prog.elem 28)).run Try.prog w = .ok 1 w := by kernel_rfl
  simp [hk, hsz, Addr.add_mid]
set_option maxRecDepth 100000 in
theorem index22 (b off n cap k : Nat) (w : World) (hk : k < n) : (Instr.indexAt 22 (.slice (some ⟨b, off, none⟩) n cap) (.int .i64 (k : Int))).run Try.prog w = .ok (.pointer (some ⟨b, off + 38 * k, none⟩)) w := by
  rw [run_indexAt_slice (P := Try.prog) _ _ _ _ _ _ _ Try.underlying22]
  have hsz : (sizeOf (Try.prog.elem 22)).run Try.prog w = .ok 38 w := by kernel_rfl
  simp [hk, hsz, Addr.add_mid, Nat.mul_comm]
/-- alike of a pair. -/
theorem alike_it {N : Nat} {w : World} {X : List (Option It)} {F G : List Value} {fv gv : Value} (h : Pl N w X F G fv gv) (i : Nat) (x : Option It) (hi : X[i]? = some x) (W : World) (hb : Below w.heap.size w W) :
    ∃ px py, fptr x = .pointer px ∧ gptr x = .pointer py ∧ Calls Try.prog 27 #[.pointer px, .pointer py] W fun e w' => e = .returned (.bool true) ∧ Below W.heap.size W w' := by
  cases x with
  | none => exact ⟨none, none, rfl, rfl, alike_nil W⟩
  | some t =>
    have ht := ((h.below hb).it t (List.mem_of_getElem? hi)).1
    refine ⟨_, _, rfl, rfl, alike_ok t.q t.g t.q2 t.g2 t.bits t.p t.ws W ht.fw ht.rw' ht.wi ht.lt ht.ob ?_⟩
    first | exact decide_eq_true ⟨by have := ht.p1; omega, by have := ht.p2; omega⟩ | (have h1 := ht.p1; have h2 := ht.p2; omega)
end Go.Proofs.Ytdajeabhhkgibaa

namespace Go.Proofs.Ytdajeabhhkgibaa
open Go.RowKit
set_option linter.unusedVariables false
set_option linter.unusedSimpArgs false

theorem own_mono {w : World} {base base' e sz n : Nat} {v : Value} {xs : List Value} (h : w.ownsRow base e sz v n xs) (hb : base' ≤ base) : w.ownsRow base' e sz v n xs := by
  refine ⟨h.1, ?_⟩
  rcases h.2 with hn | ⟨g, cap, cur, e, hbg, rest⟩
  · exact .inl hn
  · exact .inr ⟨g, cap, cur, e, Nat.le_trans hb hbg, rest⟩
/-- What Spots tells, and that it is the caller's. -/
def SpOwn (N : Nat) (l : List Value) (w : World) (e : Ending) (w' : World) : Prop := ∃ v, e = .returned v ∧ w'.ownsRow w.heap.size 3 1 v N l ∧ Below w.heap.size w w'
set_option maxRecDepth 100000 in
theorem spots_own (q g bits probes : Nat) (ws : Nat → Nat) (h : List UInt8) (w : World) (hl : h.length = 32) (hb0 : 0 < bits) (hb1 : bits ≤ 65536) (hp : probes ≤ 16) (hF : FW w q g bits probes ws) :
    Calls Try.prog 25 #[.pointer (some ⟨q, 0, none⟩), .agg (bs h)] w (SpOwn probes ((spotL h bits hb0 probes).map spV) w) := by
  have HR : Hid ((w.alloc (.cells (bs h) 30)).rangeAt w.heap.size 0 (hcs h)) := range_box w h 30
  obtain ⟨W0, hW0⟩ : ∃ W0, ((w.alloc (.cells (bs h) 30)).alloc (.cells #[.pointer (some ⟨q, 0, none⟩)] 23)).alloc (.cells (bs h) 30) = W0 := ⟨_, rfl⟩
  have hA : W0.heap.size = w.heap.size + 3 ∧ W0.cell? ⟨w.heap.size + 1, 0, none⟩ = some (.pointer (some ⟨q, 0, none⟩)) ∧ HB W0 (w.heap.size + 2) h ∧ Below w.heap.size w W0 := by
    obtain ⟨w1, e1⟩ : ∃ x, w.alloc (.cells (bs h) 30) = x := ⟨_, rfl⟩
    rw [e1] at hW0
    obtain ⟨w2, e2⟩ : ∃ x, w1.alloc (.cells #[.pointer (some ⟨q, 0, none⟩)] 23) = x := ⟨_, rfl⟩
    rw [e2] at hW0
    have s1 : w1.heap.size = w.heap.size + 1 := by rw [← e1]; simp
    have s2 : w2.heap.size = w1.heap.size + 1 := by rw [← e2]; simp
    have s3 : W0.heap.size = w2.heap.size + 1 := by rw [← hW0]; simp
    have b1 : Below w.heap.size w w1 := by rw [← e1]; exact (Below.refl _ _).alloc (Nat.le_refl _) _
    have b2 : Below w1.heap.size w1 w2 := by rw [← e2]; exact (Below.refl _ _).alloc (Nat.le_refl _) _
    have b3 : Below w2.heap.size w2 W0 := by rw [← hW0]; exact (Below.refl _ _).alloc (Nat.le_refl _) _
    have c2 : w2.cell? ⟨w1.heap.size, 0, none⟩ = some (.pointer (some ⟨q, 0, none⟩)) := by rw [← e2]; exact (cell_of_row _ _ 0 _ _ _ (heap_alloc_new w1 _)).trans rfl
    refine ⟨by omega, ?_, ?_, b1.trans ((b2.trans (b3.mono (by omega))).mono (by omega))⟩
    · rw [show w.heap.size + 1 = w1.heap.size by omega]
      exact (b3.cell (p := ⟨w1.heap.size, 0, none⟩) (by show w1.heap.size < _; omega)).trans c2
    · rw [show w.heap.size + 2 = w2.heap.size by omega, ← hW0]
      exact hb_box w2 h hl 30
  obtain ⟨s0, k1, k2, k3⟩ := hA
  have lq := hF.fc.lt
  have lg := hF.wr.lt
  have HAP := Hid.mk' (appseq_any q g bits probes (w.heap.size + 2) (w.heap.size + 1) h W0 hb0 hb1 hp k2 k1 (hF.fc.of (k3.block q lq)) (by omega) (by omega))
  have HC : Hid (Calls Try.prog 50 #[.func (.func 98) #[] #[.pointer (some ⟨w.heap.size + 2, 0, none⟩), .pointer (some ⟨w.heap.size + 1, 0, none⟩)]] W0 (SpOwn probes ((spotL h bits hb0 probes).map spV) w)) := by
    clear hF
    go_enter Try.func50, Try.ntmps50
    go_wp2_with (first
      | (go_at_call 100; refine HAP.out.mono ?_; rintro e W5 ⟨v, rfl, ow, be⟩; have OW := Hid.mk' ow; have BE := Hid.mk' be; clear ow be)
      | fail)
    go_ret
    have OW2 := OW.out
    rw [spotL_len] at OW2
    exact ⟨v, rfl, own_mono OW2 k3.size, k3.trans (BE.out.mono k3.size)⟩
  clear HAP hF
  have HW0 := Hid.mk' hW0
  clear hW0
  go_enter Try.func25, Try.ntmps25
  go_wp2_with (first
    | (with_reducible refine at_ld ?_; refine wpList_ld (.tmp 3) rfl rfl w.heap.size 0 rfl h hl HR.out ?_)
    | (go_at_call 42; refine (spots_any _ h _ hl).mono ?_; rintro e w' ⟨rfl, hw⟩; have hw2 := hw.trans HW0.out; clear hw; obtain rfl := hw2.symm; clear hw2)
    | (go_at_call 50; refine HC.out.mono ?_; rintro e W5 ⟨v, rfl, hc, be⟩; have HCC := Hid.mk' hc; have BE := Hid.mk' be; clear hc be)
    | fail)
  go_ret
  exact ⟨v, rfl, HCC.out, BE.out⟩

/-- A Book's cells: bytes and ints. -/
def bkC2 (b i : Value) : Array Value := #[b, .slice none 0 0, .slice none 0 0, .slice none 0 0, i, .slice none 0 0, .slice none 0 0, .slice none 0 0, .slice none 0 0, .slice none 0 0, .slice none 0 0, .slice none 0 0, .slice none 0 0, .slice none 0 0, .slice none 0 0, .slice none 0 0, .slice none 0 0, .slice none 0 0]
theorem ty_ne {w : World} {b base e sz n t : Nat} {v : Value} {xs : List Value} {C : Array Value} {fr : Nat × Nat} (hq : w.heap[b]? = some (.cells C t fr)) (h : w.ownsRow base e sz v n xs) (ht : t ≠ e) : v.ownBlock ≠ some b := fun e1 => by
  rcases h.2 with ⟨rfl, _⟩ | ⟨g, cap, cur, rfl, _, hg, _⟩
  · cases e1
  · simp [Value.ownBlock] at e1
    subst e1
    rw [hq] at hg
    injection hg with hg
    injection hg with _ h2 _
    exact ht h2
theorem own_ty {w : World} {base e sz n b : Nat} {v : Value} {xs : List Value} (h : w.ownsRow base e sz v n xs) (e1 : v.ownBlock = some b) : ∃ C, w.heap[b]? = some (.cells C e (0, 0)) := by
  rcases h.2 with ⟨rfl, _⟩ | ⟨g, cap, cur, rfl, _, hg, _⟩
  · cases e1
  · simp [Value.ownBlock] at e1
    subst e1
    exact ⟨cur, hg⟩
/-- What a Take leaves alone. -/
structure Tk (q : Nat) (row : Option Nat) (w w' : World) : Prop where
  os : w'.os = w.os
  tape : w'.tape = w.tape
  output : w'.output = w.output
  size : w.heap.size ≤ w'.heap.size
  block : ∀ k, k < w.heap.size → k ≠ q → row ≠ some k → w'.heap[k]? = w.heap[k]?
theorem zBk (w : World) : (zeroValue 84).run Try.prog w = .ok (.agg (bkC2 (.slice none 0 0) (.slice none 0 0))) w := (zero_of_info (n := 18) (by kernel_rfl)).1 w
set_option maxRecDepth 100000 in
set_option maxHeartbeats 1000000 in
theorem takeB (q : Nat) (bv iv : Value) (rows : List Value) (a : Option Addr) (n c : Nat) (w : World) (hq : w.heap[q]? = some (.cells (bkC2 bv iv) 84 (0, 0))) (hr : w.ownsRow q 53 1 bv rows.length rows) (hn : rows.length ≤ 1000) :
    Calls Try.prog 36 #[.pointer (some ⟨q, 0, none⟩), .slice a n c] w fun e w' => e = .returned (.tuple #[]) ∧ (∃ v', w'.heap[q]? = some (.cells (bkC2 v' iv) 84 (0, 0)) ∧ w'.ownsRow q 53 1 v' (rows.length + 1) (rows ++ [.slice a n c])) ∧ Tk q (bv).ownBlock w w' := by
  obtain ⟨i0, hi0, hz0, hs0, hby0⟩ := B.infoUl
  have hne : (bv).ownBlock ≠ some q := ty_ne hq hr (by decide)
  have zq : q < w.heap.size := (Array.getElem?_eq_some_iff.1 hq).1
  have c0 := (cell_of_row w q 0 _ _ _ hq).trans (show (bkC2 bv iv)[0]? = some bv from rfl)
  have be : Below w.heap.size w (w.alloc (.cells #[.slice a n c] 53)) := (Below.refl _ _).alloc (Nat.le_refl _) _
  have RA : Hid ((w.alloc (.cells #[.slice a n c] 53)).ownsRow q 53 1 bv rows.length rows) := World.ownsRow.kept hr (World.grownBy_alloc w _ none) (by cases hx : (bv).ownBlock <;> simp)
  have CA : Hid ((w.alloc (.cells #[.slice a n c] 53)).cell? ⟨w.heap.size, 0, none⟩ = some (.slice a n c)) := (cell_of_row _ w.heap.size 0 _ _ _ (heap_alloc_new _ _)).trans rfl
  have ZA : Hid (q ≤ (w.alloc (.cells #[.slice a n c] 53)).heap.size) := (by simp; omega : _ ≤ _)
  have QA : Hid ((w.alloc (.cells #[.slice a n c] 53)).heap[q]? = some (.cells (bkC2 bv iv) 84 (0, 0))) := (be.block q zq).trans hq
  have be2 := be
  clear hq hr be
  go_enter Try.func36, Try.ntmps36
  go_wp2_with (first | (at_builtin; refine B.wpList_app3 rfl (.tmp 8) (.tmp 10) 65 53 i0 (.slice none 0 0) 1 24 Try.underlying65 hi0 hz0 hs0 hby0 rfl (by decide) rfl q bv rows.length rows rfl RA.out ⟨w.heap.size, 0, none⟩ 1 [.slice a n c] rfl rfl (B.one_cell CA.out) (by simp; rfl) (by unfold maxLen; omega) (by omega) ZA.out ?_) | fail)
  intro all' w1 rows' gr hblk
  have zA : q < (w.alloc (.cells #[.slice a n c] 53)).heap.size := by simp; omega
  have hq1 : w1.heap[q]? = some (.cells (bkC2 bv iv) 84 (0, 0)) := by rw [gr.block q zA (fun e => hne e.symm)]; exact QA.out
  have d0 := (cell_of_row w1 q 0 _ _ _ hq1).trans (show (bkC2 bv iv)[0]? = some bv from rfl)
  have f0 := frozen_of_row w1 q 0 _ _ hq1
  have hne1 : all'.ownBlock ≠ some q := ty_ne hq1 rows' (by decide)
  have W1 : Hid ((w1.setCell ⟨q, 0, none⟩ all').heap[q]? = some (.cells (bkC2 all' iv) 84 (0, 0))) := by show _ = _; rw [heap_setCell_same w1 q 0 _ 84 _ hq1]; rfl
  have W2 : Hid ((w1.setCell ⟨q, 0, none⟩ all').ownsRow q 53 1 all' (rows.length + 1) (rows ++ [.slice a n c])) := B.own_other rows' hne1
  have FR : Hid (Tk q (bv).ownBlock w (w1.setCell ⟨q, 0, none⟩ all')) := ⟨(show w1.os = _ from gr.os).trans be2.os, (show w1.tape = _ from gr.tape).trans be2.tape, (show w1.output = _ from gr.output).trans be2.output, Nat.le_trans (Nat.le_trans be2.size gr.size) (by simp [World.setCell]), fun k hk hkq hko => by
    rw [Below.heap_setCell _ _ _ _ hkq, gr.block k (by simp; omega) (fun e => hko e.symm)]
    exact be2.block k hk⟩
  obtain ⟨ga, gc, rfl⟩ := B.own_slice rows'
  clear RA CA ZA QA rows' gr hblk hne1 hne be2
  go_wp2
  go_end0
  exact ⟨rfl, ⟨_, W1.out, W2.out⟩, FR.out⟩
set_option maxRecDepth 100000 in
set_option maxHeartbeats 1000000 in
theorem takeI (q : Nat) (bv iv : Value) (rows : List Value) (a : Option Addr) (n c : Nat) (w : World) (hq : w.heap[q]? = some (.cells (bkC2 bv iv) 84 (0, 0))) (hr : w.ownsRow q 49 1 iv rows.length rows) (hn : rows.length ≤ 1000) :
    Calls Try.prog 37 #[.pointer (some ⟨q, 0, none⟩), .slice a n c] w fun e w' => e = .returned (.tuple #[]) ∧ (∃ v', w'.heap[q]? = some (.cells (bkC2 bv v') 84 (0, 0)) ∧ w'.ownsRow q 49 1 v' (rows.length + 1) (rows ++ [.slice a n c])) ∧ Tk q (iv).ownBlock w w' := by
  obtain ⟨i0, hi0, hz0, hs0, hby0⟩ := B.infoIl
  have hne : (iv).ownBlock ≠ some q := ty_ne hq hr (by decide)
  have zq : q < w.heap.size := (Array.getElem?_eq_some_iff.1 hq).1
  have c0 := (cell_of_row w q 4 _ _ _ hq).trans (show (bkC2 bv iv)[4]? = some iv from rfl)
  have be : Below w.heap.size w (w.alloc (.cells #[.slice a n c] 49)) := (Below.refl _ _).alloc (Nat.le_refl _) _
  have RA : Hid ((w.alloc (.cells #[.slice a n c] 49)).ownsRow q 49 1 iv rows.length rows) := World.ownsRow.kept hr (World.grownBy_alloc w _ none) (by cases hx : (iv).ownBlock <;> simp)
  have CA : Hid ((w.alloc (.cells #[.slice a n c] 49)).cell? ⟨w.heap.size, 0, none⟩ = some (.slice a n c)) := (cell_of_row _ w.heap.size 0 _ _ _ (heap_alloc_new _ _)).trans rfl
  have ZA : Hid (q ≤ (w.alloc (.cells #[.slice a n c] 49)).heap.size) := (by simp; omega : _ ≤ _)
  have QA : Hid ((w.alloc (.cells #[.slice a n c] 49)).heap[q]? = some (.cells (bkC2 bv iv) 84 (0, 0))) := (be.block q zq).trans hq
  have be2 := be
  clear hq hr be
  go_enter Try.func37, Try.ntmps37
  go_wp2_with (first | (at_builtin; refine B.wpList_app3 rfl (.tmp 8) (.tmp 10) 69 49 i0 (.slice none 0 0) 1 24 Try.underlying69 hi0 hz0 hs0 hby0 rfl (by decide) rfl q iv rows.length rows rfl RA.out ⟨w.heap.size, 0, none⟩ 1 [.slice a n c] rfl rfl (B.one_cell CA.out) (by simp; rfl) (by unfold maxLen; omega) (by omega) ZA.out ?_) | fail)
  intro all' w1 rows' gr hblk
  have zA : q < (w.alloc (.cells #[.slice a n c] 49)).heap.size := by simp; omega
  have hq1 : w1.heap[q]? = some (.cells (bkC2 bv iv) 84 (0, 0)) := by rw [gr.block q zA (fun e => hne e.symm)]; exact QA.out
  have d0 := (cell_of_row w1 q 4 _ _ _ hq1).trans (show (bkC2 bv iv)[4]? = some iv from rfl)
  have f0 := frozen_of_row w1 q 4 _ _ hq1
  have hne1 : all'.ownBlock ≠ some q := ty_ne hq1 rows' (by decide)
  have W1 : Hid ((w1.setCell ⟨q, 4, none⟩ all').heap[q]? = some (.cells (bkC2 bv all') 84 (0, 0))) := by show _ = _; rw [heap_setCell_same w1 q 4 _ 84 _ hq1]; rfl
  have W2 : Hid ((w1.setCell ⟨q, 4, none⟩ all').ownsRow q 49 1 all' (rows.length + 1) (rows ++ [.slice a n c])) := B.own_other rows' hne1
  have FR : Hid (Tk q (iv).ownBlock w (w1.setCell ⟨q, 4, none⟩ all')) := ⟨(show w1.os = _ from gr.os).trans be2.os, (show w1.tape = _ from gr.tape).trans be2.tape, (show w1.output = _ from gr.output).trans be2.output, Nat.le_trans (Nat.le_trans be2.size gr.size) (by simp [World.setCell]), fun k hk hkq hko => by
    rw [Below.heap_setCell _ _ _ _ hkq, gr.block k (by simp; omega) (fun e => hko e.symm)]
    exact be2.block k hk⟩
  obtain ⟨ga, gc, rfl⟩ := B.own_slice rows'
  clear RA CA ZA QA rows' gr hblk hne1 hne be2
  go_wp2
  go_end0
  exact ⟨rfl, ⟨_, W1.out, W2.out⟩, FR.out⟩
end Go.Proofs.Ytdajeabhhkgibaa

namespace Go.Proofs.Ytdajeabhhkgibaa
open Go.RowKit B
set_option linter.unusedVariables false
set_option linter.unusedSimpArgs false

theorem below_setRowX (B : Nat) (w : World) (g : Nat) (cs : Array Value) (h : B ≤ g) : Below B w (w.setRow g cs) :=
  ⟨rfl, rfl, rfl, by simp, fun k hk => setRow_other w g k cs (by omega)⟩
theorem hbBk : Try.prog.built 84 [] = some (bkC2 (.slice none 0 0) (.slice none 0 0)) := by kernel_rfl
theorem hsBk : (Try.prog.info? 84).map (·.size) = some 18 := by kernel_rfl
theorem honeBk : (bkC2 (.slice none 0 0) (.slice none 0 0)).all (·.oneCell') = true := by kernel_rfl
/-- A row of lists, cell by cell. -/
theorem row_open {w : World} {q e N : Nat} {all : Value} {V : Nat → Lst} (h : w.ownsRow q e 1 all N ((List.range N).map fun i => (V i).v)) (hN : 1 ≤ N) : ∃ Bk cB, all = .slice (some ⟨Bk, 0, none⟩) N cB ∧ q ≤ Bk ∧ Bk < w.heap.size ∧ ∀ i, i < N → w.cell? ⟨Bk, i, none⟩ = some (V i).v := by
  have hc := fun g hg => World.ownsRow.cells h (g := g) hg
  rcases h.2 with ⟨_, hn0⟩ | ⟨g, cap, cur, rfl, hbg, hg, _⟩
  · omega
  · refine ⟨g, cap, rfl, hbg, (Array.getElem?_eq_some_iff.1 hg).1, fun i hi => ?_⟩
    have := hc g rfl i (V i).v (by rw [List.getElem?_map, List.getElem?_range hi]; rfl)
    rw [Addr.add_mid, Nat.zero_add] at this
    exact this
/-- The lists of one kind, ahead of Alone. -/
structure Lists (w : World) (q e N : Nat) (V : Nat → Lst) (L : Nat → List Value) : Prop where
  few : ∀ i, i < N → (V i).n ≤ 4398046510976
  ow : ∀ i, i < N → w.ownsRow q e 1 (V i).v (V i).n (L i)
  sep : ∀ i j, i < N → j < N → ∀ b, (V i).v.ownBlock = some b → (V j).v.ownBlock = some b → i = j
theorem Lists.keep {w w' : World} {q e N : Nat} {V : Nat → Lst} {L : Nat → List Value} (h : Lists w q e N V L) (hk : ∀ i, i < N → ∀ b, (V i).v.ownBlock = some b → w'.heap[b]? = w.heap[b]?) : Lists w' q e N V L :=
  ⟨h.few, fun i hi => by
    have o := h.ow i hi
    refine ⟨o.1, ?_⟩
    rcases o.2 with hn | ⟨g, cap, cur, e1, hbg, hg, rest⟩
    · exact .inl hn
    · exact .inr ⟨g, cap, cur, e1, hbg, by rw [hk i hi g (by rw [e1]; rfl)]; exact hg, rest⟩, h.sep⟩
set_option maxRecDepth 100000 in
set_option maxHeartbeats 4000000 in
/-- Book.Alone of N lists of bytes and N lists of ints, and no other list. -/
theorem book2_any (q N : Nat) (bv iv : Value) (VB VI : Nat → Lst) (LB LI : Nat → List Value) (w : World) (hN1 : 1 ≤ N) (hN : N ≤ 1000) (hq : w.heap[q]? = some (.cells (bkC2 bv iv) 84 (0, 0)))
    (rb : w.ownsRow q 53 1 bv N ((List.range N).map fun i => (VB i).v)) (ri : w.ownsRow q 49 1 iv N ((List.range N).map fun i => (VI i).v)) (lb : Lists w q 5 N VB LB) (li : Lists w q 3 N VI LI) :
    Calls Try.prog 38 #[.pointer (some ⟨q, 0, none⟩)] w fun e w' => e = .returned (.bool true) ∧ Below q w w' ∧ ∀ k, k < w.heap.size → k ≠ q → (∀ i, i < N → (VB i).v.ownBlock ≠ some k) → (∀ i, i < N → (VI i).v.ownBlock ≠ some k) → w'.heap[k]? = w.heap[k]? := by
  have zq : q < w.heap.size := (Array.getElem?_eq_some_iff.1 hq).1
  obtain ⟨B1, c1, rfl, hB1, lB1, cB1⟩ := row_open rb hN1
  obtain ⟨B2, c2, rfl, hB2, lB2, cB2⟩ := row_open ri hN1
  obtain ⟨C1, tB1⟩ := own_ty rb (b := B1) rfl
  obtain ⟨C2, tB2⟩ := own_ty ri (b := B2) rfl
  have c0 : w.cell? ⟨q, 0, none⟩ = some (.slice (some ⟨B1, 0, none⟩) N c1) := (cell_of_row w q 0 _ _ _ hq).trans rfl
  have HST : Hid (Calls Try.prog 78 #[.pointer (some ⟨q, 0, none⟩)] w fun e w' => e = .returned (.bool true) ∧ Below q w w' ∧ w'.heap[q]? = some (.cells (bkC2 (.slice (some ⟨B1, 0, none⟩) N c1) (.slice (some ⟨B2, 0, none⟩) N c2)) 84 (0, 0)) ∧ ∀ k, k < w.heap.size → (∀ i, i < N → (VB i).v.ownBlock ≠ some k) → w'.heap[k]? = w.heap[k]?) :=
    (aloneBytes_any q B1 c1 q N _ VB LB (tgOf N VB) w hN1 hN lb.few ⟨⟨c0, cB1, hq, lB1⟩, tgOf_no q (fun i hi => ty_ne hq (lb.ow i hi) (by decide)), tgOf_no B1 (fun i hi => ty_ne tB1 (lb.ow i hi) (by decide)), fun i hi => ⟨lb.ow i hi, tgOf_own lb.sep i hi⟩, Below.refl _ _, fun _ _ _ => rfl⟩ (by omega)).mono fun e w' h => ⟨h.1, h.2.1, h.2.2.1, fun k hk hi => h.2.2.2 k hk (tgOf_no k hi)⟩
  have nBI : ∀ i j, i < N → j < N → ∀ b, (VI i).v.ownBlock = some b → (VB j).v.ownBlock ≠ some b := fun i j hi hj b e => by
    obtain ⟨C, hC⟩ := own_ty (li.ow i hi) e
    exact ty_ne hC (lb.ow j hj) (by decide)
  have nB2 : ∀ j, j < N → (VB j).v.ownBlock ≠ some B2 := fun j hj => ty_ne tB2 (lb.ow j hj) (by decide)
  have HIN : Hid (∀ w1, Below q w w1 → w1.heap[q]? = some (.cells (bkC2 (.slice (some ⟨B1, 0, none⟩) N c1) (.slice (some ⟨B2, 0, none⟩) N c2)) 84 (0, 0)) → (∀ k, k < w.heap.size → (∀ i, i < N → (VB i).v.ownBlock ≠ some k) → w1.heap[k]? = w.heap[k]?) →
      Calls Try.prog 82 #[.pointer (some ⟨q, 0, none⟩)] w1 fun e w' => e = .returned (.bool true) ∧ Below q w1 w' ∧ w'.heap[q]? = some (.cells (bkC2 (.slice (some ⟨B1, 0, none⟩) N c1) (.slice (some ⟨B2, 0, none⟩) N c2)) 84 (0, 0)) ∧ ∀ k, k < w1.heap.size → (∀ i, i < N → (VI i).v.ownBlock ≠ some k) → w'.heap[k]? = w1.heap[k]?) := fun w1 b1 hq1 fr => by
    have li1 : Lists w1 q 3 N VI LI := li.keep (fun i hi b e => fr b (World.ownsRow.lt (li.ow i hi) b e).2 (fun j hj => nBI i j hi hj b e))
    have eB2 : w1.heap[B2]? = w.heap[B2]? := fr B2 lB2 nB2
    have tB2' : w1.heap[B2]? = some (.cells C2 49 (0, 0)) := eB2.trans tB2
    have c4 : w1.cell? ⟨q, 4, none⟩ = some (.slice (some ⟨B2, 0, none⟩) N c2) := (cell_of_row w1 q 4 _ _ _ hq1).trans rfl
    exact (aloneInts_any q B2 c2 q N _ VI LI (tgOf N VI) w1 hN1 hN li1.few ⟨⟨c4, fun i hi => (World.cell?_of_block (a := ⟨B2, i, none⟩) eB2).trans (cB2 i hi), hq1, Nat.lt_of_lt_of_le lB2 b1.size⟩, tgOf_no q (fun i hi => ty_ne hq1 (li1.ow i hi) (by decide)), tgOf_no B2 (fun i hi => ty_ne tB2' (li1.ow i hi) (by decide)), fun i hi => ⟨li1.ow i hi, tgOf_own li1.sep i hi⟩, Below.refl _ _, fun _ _ _ => rfl⟩ (Nat.le_trans (Nat.le_of_lt zq) b1.size)).mono fun e w' h => ⟨h.1, h.2.1, h.2.2.1, fun k hk hi => h.2.2.2 k hk (tgOf_no k hi)⟩
  clear hq rb ri lb li cB1 cB2 c0 nBI nB2 tB1 tB2 hB1 hB2 lB1 lB2
  go_enter Try.func38, Try.ntmps38
  go_wp2_with fail
  refine HST.out.mono ?_
  rintro e w1 ⟨rfl, b1, hq1, fr1⟩
  have FR := Hid.mk' fr1
  have HI1 := Hid.mk' (HIN.out w1 b1 hq1 fr1)
  clear fr1 HIN HST
  have CHashes : Hid (Calls Try.prog 79 #[.pointer (some ⟨q, 0, none⟩)] w1 fun e w' => e = .returned (.bool true) ∧ w' = w1) := aloneHashes q w1 ((cell_of_row w1 q 1 _ _ _ hq1).trans rfl)
  have CIds : Hid (Calls Try.prog 80 #[.pointer (some ⟨q, 0, none⟩)] w1 fun e w' => e = .returned (.bool true) ∧ w' = w1) := aloneIds q w1 ((cell_of_row w1 q 2 _ _ _ hq1).trans rfl)
  have CTexts : Hid (Calls Try.prog 81 #[.pointer (some ⟨q, 0, none⟩)] w1 fun e w' => e = .returned (.bool true) ∧ w' = w1) := aloneTexts q w1 ((cell_of_row w1 q 3 _ _ _ hq1).trans rfl)
  go_wp2_with fail
  refine (CHashes.out).mono ?_
  rintro e wy ⟨rfl, hwy⟩
  subst hwy
  go_wp2_with fail
  refine (CIds.out).mono ?_
  rintro e wy ⟨rfl, hwy⟩
  subst hwy
  go_wp2_with fail
  refine (CTexts.out).mono ?_
  rintro e wy ⟨rfl, hwy⟩
  subst hwy
  go_wp2_with fail
  refine HI1.out.mono ?_
  rintro e w2 ⟨rfl, b2, hq2, fr2⟩
  have FR2 := Hid.mk' fr2
  have HB1 := Hid.mk' b1
  clear fr2 HI1 CHashes CIds CTexts
  have CEntries : Hid (Calls Try.prog 83 #[.pointer (some ⟨q, 0, none⟩)] w2 fun e w' => e = .returned (.bool true) ∧ w' = w2) := aloneEntries q w2 ((cell_of_row w2 q 5 _ _ _ hq2).trans rfl)
  have CEdits : Hid (Calls Try.prog 84 #[.pointer (some ⟨q, 0, none⟩)] w2 fun e w' => e = .returned (.bool true) ∧ w' = w2) := aloneEdits q w2 ((cell_of_row w2 q 6 _ _ _ hq2).trans rfl)
  have COps : Hid (Calls Try.prog 85 #[.pointer (some ⟨q, 0, none⟩)] w2 fun e w' => e = .returned (.bool true) ∧ w' = w2) := aloneOps q w2 ((cell_of_row w2 q 7 _ _ _ hq2).trans rfl)
  have CSpans : Hid (Calls Try.prog 86 #[.pointer (some ⟨q, 0, none⟩)] w2 fun e w' => e = .returned (.bool true) ∧ w' = w2) := aloneSpans q w2 ((cell_of_row w2 q 8 _ _ _ hq2).trans rfl)
  have CSteps : Hid (Calls Try.prog 87 #[.pointer (some ⟨q, 0, none⟩)] w2 fun e w' => e = .returned (.bool true) ∧ w' = w2) := aloneSteps q w2 ((cell_of_row w2 q 9 _ _ _ hq2).trans rfl)
  have CCredits : Hid (Calls Try.prog 88 #[.pointer (some ⟨q, 0, none⟩)] w2 fun e w' => e = .returned (.bool true) ∧ w' = w2) := aloneCredits q w2 ((cell_of_row w2 q 10 _ _ _ hq2).trans rfl)
  have CRights : Hid (Calls Try.prog 89 #[.pointer (some ⟨q, 0, none⟩)] w2 fun e w' => e = .returned (.bool true) ∧ w' = w2) := aloneRights q w2 ((cell_of_row w2 q 11 _ _ _ hq2).trans rfl)
  have CUpdates : Hid (Calls Try.prog 90 #[.pointer (some ⟨q, 0, none⟩)] w2 fun e w' => e = .returned (.bool true) ∧ w' = w2) := aloneUpdates q w2 ((cell_of_row w2 q 12 _ _ _ hq2).trans rfl)
  have CNodes : Hid (Calls Try.prog 91 #[.pointer (some ⟨q, 0, none⟩)] w2 fun e w' => e = .returned (.bool true) ∧ w' = w2) := aloneNodes q w2 ((cell_of_row w2 q 13 _ _ _ hq2).trans rfl)
  have CPatches : Hid (Calls Try.prog 92 #[.pointer (some ⟨q, 0, none⟩)] w2 fun e w' => e = .returned (.bool true) ∧ w' = w2) := alonePatches q w2 ((cell_of_row w2 q 14 _ _ _ hq2).trans rfl)
  have CImages : Hid (Calls Try.prog 93 #[.pointer (some ⟨q, 0, none⟩)] w2 fun e w' => e = .returned (.bool true) ∧ w' = w2) := aloneImages q w2 ((cell_of_row w2 q 15 _ _ _ hq2).trans rfl)
  have CForks : Hid (Calls Try.prog 94 #[.pointer (some ⟨q, 0, none⟩)] w2 fun e w' => e = .returned (.bool true) ∧ w' = w2) := aloneForks q w2 ((cell_of_row w2 q 16 _ _ _ hq2).trans rfl)
  have CRows : Hid (Calls Try.prog 95 #[.pointer (some ⟨q, 0, none⟩)] w2 fun e w' => e = .returned (.bool true) ∧ w' = w2) := aloneRows q w2 ((cell_of_row w2 q 17 _ _ _ hq2).trans rfl)
  go_wp2_with fail
  refine (CEntries.out).mono ?_
  rintro e wy ⟨rfl, hwy⟩
  subst hwy
  go_wp2_with fail
  refine (CEdits.out).mono ?_
  rintro e wy ⟨rfl, hwy⟩
  subst hwy
  go_wp2_with fail
  refine (COps.out).mono ?_
  rintro e wy ⟨rfl, hwy⟩
  subst hwy
  go_wp2_with fail
  refine (CSpans.out).mono ?_
  rintro e wy ⟨rfl, hwy⟩
  subst hwy
  go_wp2_with fail
  refine (CSteps.out).mono ?_
  rintro e wy ⟨rfl, hwy⟩
  subst hwy
  go_wp2_with fail
  refine (CCredits.out).mono ?_
  rintro e wy ⟨rfl, hwy⟩
  subst hwy
  go_wp2_with fail
  refine (CRights.out).mono ?_
  rintro e wy ⟨rfl, hwy⟩
  subst hwy
  go_wp2_with fail
  refine (CUpdates.out).mono ?_
  rintro e wy ⟨rfl, hwy⟩
  subst hwy
  go_wp2_with fail
  refine (CNodes.out).mono ?_
  rintro e wy ⟨rfl, hwy⟩
  subst hwy
  go_wp2_with fail
  refine (CPatches.out).mono ?_
  rintro e wy ⟨rfl, hwy⟩
  subst hwy
  go_wp2_with fail
  refine (CImages.out).mono ?_
  rintro e wy ⟨rfl, hwy⟩
  subst hwy
  go_wp2_with fail
  refine (CForks.out).mono ?_
  rintro e wy ⟨rfl, hwy⟩
  subst hwy
  go_wp2_with fail
  refine (CRows.out).mono ?_
  rintro e wy ⟨rfl, hwy⟩
  subst hwy
  clear CEntries CEdits COps CSpans CSteps CCredits CRights CUpdates CNodes CPatches CImages CForks CRows
  go_wp2_with (first | (refine wpList_build_row rfl 84 rfl (bkC2 (.slice none 0 0) (.slice none 0 0)) hbBk ?_) | (refine wpList_store_row rfl 84 (.tmp 76) (.tmp 75) rfl q (bkC2 (.slice none 0 0) (.slice none 0 0)) rfl rfl 84 (bkC2 (.slice (some ⟨B1, 0, none⟩) N c1) (.slice (some ⟨B2, 0, none⟩) N c2)) hq2 (hsBk.trans rfl) rfl honeBk ?_) | fail)
  go_ret
  exact ⟨rfl, (HB1.out.trans b2).trans (below_setRowX _ _ _ _ (Nat.le_refl _)), fun k hk hkq hi1 hi2 => (setRow_other _ _ _ _ hkq).trans ((FR2.out k (Nat.lt_of_lt_of_le hk HB1.out.size) hi2).trans (FR.out k hk hi1))⟩
end Go.Proofs.Ytdajeabhhkgibaa

namespace Go.Proofs.Ytdajeabhhkgibaa
open Go.RowKit
set_option linter.unusedVariables false
set_option linter.unusedSimpArgs false

variable {N m fb fc gb gc ob : Nat} {w w1 w2 : World} {X : List (Option It)} {F G : List Value} {fv gv : Value}
/-- What stays while two filters work. -/
structure St (N fb gb ob : Nat) (w w' : World) : Prop where
  os : w'.os = w.os
  tape : w'.tape = w.tape
  output : w'.output = w.output
  size : w.heap.size ≤ w'.heap.size
  block : ∀ k, (k < N ∨ k = fb ∨ k = gb ∨ k = ob) → w'.heap[k]? = w.heap[k]?
theorem St.refl (w : World) : St N fb gb ob w w := ⟨rfl, rfl, rfl, Nat.le_refl _, fun _ _ => rfl⟩
theorem St.trans {a b c : World} (h : St N fb gb ob a b) (k : St N fb gb ob b c) : St N fb gb ob a c :=
  ⟨k.os.trans h.os, k.tape.trans h.tape, k.output.trans h.output, Nat.le_trans h.size k.size, fun i hi => (k.block i hi).trans (h.block i hi)⟩
theorem St.toBelow {a A C : World} (h : St N fb gb ob A C) (hb : Below N a A) : Below N a C :=
  hb.trans ⟨h.os, h.tape, h.output, h.size, fun k hk => h.block k (.inl hk)⟩
theorem St.cell (h : St N fb gb ob w w1) {p : Addr} {v : Value} (hp : p.block = fb ∨ p.block = gb ∨ p.block = ob) (hc : w.cell? p = some v) : w1.cell? p = some v :=
  (World.cell?_of_block (h.block p.block (.inr hp))).trans hc
/-- The state ahead of a call of the script. -/
structure Cx (N m : Nat) (w : World) (X : List (Option It)) (fb fc gb gc ob : Nat) : Prop where
  pl : Pl N w X (X.map fptr) (X.map gptr) (.slice (some ⟨fb, 0, none⟩) m fc) (.slice (some ⟨gb, 0, none⟩) m gc)
  ln : X.length = m
  obl : ob < w.heap.size
  obn : ∀ t, some t ∈ X → ∀ k, blk t k → k ≠ ob
theorem Cx.below (h : Cx N m w X fb fc gb gc ob) (hb : Below w.heap.size w w1) : Cx N m w1 X fb fc gb gc ob := ⟨h.pl.below hb, h.ln, Nat.lt_of_lt_of_le h.obl hb.size, h.obn⟩
theorem Cx.fl (h : Cx N m w X fb fc gb gc ob) : fb < w.heap.size ∧ gb < w.heap.size := ⟨(World.ownsRow.lt h.pl.f fb rfl).2, (World.ownsRow.lt h.pl.g gb rfl).2⟩
theorem Cx.lo (h : Cx N m w X fb fc gb gc ob) : N ≤ fb ∧ N ≤ gb := ⟨(World.ownsRow.lt h.pl.f fb rfl).1, (World.ownsRow.lt h.pl.g gb rfl).1⟩
theorem Cx.ne (h : Cx N m w X fb fc gb gc ob) {t : It} (ht : some t ∈ X) {k : Nat} (hk : blk t k) : N ≤ k ∧ k < w.heap.size ∧ k ≠ fb ∧ k ≠ gb ∧ k ≠ ob := by
  have h1 := h.pl.it t ht
  refine ⟨h1.1.lo k hk, h1.1.size k hk, fun e => (h1.2 k hk).1 ?_, fun e => (h1.2 k hk).2 ?_, h.obn t ht k hk⟩
  · rw [e]; rfl
  · rw [e]; rfl
theorem Cx.st_below (h : Cx N m w X fb fc gb gc ob) (hb : Below w.heap.size w w1) : St N fb gb ob w w1 :=
  ⟨hb.os, hb.tape, hb.output, hb.size, fun k hk => hb.block k (by have := h.pl.nb; have := h.fl; have := h.obl; omega)⟩
theorem Cx.st_of (h : Cx N m w X fb fc gb gc ob) {t : It} (ht : some t ∈ X) {g : Nat} (hg : blk t g) (h1 : w1.os = w.os) (h2 : w1.tape = w.tape) (h3 : w1.output = w.output) (h4 : w.heap.size ≤ w1.heap.size) (h5 : ∀ k, k < w.heap.size → k ≠ g → w1.heap[k]? = w.heap[k]?) : St N fb gb ob w w1 :=
  ⟨h1, h2, h3, h4, fun k hk => h5 k (by have := h.pl.nb; have := h.fl; have := h.obl; omega) (by have := h.ne ht hg; omega)⟩
/-- The same rows, perhaps with other bits. -/
def Again (N m fb fc gb gc : Nat) (w : World) : Prop := ∃ X, Pl N w X (X.map fptr) (X.map gptr) (.slice (some ⟨fb, 0, none⟩) m fc) (.slice (some ⟨gb, 0, none⟩) m gc) ∧ X.length = m
theorem Cx.again (h : Cx N m w X fb fc gb gc ob) : Again N m fb fc gb gc w := ⟨X, h.pl, h.ln⟩
theorem Cx.again_set (h : Cx N m w X fb fc gb gc ob) {i : Nat} {t t' : It} (hi : X[i]? = some (some t))
    (hp : Pl N w1 (X.set i (some t')) (X.map fptr) (X.map gptr) (.slice (some ⟨fb, 0, none⟩) m fc) (.slice (some ⟨gb, 0, none⟩) m gc)) (e1 : t'.q = t.q) (e2 : t'.q2 = t.q2) : Again N m fb fc gb gc w1 := by
  refine ⟨X.set i (some t'), ?_, by rw [List.length_set]; exact h.ln⟩
  rw [set_map fptr hi (by show fptr (some t') = fptr (some t); simp only [fptr, e1]), set_map gptr hi (by show gptr (some t') = gptr (some t); simp only [gptr, e2])]
  exact hp
/-- Add on both sides, at whatever item. -/
theorem add_it (h : Cx N m w X fb fc gb gc ob) (i : Nat) (x : Option It) (hi : X[i]? = some x) (hh : List UInt8) (hl : hh.length = 32) :
    ∃ px py, fptr x = .pointer px ∧ gptr x = .pointer py ∧ ∃ D1 : World → Prop,
      (Calls Try.prog 12 #[.pointer px, .agg (bs hh)] w fun e w' => e = .returned (.tuple #[]) ∧ D1 w' ∧ St N fb gb ob w w') ∧
      ∀ v W, D1 v → Below v.heap.size v W → Calls Try.prog 13 #[.pointer py, .agg (bs hh)] W fun e w' => e = .returned (.tuple #[]) ∧ Again N m fb fc gb gc w' ∧ St N fb gb ob W w' := by
  cases x with
  | none =>
    refine ⟨none, none, rfl, rfl, fun v => Below w.heap.size w v, (add_nil hh w hl).mono fun e w' ⟨he, hb⟩ => ⟨he, hb, h.st_below hb⟩, fun v W hv hW => (radd_nil hh W hl).mono fun e w' ⟨he, hb⟩ => ?_⟩
    have c1 := h.below (hv.trans (hW.mono hv.size))
    exact ⟨he, (c1.below hb).again, c1.st_below hb⟩
  | some t =>
    have hm : some t ∈ X := List.mem_of_getElem? hi
    have ht := (h.pl.it t hm).1
    obtain ⟨p0, p1, p2, p3⟩ := ht.pos
    refine ⟨_, _, rfl, rfl, fun v => FW v t.q t.g t.bits t.p (setAll t.ws (spotL hh t.bits p0 t.p)) ∧ Kb w.heap.size t.g w v, (add_any t.q t.g t.bits t.p t.ws hh w hl p0 p1 ht.p2 ht.fw ht.lt).mono fun e w' ⟨he, hf, hk⟩ => ⟨he, ⟨hf, hk⟩, h.st_of hm (.inr (.inl rfl)) hk.os hk.tape hk.output hk.size hk.block⟩, fun v W hv hW => ?_⟩
    have hb1 : ∀ k, k < w.heap.size → k ≠ t.g → W.heap[k]? = w.heap[k]? := fun k hk hg => (hW.block k (Nat.lt_of_lt_of_le hk hv.2.size)).trans (hv.2.block k hk hg)
    have hs1 : w.heap.size ≤ W.heap.size := Nat.le_trans hv.2.size hW.size
    have hr := ht.half hs1 hb1
    refine (radd_any t.q2 t.g2 t.bits t.p (bitAt t.ws) hh W hl p0 p1 ht.p2 hr).mono fun e w' ⟨he, hf, hk⟩ => ?_
    rw [onAll_bits] at hf
    have hp := h.pl.both i t hi (setAll t.ws (spotL hh t.bits p0 t.p)) (hv.1.below hW) hs1 hb1 hf hk.size (fun k hk2 hg => hk.block k hk2 hg) (within_set p0 t.p ht.wi hh) (setAll_lt ht.lt _)
    refine ⟨he, h.again_set hi hp rfl rfl, ⟨hk.os, hk.tape, hk.output, hk.size, fun k hk2 => hk.block k ?_ ?_⟩⟩
    · have := h.pl.nb; have := h.fl; have := h.obl; omega
    · have := h.ne hm (.inr (.inr (.inr rfl)) : blk t t.g2); omega
theorem jB_self (f : Nat → Bool) (k i : Nat) : jB f f k i = f i := by unfold jB; split <;> simp
/-- Join on both sides, at whatever items. -/
theorem join_it (h : Cx N m w X fb fc gb gc ob) (i k : Nat) (x y : Option It) (hi : X[i]? = some x) (hk : X[k]? = some y) :
    ∃ px px2 py py2 r, fptr x = .pointer px ∧ gptr x = .pointer py ∧ fptr y = .pointer px2 ∧ gptr y = .pointer py2 ∧ ∃ D1 : World → Prop,
      (Calls Try.prog 14 #[.pointer px, .pointer px2] w fun e w' => e = .returned (.int .i64 r) ∧ D1 w' ∧ St N fb gb ob w w') ∧
      ∀ W, D1 W → Calls Try.prog 15 #[.pointer py, .pointer py2] W fun e w' => e = .returned (.int .i64 r) ∧ Again N m fb fc gb gc w' ∧ St N fb gb ob W w' := by
  cases x with
  | none =>
    cases y with
    | none => exact ⟨none, none, none, none, 1, rfl, rfl, rfl, rfl, fun v => v = w, (join_nil1 none w).mono fun e w' ⟨he, hw⟩ => ⟨he, hw, by rw [hw]; exact St.refl w⟩, fun W hW => (rjoin_nil1 none W).mono fun e w' ⟨he, hw⟩ => ⟨he, by rw [hw, hW]; exact h.again, by rw [hw]; exact St.refl _⟩⟩
    | some u => exact ⟨none, _, none, _, 1, rfl, rfl, rfl, rfl, fun v => v = w, (join_nil1 _ w).mono fun e w' ⟨he, hw⟩ => ⟨he, hw, by rw [hw]; exact St.refl w⟩, fun W hW => (rjoin_nil1 _ W).mono fun e w' ⟨he, hw⟩ => ⟨he, by rw [hw, hW]; exact h.again, by rw [hw]; exact St.refl _⟩⟩
  | some t =>
    have hm : some t ∈ X := List.mem_of_getElem? hi
    have ht := (h.pl.it t hm).1
    obtain ⟨p0, p1, p2, p3⟩ := ht.pos
    cases y with
    | none => exact ⟨_, none, _, none, 1, rfl, rfl, rfl, rfl, fun v => v = w, (join_nil2 _ w).mono fun e w' ⟨he, hw⟩ => ⟨he, hw, by rw [hw]; exact St.refl w⟩, fun W hW => (rjoin_nil2 _ W).mono fun e w' ⟨he, hw⟩ => ⟨he, by rw [hw, hW]; exact h.again, by rw [hw]; exact St.refl _⟩⟩
    | some u =>
      have hmu : some u ∈ X := List.mem_of_getElem? hk
      have hu := (h.pl.it u hmu).1
      by_cases eik : i = k
      · subst eik
        obtain rfl : t = u := by rw [hi] at hk; cases hk; rfl
        refine ⟨_, _, _, _, 0, rfl, rfl, rfl, rfl, fun v => FW v t.q t.g t.bits t.p t.ws ∧ w.grownBy v (some t.g), (join_self t.q t.g t.bits t.p t.ws w ht.fw ht.lt p1).mono fun e w' ⟨he, hf, hg⟩ => ⟨he, ⟨hf, hg⟩, h.st_of hm (.inr (.inl rfl)) hg.os hg.tape hg.output hg.size (fun j hj hn => hg.block j hj (fun e => hn (by cases e; rfl)))⟩, fun W hW => ?_⟩
        have hb1 : ∀ j, j < w.heap.size → j ≠ t.g → W.heap[j]? = w.heap[j]? := fun j hj hn => hW.2.block j hj (fun e => hn (by cases e; rfl))
        have hr := ht.half hW.2.size hb1
        refine (rjoin_any t.q2 t.g2 t.q2 t.g2 t.bits t.p (bitAt t.ws) (bitAt t.ws) W hr hr p1 (fun e => hr.rc.ne e.symm) (.inr ⟨rfl, rfl⟩)).mono fun e w' ⟨he, hf, hg⟩ => ?_
        have hr2 : RW w' t.q2 t.g2 t.bits t.p (bitAt t.ws) := ⟨hr.rc.of (hg.block _ hr.rc.lt (fun e => hr.rc.ne e.symm)), hf.congr (fun j hj => by rw [jB_self])⟩
        have hp := h.pl.both i t hi t.ws hW.1 hW.2.size hb1 hr2 hg.size (fun j hj hn => hg.block j hj hn) ht.wi ht.lt
        refine ⟨he, h.again_set hi hp rfl rfl, ⟨hg.os, hg.tape, hg.output, hg.size, fun j hj => hg.block j ?_ ?_⟩⟩
        · have := h.pl.nb; have := h.fl; have := h.obl; have := hW.2.size; omega
        · have := h.ne hm (.inr (.inr (.inr rfl)) : blk t t.g2); omega
      · have hap := h.pl.ap i k t u hi hk eik
        have n1 : t.g ≠ u.g := fun e => hap t.g (.inr (.inl rfl)) (by rw [e]; exact .inr (.inl rfl))
        have n2 : u.q ≠ t.g := fun e => hap t.g (.inr (.inl rfl)) (by rw [← e]; exact .inl rfl)
        have n3 : t.q ≠ t.g := by
          have := ht.fw.fc.ne
          first | exact this | exact fun e => this e.symm
        have n4 : u.q2 ≠ t.g2 := fun e => hap t.g2 (.inr (.inr (.inr rfl))) (by rw [← e]; exact .inr (.inr (.inl rfl)))
        have n5 : u.g2 ≠ t.g2 := fun e => hap t.g2 (.inr (.inr (.inr rfl))) (by rw [← e]; exact .inr (.inr (.inr rfl)))
        have n6 : u.q2 ≠ t.g := fun e => hap t.g (.inr (.inl rfl)) (by rw [← e]; exact .inr (.inr (.inl rfl)))
        have n7 : u.g2 ≠ t.g := fun e => hap t.g (.inr (.inl rfl)) (by rw [← e]; exact .inr (.inr (.inr rfl)))
        by_cases es : t.bits = u.bits ∧ t.p = u.p
        · have huf : FW w u.q u.g t.bits t.p u.ws := by rw [es.1, es.2]; exact hu.fw
          have hur : RW w u.q2 u.g2 t.bits t.p (bitAt u.ws) := by rw [es.1, es.2]; exact hu.rw'
          have huw : Within u.ws t.bits := by rw [es.1]; exact hu.wi
          refine ⟨_, _, _, _, 0, rfl, rfl, rfl, rfl, fun v => FW v t.q t.g t.bits t.p (orW t.ws u.ws ((t.bits + 63) / 64)) ∧ w.grownBy v (some t.g), (join_any t.q t.g u.q u.g t.bits t.p t.ws u.ws w ht.fw huf n1 n3 n2 ht.lt hu.lt p1).mono fun e w' ⟨he, hf, hg⟩ => ⟨he, ⟨hf, hg⟩, h.st_of hm (.inr (.inl rfl)) hg.os hg.tape hg.output hg.size (fun j hj hn => hg.block j hj (fun e => hn (by cases e; rfl)))⟩, fun W hW => ?_⟩
          have hb1 : ∀ j, j < w.heap.size → j ≠ t.g → W.heap[j]? = w.heap[j]? := fun j hj hn => hW.2.block j hj (fun e => hn (by cases e; rfl))
          have hr := ht.half hW.2.size hb1
          have hr2 : RW W u.q2 u.g2 t.bits t.p (bitAt u.ws) := hur.of (hb1 _ hur.rc.lt n6) (hb1 _ hur.rb.lt n7)
          refine (rjoin_any t.q2 t.g2 u.q2 u.g2 t.bits t.p (bitAt t.ws) (bitAt u.ws) W hr hr2 p1 n4 (.inl n5)).mono fun e w' ⟨he, hf, hg⟩ => ?_
          have hr3 : RW w' t.q2 t.g2 t.bits t.p (bitAt (orW t.ws u.ws ((t.bits + 63) / 64))) := ⟨hr.rc.of (hg.block _ hr.rc.lt (fun e => hr.rc.ne e.symm)), hf.congr (fun j hj => by rw [jB_bits t.ws u.ws t.bits ((t.bits + 63) / 64) j hj (by omega)])⟩
          have hp := h.pl.both i t hi _ hW.1 hW.2.size hb1 hr3 hg.size (fun j hj hn => hg.block j hj hn) (within_orW ht.wi huw) (orW_lt ht.lt hu.lt _)
          refine ⟨he, h.again_set hi hp rfl rfl, ⟨hg.os, hg.tape, hg.output, hg.size, fun j hj => hg.block j ?_ ?_⟩⟩
          · have := h.pl.nb; have := h.fl; have := h.obl; have := hW.2.size; omega
          · have := h.ne hm (.inr (.inr (.inr rfl)) : blk t t.g2); omega
        · refine ⟨_, _, _, _, 210, rfl, rfl, rfl, rfl, fun v => v = w, (join_no t.q t.g t.bits t.p u.q u.g u.bits u.p w ht.fw.fc hu.fw.fc es).mono fun e w' ⟨he, hw⟩ => ⟨he, hw, by rw [hw]; exact St.refl w⟩, fun W hW => ?_⟩
          subst hW
          refine (rjoin_no t.q2 t.g2 t.bits t.p u.q2 u.g2 u.bits u.p W ht.rw'.rc hu.rw'.rc es).mono fun e w' ⟨he, n, hw⟩ => ?_
          have hb : Below W.heap.size W w' := by rw [hw]; exact K.below_drewN (Below.refl _ _) n
          exact ⟨he, (h.below hb).again, h.st_below hb⟩
/-- Has and Spots on both sides. -/
theorem has_it (h : Pl N w X F G fv gv) (i : Nat) (x : Option It) (hi : X[i]? = some x) (hh : List UInt8) (hl : hh.length = 32) :
    ∃ px py z nS lS, fptr x = .pointer px ∧ gptr x = .pointer py ∧
      (∀ W, Below w.heap.size w W → Calls Try.prog 22 #[.pointer px, .agg (bs hh)] W fun e w' => e = .returned (.bool z) ∧ Below W.heap.size W w') ∧
      (∀ W, Below w.heap.size w W → Calls Try.prog 23 #[.pointer py, .agg (bs hh)] W fun e w' => e = .returned (.bool z) ∧ Below W.heap.size W w') ∧
      (∀ W, Below w.heap.size w W → Calls Try.prog 25 #[.pointer px, .agg (bs hh)] W fun e w' => ∃ s c, e = .returned (.slice s nS c) ∧ RowOn w' s lS ∧ Below W.heap.size W w') ∧
      (∀ W, Below w.heap.size w W → Calls Try.prog 26 #[.pointer py, .agg (bs hh)] W fun e w' => ∃ s c, e = .returned (.slice s nS c) ∧ RowOn w' s lS ∧ Below W.heap.size W w') ∧
      (∀ W s1 c1 s2 c2, Below w.heap.size w W → RowOn W s1 lS → RowOn W s2 lS → Calls Try.prog 24 #[.slice s1 nS c1, .slice s2 nS c2] W fun e w' => e = .returned (.bool true) ∧ Below W.heap.size W w') := by
  cases x with
  | none =>
    refine ⟨none, none, false, 0, [], rfl, rfl, fun W _ => has_nil hh W hl, fun W _ => rhas_nil hh W hl, fun W _ => spotsF_nil hh W hl, fun W _ => (rspots_nil hh W hl).mono fun e w' ⟨he, hb⟩ => ⟨none, 0, he, fun W2 _ k v hk => by simp at hk, hb⟩, fun W s1 c1 s2 c2 _ r1 r2 => sameI_any s1 s2 0 c1 c2 (fun _ => 0) W (by omega) (fun _ _ k hk => by omega) (fun _ _ k hk => by omega)⟩
  | some t =>
    have ht := fun W (hb : Below w.heap.size w W) => ((h.below hb).it t (List.mem_of_getElem? hi)).1
    obtain ⟨p0, p1, p2, p3⟩ := (h.it t (List.mem_of_getElem? hi)).1.pos
    refine ⟨_, _, allBits t.ws (spotL hh t.bits p0 t.p), t.p, (spotL hh t.bits p0 t.p).map spV, rfl, rfl, fun W hb => hasF_any t.q t.g t.bits t.p t.ws hh W hl p0 p1 (ht W hb).p2 (ht W hb).fw (ht W hb).lt, fun W hb => rhas_any t.q2 t.g2 t.bits t.p (bitAt t.ws) hh W hl p0 p1 (ht W hb).p2 (ht W hb).rw', fun W hb => spotsF_any t.q t.g t.bits t.p t.ws hh W hl p0 p1 (ht W hb).p2 (ht W hb).fw, fun W hb => rspots_any t.q2 t.g2 t.bits t.p hh W hl p0 p1 (ht W hb).p2 (ht W hb).rw'.rc, fun W s1 c1 s2 c2 hb r1 r2 => sameI_any s1 s2 t.p c1 c2 (spI (spotL hh t.bits p0 t.p)) W (by have := (ht W hb).p2; omega) (row_ints r1 (spotL_len _ _ _ _)) (row_ints r2 (spotL_len _ _ _ _))⟩
end Go.Proofs.Ytdajeabhhkgibaa

