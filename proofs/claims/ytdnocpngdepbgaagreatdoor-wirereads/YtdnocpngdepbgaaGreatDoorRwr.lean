import Derived.Test.YtdnocpngdepbgaaGreatDoorRwa
import Derived.Deep.RegionHeld3
namespace Go.Proofs.YtdnocpngdepbgaaGreatDoor
open Go.RowKit
set_option linter.unusedVariables false
set_option linter.unusedSimpArgs false

theorem exec_load {P : Program} {w : World} {a : Act} {o : Oper} {t : TypeId} {x : Operand} {p : Addr} {v : Value} (ho : o.op = .load t x) (hp : a.eval x = .pointer (some p)) (hl : (Instr.loadAt t (.pointer (some p))).run P w = .ok v w) : (execOp a.eval o).run P w = .ok (.value v) w := by
  unfold execOp
  simp only [ho, hp, Sem.run_bind, hl, Result.andThen_ok, Sem.run_pure]
theorem put_same (a : Act) (d : Nat) (v : Value) (h : d < a.tmps.size) : (a.put (some d) v).tmps.getD d undef = v := by
  simp [Act.put, Array.getD_eq_getD_getElem?, h]
theorem put_ne (a : Act) (d e : Nat) (v : Value) (h : d ≠ e) : (a.put (some d) v).tmps.getD e undef = a.tmps.getD e undef := by
  simp [Act.put, Array.getD_eq_getD_getElem?, Array.getElem?_setIfInBounds, h]
theorem put_size (a : Act) (d : Option Nat) (v : Value) : (a.put d v).tmps.size = a.tmps.size := by
  cases d <;> simp [Act.put]
theorem tget {n : Nat} {t : Array Value} {d : Nat} {v : Value} (hs : t.size = n) (hd : d < n) (h : t.getD d undef = v) : t[d]? = some v := by
  rw [Array.getD_eq_getD_getElem?, Array.getElem?_eq_getElem (by omega)] at h
  rw [Array.getElem?_eq_getElem (by omega)]
  simpa using h

def ops17 : Array Oper := #[{ dst := some 52, op := Op.load 76 (Operand.tmp 11), type := 76, pos := "law.go:268", after := #[], guard := none }, { dst := some 53, op := Op.move (Operand.tmp 7), type := 73, pos := "law.go:268", after := #[], guard := none }, { dst := some 54, op := Op.move (Operand.tmp 1), type := 69, pos := "law.go:268", after := #[], guard := none }, { dst := some 55, op := Op.move (Operand.tmp 10), type := 3, pos := "law.go:268", after := #[], guard := none }, { dst := some 56, op := Op.indexAddr 69 (Operand.tmp 54) (Operand.tmp 55), type := 0, pos := "law.go:268", after := #[{ on := 2, ground := Ground.data }, { on := 3, ground := Ground.data }], guard := none }, { dst := some 57, op := Op.load 79 (Operand.tmp 56), type := 79, pos := "law.go:268", after := #[{ on := 4, ground := Ground.data }], guard := none }, { dst := some 58, op := Op.call { callee := Callee.value (Operand.func 23), args := #[Operand.tmp 53, Operand.tmp 57], argTypes := #[73, 79] }, type := 76, pos := "law.go:268", after := #[{ on := 1, ground := Ground.data }, { on := 5, ground := Ground.data }], guard := none }, { dst := some 59, op := Op.call { callee := Callee.value (Operand.func 22), args := #[Operand.tmp 52, Operand.tmp 58], argTypes := #[76, 76] }, type := 4, pos := "law.go:268", after := #[{ on := 0, ground := Ground.data }, { on := 6, ground := Ground.data }, { on := 6, ground := Ground.chain }], guard := none }, { dst := some 60, op := Op.unOp UnOp.not 4 (Operand.tmp 59), type := 4, pos := "law.go:268", after := #[{ on := 7, ground := Ground.data }], guard := none }, { dst := some 61, op := Op.move (Operand.tmp 60), type := 4, pos := "law.go:268", after := #[{ on := 8, ground := Ground.data }, { on := 7, ground := Ground.chain }], guard := none }, { dst := some 62, op := Op.move (Operand.tmp 6), type := 71, pos := "law.go:268", after := #[{ on := 9, ground := Ground.guard }], guard := some (9, false) }, { dst := some 63, op := Op.move (Operand.tmp 7), type := 73, pos := "law.go:268", after := #[{ on := 9, ground := Ground.guard }], guard := some (9, false) }, { dst := some 64, op := Op.call { callee := Callee.value (Operand.func 24), args := #[Operand.tmp 62, Operand.tmp 63], argTypes := #[71, 73] }, type := 4, pos := "law.go:268", after := #[{ on := 10, ground := Ground.data }, { on := 11, ground := Ground.data }, { on := 9, ground := Ground.chain }, { on := 9, ground := Ground.guard }], guard := some (9, false) }, { dst := some 65, op := Op.unOp UnOp.not 4 (Operand.tmp 64), type := 4, pos := "law.go:268", after := #[{ on := 12, ground := Ground.data }, { on := 9, ground := Ground.guard }], guard := some (9, false) }, { dst := some 66, op := Op.pick (Operand.tmp 61) (Operand.const (Value.bool true)) (Operand.tmp 65), type := 4, pos := "law.go:268", after := #[{ on := 9, ground := Ground.data }, { on := 13, ground := Ground.data }], guard := none }, { dst := some 67, op := Op.move (Operand.tmp 66), type := 4, pos := "law.go:268", after := #[{ on := 14, ground := Ground.data }, { on := 12, ground := Ground.chain }], guard := none }, { dst := some 68, op := Op.move (Operand.tmp 6), type := 71, pos := "law.go:268", after := #[{ on := 15, ground := Ground.guard }], guard := some (15, false) }, { dst := some 69, op := Op.move (Operand.tmp 7), type := 73, pos := "law.go:268", after := #[{ on := 15, ground := Ground.guard }], guard := some (15, false) }, { dst := some 70, op := Op.call { callee := Callee.value (Operand.func 24), args := #[Operand.tmp 68, Operand.tmp 69], argTypes := #[71, 73] }, type := 4, pos := "law.go:268", after := #[{ on := 16, ground := Ground.data }, { on := 17, ground := Ground.data }, { on := 15, ground := Ground.chain }, { on := 15, ground := Ground.guard }], guard := some (15, false) }, { dst := some 71, op := Op.unOp UnOp.not 4 (Operand.tmp 70), type := 4, pos := "law.go:268", after := #[{ on := 18, ground := Ground.data }, { on := 15, ground := Ground.guard }], guard := some (15, false) }, { dst := some 72, op := Op.pick (Operand.tmp 67) (Operand.const (Value.bool true)) (Operand.tmp 71), type := 4, pos := "law.go:268", after := #[{ on := 15, ground := Ground.data }, { on := 19, ground := Ground.data }], guard := none }]
theorem reads17 (bl off c1 n i q r1 r2 : Nat) (G RV : Array Value) (S : World → Prop) (Q1 : Array Value → World → Prop) (Q2 : World → Prop) (a : Act) (w : World) (Q : Exit → Act → World → Prop) (hsz : a.tmps.size = 88)
    (h1 : a.tmps.getD 1 undef = .slice (some ⟨bl, off, none⟩) n c1)
    (h6 : a.tmps.getD 6 undef = .pointer (some ⟨r1, 0, none⟩))
    (h7 : a.tmps.getD 7 undef = .pointer (some ⟨r2, 0, none⟩))
    (h10 : a.tmps.getD 10 undef = .int .i64 (i : Int))
    (h11 : a.tmps.getD 11 undef = .pointer (some ⟨q, 0, none⟩))
    (hk0 : (0 : Int) ≤ (i : Int)) (hk1 : (i : Int) < (n : Int)) (ix : ∀ wx, (Instr.indexAt 69 (.slice (some ⟨bl, off, none⟩) n c1) (.int .i64 (i : Int))).run Tryz.prog wx = .ok (.pointer (some ⟨bl, off + 4 * i, none⟩)) wx) (hS0 : S w.drew)
    (L1 : ∀ wx, S wx → (Instr.loadAt 76 (.pointer (some ⟨q, 0, none⟩))).run Tryz.prog wx = .ok (.agg G) wx) (L2 : ∀ wx, S wx → (Instr.loadAt 79 (.pointer (some ⟨bl, off + 4 * i, none⟩))).run Tryz.prog wx = .ok (.agg RV) wx)
    (C1 : Calls Tryz.prog 23 #[.pointer (some ⟨r2, 0, none⟩), .agg RV] w.drew fun e w' => ∃ G2, e = .returned (.agg G2) ∧ S w' ∧ Q1 G2 w')
    (C2 : ∀ G2 wx, Q1 G2 wx → Calls Tryz.prog 22 #[.agg G, .agg G2] wx fun e w' => e = .returned (.bool true) ∧ S w' ∧ Q2 w')
    (C3 : ∀ wx, Q2 wx → Calls Tryz.prog 24 #[.pointer (some ⟨r1, 0, none⟩), .pointer (some ⟨r2, 0, none⟩)] wx fun e w' => e = .returned (.bool true) ∧ S w' ∧ Q2 w')
    (h : ∀ (G2 : Array Value) (a' : Act) (w' : World), Q2 w' → a' = (((((((((((((((((((((a).put (some 52) (.agg G)).put (some 53) (.pointer (some ⟨r2, 0, none⟩))).put (some 54) (.slice (some ⟨bl, off, none⟩) n c1)).put (some 55) (.int .i64 (i : Int))).put (some 56) (.pointer (some ⟨bl, off + 4 * i, none⟩))).put (some 57) (.agg RV)).put (some 58) (.agg G2)).put (some 59) (.bool true)).put (some 60) (.bool false)).put (some 61) (.bool false)).put (some 62) (.pointer (some ⟨r1, 0, none⟩))).put (some 63) (.pointer (some ⟨r2, 0, none⟩))).put (some 64) (.bool true)).put (some 65) (.bool false)).put (some 66) (.bool false)).put (some 67) (.bool false)).put (some 68) (.pointer (some ⟨r1, 0, none⟩))).put (some 69) (.pointer (some ⟨r2, 0, none⟩))).put (some 70) (.bool true)).put (some 71) (.bool false)).put (some 72) (.bool false) → Q .normal a' w') :
    (Code.region 17 ops17 true).wp Tryz.prog Q a w := by
  refine wp_region_noPanic ?_
  refine wp_region_held_drew (S := fun w' => S w') (by kernel_rfl) (hS0) (fun hHeld => ?_)
  refine wpAnyH_take (i := 0) (oi := { dst := some 52, op := Op.load 76 (Operand.tmp 11), type := 76, pos := "law.go:268", after := #[], guard := none }) (v := .agg G) rfl (by kernel_rfl) (by kernel_rfl) (by kernel_rfl) (fun _ _ _ h => h) (Or.inl ⟨by rfl, fun w1 hw => by exact exec_load rfl (by first | exact h11 | rfl) (L1 _ hw)⟩) hHeld ?_
  obtain ⟨a1, e1⟩ : ∃ act, act = a.put (some 52) (.agg G) := ⟨_, rfl⟩
  rw [← e1] at h ⊢
  have z1 : a1.tmps.size = 88 := by rw [e1, put_size]; exact hsz
  replace h1 : a1.tmps.getD 1 undef = .slice (some ⟨bl, off, none⟩) n c1 := by rw [e1, put_ne _ _ _ _ (by decide)]; exact h1
  replace h6 : a1.tmps.getD 6 undef = .pointer (some ⟨r1, 0, none⟩) := by rw [e1, put_ne _ _ _ _ (by decide)]; exact h6
  replace h7 : a1.tmps.getD 7 undef = .pointer (some ⟨r2, 0, none⟩) := by rw [e1, put_ne _ _ _ _ (by decide)]; exact h7
  replace h10 : a1.tmps.getD 10 undef = .int .i64 (i : Int) := by rw [e1, put_ne _ _ _ _ (by decide)]; exact h10
  clear h11
  have t52 : a1.tmps.getD 52 undef = .agg G := by rw [e1]; exact put_same _ _ _ (by omega)
  clear e1 hsz
  refine wpAnyH_take (i := 1) (oi := { dst := some 53, op := Op.move (Operand.tmp 7), type := 73, pos := "law.go:268", after := #[], guard := none }) (v := .pointer (some ⟨r2, 0, none⟩)) rfl (by kernel_rfl) (by kernel_rfl) (by kernel_rfl) (fun _ _ _ h => h) (Or.inl ⟨by rfl, fun w1 hw => by go_simp⟩) hHeld ?_
  obtain ⟨a2, e2⟩ : ∃ act, act = a1.put (some 53) (.pointer (some ⟨r2, 0, none⟩)) := ⟨_, rfl⟩
  rw [← e2] at h ⊢
  have z2 : a2.tmps.size = 88 := by rw [e2, put_size]; exact z1
  replace h1 : a2.tmps.getD 1 undef = .slice (some ⟨bl, off, none⟩) n c1 := by rw [e2, put_ne _ _ _ _ (by decide)]; exact h1
  replace h6 : a2.tmps.getD 6 undef = .pointer (some ⟨r1, 0, none⟩) := by rw [e2, put_ne _ _ _ _ (by decide)]; exact h6
  replace h7 : a2.tmps.getD 7 undef = .pointer (some ⟨r2, 0, none⟩) := by rw [e2, put_ne _ _ _ _ (by decide)]; exact h7
  replace h10 : a2.tmps.getD 10 undef = .int .i64 (i : Int) := by rw [e2, put_ne _ _ _ _ (by decide)]; exact h10
  replace t52 : a2.tmps.getD 52 undef = .agg G := by rw [e2, put_ne _ _ _ _ (by decide)]; exact t52
  have t53 : a2.tmps.getD 53 undef = .pointer (some ⟨r2, 0, none⟩) := by rw [e2]; exact put_same _ _ _ (by omega)
  clear e2 z1
  refine wpAnyH_take (i := 2) (oi := { dst := some 54, op := Op.move (Operand.tmp 1), type := 69, pos := "law.go:268", after := #[], guard := none }) (v := .slice (some ⟨bl, off, none⟩) n c1) rfl (by kernel_rfl) (by kernel_rfl) (by kernel_rfl) (fun _ _ _ h => h) (Or.inl ⟨by rfl, fun w1 hw => by go_simp⟩) hHeld ?_
  obtain ⟨a3, e3⟩ : ∃ act, act = a2.put (some 54) (.slice (some ⟨bl, off, none⟩) n c1) := ⟨_, rfl⟩
  rw [← e3] at h ⊢
  have z3 : a3.tmps.size = 88 := by rw [e3, put_size]; exact z2
  clear h1
  replace h6 : a3.tmps.getD 6 undef = .pointer (some ⟨r1, 0, none⟩) := by rw [e3, put_ne _ _ _ _ (by decide)]; exact h6
  replace h7 : a3.tmps.getD 7 undef = .pointer (some ⟨r2, 0, none⟩) := by rw [e3, put_ne _ _ _ _ (by decide)]; exact h7
  replace h10 : a3.tmps.getD 10 undef = .int .i64 (i : Int) := by rw [e3, put_ne _ _ _ _ (by decide)]; exact h10
  replace t52 : a3.tmps.getD 52 undef = .agg G := by rw [e3, put_ne _ _ _ _ (by decide)]; exact t52
  replace t53 : a3.tmps.getD 53 undef = .pointer (some ⟨r2, 0, none⟩) := by rw [e3, put_ne _ _ _ _ (by decide)]; exact t53
  have t54 : a3.tmps.getD 54 undef = .slice (some ⟨bl, off, none⟩) n c1 := by rw [e3]; exact put_same _ _ _ (by omega)
  clear e3 z2
  refine wpAnyH_take (i := 3) (oi := { dst := some 55, op := Op.move (Operand.tmp 10), type := 3, pos := "law.go:268", after := #[], guard := none }) (v := .int .i64 (i : Int)) rfl (by kernel_rfl) (by kernel_rfl) (by kernel_rfl) (fun _ _ _ h => h) (Or.inl ⟨by rfl, fun w1 hw => by go_simp⟩) hHeld ?_
  obtain ⟨a4, e4⟩ : ∃ act, act = a3.put (some 55) (.int .i64 (i : Int)) := ⟨_, rfl⟩
  rw [← e4] at h ⊢
  have z4 : a4.tmps.size = 88 := by rw [e4, put_size]; exact z3
  replace h6 : a4.tmps.getD 6 undef = .pointer (some ⟨r1, 0, none⟩) := by rw [e4, put_ne _ _ _ _ (by decide)]; exact h6
  replace h7 : a4.tmps.getD 7 undef = .pointer (some ⟨r2, 0, none⟩) := by rw [e4, put_ne _ _ _ _ (by decide)]; exact h7
  clear h10
  replace t52 : a4.tmps.getD 52 undef = .agg G := by rw [e4, put_ne _ _ _ _ (by decide)]; exact t52
  replace t53 : a4.tmps.getD 53 undef = .pointer (some ⟨r2, 0, none⟩) := by rw [e4, put_ne _ _ _ _ (by decide)]; exact t53
  replace t54 : a4.tmps.getD 54 undef = .slice (some ⟨bl, off, none⟩) n c1 := by rw [e4, put_ne _ _ _ _ (by decide)]; exact t54
  have t55 : a4.tmps.getD 55 undef = .int .i64 (i : Int) := by rw [e4]; exact put_same _ _ _ (by omega)
  clear e4 z3
  refine wpAnyH_take (i := 4) (oi := { dst := some 56, op := Op.indexAddr 69 (Operand.tmp 54) (Operand.tmp 55), type := 0, pos := "law.go:268", after := #[{ on := 2, ground := Ground.data }, { on := 3, ground := Ground.data }], guard := none }) (v := .pointer (some ⟨bl, off + 4 * i, none⟩)) rfl (by kernel_rfl) (by kernel_rfl) (by kernel_rfl) (fun _ _ _ h => h) (Or.inl ⟨by rfl, fun w1 hw => by go_simp⟩) hHeld ?_
  obtain ⟨a5, e5⟩ : ∃ act, act = a4.put (some 56) (.pointer (some ⟨bl, off + 4 * i, none⟩)) := ⟨_, rfl⟩
  rw [← e5] at h ⊢
  have z5 : a5.tmps.size = 88 := by rw [e5, put_size]; exact z4
  replace h6 : a5.tmps.getD 6 undef = .pointer (some ⟨r1, 0, none⟩) := by rw [e5, put_ne _ _ _ _ (by decide)]; exact h6
  replace h7 : a5.tmps.getD 7 undef = .pointer (some ⟨r2, 0, none⟩) := by rw [e5, put_ne _ _ _ _ (by decide)]; exact h7
  replace t52 : a5.tmps.getD 52 undef = .agg G := by rw [e5, put_ne _ _ _ _ (by decide)]; exact t52
  replace t53 : a5.tmps.getD 53 undef = .pointer (some ⟨r2, 0, none⟩) := by rw [e5, put_ne _ _ _ _ (by decide)]; exact t53
  clear t54
  clear t55
  have t56 : a5.tmps.getD 56 undef = .pointer (some ⟨bl, off + 4 * i, none⟩) := by rw [e5]; exact put_same _ _ _ (by omega)
  clear e5 z4
  refine wpAnyH_take (i := 5) (oi := { dst := some 57, op := Op.load 79 (Operand.tmp 56), type := 79, pos := "law.go:268", after := #[{ on := 4, ground := Ground.data }], guard := none }) (v := .agg RV) rfl (by kernel_rfl) (by kernel_rfl) (by kernel_rfl) (fun _ _ _ h => h) (Or.inl ⟨by rfl, fun w1 hw => by exact exec_load rfl (by first | exact t56 | rfl) (L2 _ hw)⟩) hHeld ?_
  obtain ⟨a6, e6⟩ : ∃ act, act = a5.put (some 57) (.agg RV) := ⟨_, rfl⟩
  rw [← e6] at h ⊢
  have z6 : a6.tmps.size = 88 := by rw [e6, put_size]; exact z5
  replace h6 : a6.tmps.getD 6 undef = .pointer (some ⟨r1, 0, none⟩) := by rw [e6, put_ne _ _ _ _ (by decide)]; exact h6
  replace h7 : a6.tmps.getD 7 undef = .pointer (some ⟨r2, 0, none⟩) := by rw [e6, put_ne _ _ _ _ (by decide)]; exact h7
  replace t52 : a6.tmps.getD 52 undef = .agg G := by rw [e6, put_ne _ _ _ _ (by decide)]; exact t52
  replace t53 : a6.tmps.getD 53 undef = .pointer (some ⟨r2, 0, none⟩) := by rw [e6, put_ne _ _ _ _ (by decide)]; exact t53
  clear t56
  have t57 : a6.tmps.getD 57 undef = .agg RV := by rw [e6]; exact put_same _ _ _ (by omega)
  clear e6 z5
  refine wpAnyH_ready (rs := [6]) (by kernel_rfl) (by simp) ?_
  refine AllReadyH.cons (o := { dst := some 58, op := Op.call { callee := Callee.value (Operand.func 23), args := #[Operand.tmp 53, Operand.tmp 57], argTypes := #[73, 79] }, type := 76, pos := "law.go:268", after := #[{ on := 1, ground := Ground.data }, { on := 5, ground := Ground.data }], guard := none }) rfl (fun K hK => ?_) AllReadyH.nil
  rw [if_pos (by rfl)]
  go_simp
  refine (C1).mono ?_
  rintro e x7 ⟨G2, rfl, sx7, px7⟩
  try go_wp2_with fail
  refine hK.out _ _ (sx7) (fun hHeld => ?_)
  clear hK K
  replace h := h G2
  change wpAnyH _ _ _ _ _ _ _ (a6.put (some 58) (.agg G2)) _
  obtain ⟨a7, e7⟩ : ∃ act, act = a6.put (some 58) (.agg G2) := ⟨_, rfl⟩
  rw [← e7] at h ⊢
  have z7 : a7.tmps.size = 88 := by rw [e7, put_size]; exact z6
  replace h6 : a7.tmps.getD 6 undef = .pointer (some ⟨r1, 0, none⟩) := by rw [e7, put_ne _ _ _ _ (by decide)]; exact h6
  replace h7 : a7.tmps.getD 7 undef = .pointer (some ⟨r2, 0, none⟩) := by rw [e7, put_ne _ _ _ _ (by decide)]; exact h7
  replace t52 : a7.tmps.getD 52 undef = .agg G := by rw [e7, put_ne _ _ _ _ (by decide)]; exact t52
  clear t53
  clear t57
  have t58 : a7.tmps.getD 58 undef = .agg G2 := by rw [e7]; exact put_same _ _ _ (by omega)
  clear e7 z6
  refine wpAnyH_ready (rs := [7]) (by kernel_rfl) (by simp) ?_
  refine AllReadyH.cons (o := { dst := some 59, op := Op.call { callee := Callee.value (Operand.func 22), args := #[Operand.tmp 52, Operand.tmp 58], argTypes := #[76, 76] }, type := 4, pos := "law.go:268", after := #[{ on := 0, ground := Ground.data }, { on := 6, ground := Ground.data }, { on := 6, ground := Ground.chain }], guard := none }) rfl (fun K hK => ?_) AllReadyH.nil
  rw [if_pos (by rfl)]
  go_simp
  refine (C2 _ _ px7).mono ?_
  rintro e x8 ⟨rfl, sx8, px8⟩
  try go_wp2_with fail
  refine hK.out _ _ (sx8) (fun hHeld => ?_)
  clear hK K
  change wpAnyH _ _ _ _ _ _ _ (a7.put (some 59) (.bool true)) _
  obtain ⟨a8, e8⟩ : ∃ act, act = a7.put (some 59) (.bool true) := ⟨_, rfl⟩
  rw [← e8] at h ⊢
  have z8 : a8.tmps.size = 88 := by rw [e8, put_size]; exact z7
  replace h6 : a8.tmps.getD 6 undef = .pointer (some ⟨r1, 0, none⟩) := by rw [e8, put_ne _ _ _ _ (by decide)]; exact h6
  replace h7 : a8.tmps.getD 7 undef = .pointer (some ⟨r2, 0, none⟩) := by rw [e8, put_ne _ _ _ _ (by decide)]; exact h7
  clear t52
  clear t58
  have t59 : a8.tmps.getD 59 undef = .bool true := by rw [e8]; exact put_same _ _ _ (by omega)
  clear e8 z7
  refine wpAnyH_take (i := 8) (oi := { dst := some 60, op := Op.unOp UnOp.not 4 (Operand.tmp 59), type := 4, pos := "law.go:268", after := #[{ on := 7, ground := Ground.data }], guard := none }) (v := .bool false) rfl (by kernel_rfl) (by kernel_rfl) (by kernel_rfl) (fun _ _ _ h => h) (Or.inl ⟨by rfl, fun w1 hw => by go_simp⟩) hHeld ?_
  obtain ⟨a9, e9⟩ : ∃ act, act = a8.put (some 60) (.bool false) := ⟨_, rfl⟩
  rw [← e9] at h ⊢
  have z9 : a9.tmps.size = 88 := by rw [e9, put_size]; exact z8
  replace h6 : a9.tmps.getD 6 undef = .pointer (some ⟨r1, 0, none⟩) := by rw [e9, put_ne _ _ _ _ (by decide)]; exact h6
  replace h7 : a9.tmps.getD 7 undef = .pointer (some ⟨r2, 0, none⟩) := by rw [e9, put_ne _ _ _ _ (by decide)]; exact h7
  clear t59
  have t60 : a9.tmps.getD 60 undef = .bool false := by rw [e9]; exact put_same _ _ _ (by omega)
  clear e9 z8
  refine wpAnyH_take (i := 9) (oi := { dst := some 61, op := Op.move (Operand.tmp 60), type := 4, pos := "law.go:268", after := #[{ on := 8, ground := Ground.data }, { on := 7, ground := Ground.chain }], guard := none }) (v := .bool false) rfl (by kernel_rfl) (by kernel_rfl) (by kernel_rfl) (fun _ _ _ h => h) (Or.inl ⟨by rfl, fun w1 hw => by go_simp⟩) hHeld ?_
  obtain ⟨a10, e10⟩ : ∃ act, act = a9.put (some 61) (.bool false) := ⟨_, rfl⟩
  rw [← e10] at h ⊢
  have z10 : a10.tmps.size = 88 := by rw [e10, put_size]; exact z9
  replace h6 : a10.tmps.getD 6 undef = .pointer (some ⟨r1, 0, none⟩) := by rw [e10, put_ne _ _ _ _ (by decide)]; exact h6
  replace h7 : a10.tmps.getD 7 undef = .pointer (some ⟨r2, 0, none⟩) := by rw [e10, put_ne _ _ _ _ (by decide)]; exact h7
  clear t60
  have t61 : a10.tmps.getD 61 undef = .bool false := by rw [e10]; exact put_same _ _ _ (by omega)
  clear e10 z9
  refine wpAnyH_take (i := 10) (oi := { dst := some 62, op := Op.move (Operand.tmp 6), type := 71, pos := "law.go:268", after := #[{ on := 9, ground := Ground.guard }], guard := some (9, false) }) (v := .pointer (some ⟨r1, 0, none⟩)) rfl (by kernel_rfl) (by kernel_rfl) (by kernel_rfl) (fun _ _ _ h => h) (Or.inl ⟨by simp [Region.wanted, yielded, ops17, tget z10 (by decide) t61], fun w1 hw => by go_simp⟩) hHeld ?_
  obtain ⟨a11, e11⟩ : ∃ act, act = a10.put (some 62) (.pointer (some ⟨r1, 0, none⟩)) := ⟨_, rfl⟩
  rw [← e11] at h ⊢
  have z11 : a11.tmps.size = 88 := by rw [e11, put_size]; exact z10
  replace h6 : a11.tmps.getD 6 undef = .pointer (some ⟨r1, 0, none⟩) := by rw [e11, put_ne _ _ _ _ (by decide)]; exact h6
  replace h7 : a11.tmps.getD 7 undef = .pointer (some ⟨r2, 0, none⟩) := by rw [e11, put_ne _ _ _ _ (by decide)]; exact h7
  replace t61 : a11.tmps.getD 61 undef = .bool false := by rw [e11, put_ne _ _ _ _ (by decide)]; exact t61
  have t62 : a11.tmps.getD 62 undef = .pointer (some ⟨r1, 0, none⟩) := by rw [e11]; exact put_same _ _ _ (by omega)
  clear e11 z10
  refine wpAnyH_take (i := 11) (oi := { dst := some 63, op := Op.move (Operand.tmp 7), type := 73, pos := "law.go:268", after := #[{ on := 9, ground := Ground.guard }], guard := some (9, false) }) (v := .pointer (some ⟨r2, 0, none⟩)) rfl (by kernel_rfl) (by kernel_rfl) (by kernel_rfl) (fun _ _ _ h => h) (Or.inl ⟨by simp [Region.wanted, yielded, ops17, tget z11 (by decide) t61], fun w1 hw => by go_simp⟩) hHeld ?_
  obtain ⟨a12, e12⟩ : ∃ act, act = a11.put (some 63) (.pointer (some ⟨r2, 0, none⟩)) := ⟨_, rfl⟩
  rw [← e12] at h ⊢
  have z12 : a12.tmps.size = 88 := by rw [e12, put_size]; exact z11
  replace h6 : a12.tmps.getD 6 undef = .pointer (some ⟨r1, 0, none⟩) := by rw [e12, put_ne _ _ _ _ (by decide)]; exact h6
  replace h7 : a12.tmps.getD 7 undef = .pointer (some ⟨r2, 0, none⟩) := by rw [e12, put_ne _ _ _ _ (by decide)]; exact h7
  replace t61 : a12.tmps.getD 61 undef = .bool false := by rw [e12, put_ne _ _ _ _ (by decide)]; exact t61
  replace t62 : a12.tmps.getD 62 undef = .pointer (some ⟨r1, 0, none⟩) := by rw [e12, put_ne _ _ _ _ (by decide)]; exact t62
  have t63 : a12.tmps.getD 63 undef = .pointer (some ⟨r2, 0, none⟩) := by rw [e12]; exact put_same _ _ _ (by omega)
  clear e12 z11
  refine wpAnyH_ready (rs := [12]) (by kernel_rfl) (by simp) ?_
  refine AllReadyH.cons (o := { dst := some 64, op := Op.call { callee := Callee.value (Operand.func 24), args := #[Operand.tmp 62, Operand.tmp 63], argTypes := #[71, 73] }, type := 4, pos := "law.go:268", after := #[{ on := 10, ground := Ground.data }, { on := 11, ground := Ground.data }, { on := 9, ground := Ground.chain }, { on := 9, ground := Ground.guard }], guard := some (9, false) }) rfl (fun K hK => ?_) AllReadyH.nil
  rw [if_pos (by simp [Region.wanted, yielded, ops17, tget z12 (by decide) t61])]
  go_simp
  refine (C3 _ px8).mono ?_
  rintro e x13 ⟨rfl, sx13, px13⟩
  try go_wp2_with fail
  refine hK.out _ _ (sx13) (fun hHeld => ?_)
  clear hK K
  change wpAnyH _ _ _ _ _ _ _ (a12.put (some 64) (.bool true)) _
  obtain ⟨a13, e13⟩ : ∃ act, act = a12.put (some 64) (.bool true) := ⟨_, rfl⟩
  rw [← e13] at h ⊢
  have z13 : a13.tmps.size = 88 := by rw [e13, put_size]; exact z12
  replace h6 : a13.tmps.getD 6 undef = .pointer (some ⟨r1, 0, none⟩) := by rw [e13, put_ne _ _ _ _ (by decide)]; exact h6
  replace h7 : a13.tmps.getD 7 undef = .pointer (some ⟨r2, 0, none⟩) := by rw [e13, put_ne _ _ _ _ (by decide)]; exact h7
  replace t61 : a13.tmps.getD 61 undef = .bool false := by rw [e13, put_ne _ _ _ _ (by decide)]; exact t61
  clear t62
  clear t63
  have t64 : a13.tmps.getD 64 undef = .bool true := by rw [e13]; exact put_same _ _ _ (by omega)
  clear e13 z12
  refine wpAnyH_take (i := 13) (oi := { dst := some 65, op := Op.unOp UnOp.not 4 (Operand.tmp 64), type := 4, pos := "law.go:268", after := #[{ on := 12, ground := Ground.data }, { on := 9, ground := Ground.guard }], guard := some (9, false) }) (v := .bool false) rfl (by kernel_rfl) (by kernel_rfl) (by kernel_rfl) (fun _ _ _ h => h) (Or.inl ⟨by simp [Region.wanted, yielded, ops17, tget z13 (by decide) t61], fun w1 hw => by go_simp⟩) hHeld ?_
  obtain ⟨a14, e14⟩ : ∃ act, act = a13.put (some 65) (.bool false) := ⟨_, rfl⟩
  rw [← e14] at h ⊢
  have z14 : a14.tmps.size = 88 := by rw [e14, put_size]; exact z13
  replace h6 : a14.tmps.getD 6 undef = .pointer (some ⟨r1, 0, none⟩) := by rw [e14, put_ne _ _ _ _ (by decide)]; exact h6
  replace h7 : a14.tmps.getD 7 undef = .pointer (some ⟨r2, 0, none⟩) := by rw [e14, put_ne _ _ _ _ (by decide)]; exact h7
  replace t61 : a14.tmps.getD 61 undef = .bool false := by rw [e14, put_ne _ _ _ _ (by decide)]; exact t61
  clear t64
  have t65 : a14.tmps.getD 65 undef = .bool false := by rw [e14]; exact put_same _ _ _ (by omega)
  clear e14 z13
  refine wpAnyH_take (i := 14) (oi := { dst := some 66, op := Op.pick (Operand.tmp 61) (Operand.const (Value.bool true)) (Operand.tmp 65), type := 4, pos := "law.go:268", after := #[{ on := 9, ground := Ground.data }, { on := 13, ground := Ground.data }], guard := none }) (v := .bool false) rfl (by kernel_rfl) (by kernel_rfl) (by kernel_rfl) (fun _ _ _ h => h) (Or.inl ⟨by rfl, fun w1 hw => by go_simp⟩) hHeld ?_
  obtain ⟨a15, e15⟩ : ∃ act, act = a14.put (some 66) (.bool false) := ⟨_, rfl⟩
  rw [← e15] at h ⊢
  have z15 : a15.tmps.size = 88 := by rw [e15, put_size]; exact z14
  replace h6 : a15.tmps.getD 6 undef = .pointer (some ⟨r1, 0, none⟩) := by rw [e15, put_ne _ _ _ _ (by decide)]; exact h6
  replace h7 : a15.tmps.getD 7 undef = .pointer (some ⟨r2, 0, none⟩) := by rw [e15, put_ne _ _ _ _ (by decide)]; exact h7
  clear t61
  clear t65
  have t66 : a15.tmps.getD 66 undef = .bool false := by rw [e15]; exact put_same _ _ _ (by omega)
  clear e15 z14
  refine wpAnyH_take (i := 15) (oi := { dst := some 67, op := Op.move (Operand.tmp 66), type := 4, pos := "law.go:268", after := #[{ on := 14, ground := Ground.data }, { on := 12, ground := Ground.chain }], guard := none }) (v := .bool false) rfl (by kernel_rfl) (by kernel_rfl) (by kernel_rfl) (fun _ _ _ h => h) (Or.inl ⟨by rfl, fun w1 hw => by go_simp⟩) hHeld ?_
  obtain ⟨a16, e16⟩ : ∃ act, act = a15.put (some 67) (.bool false) := ⟨_, rfl⟩
  rw [← e16] at h ⊢
  have z16 : a16.tmps.size = 88 := by rw [e16, put_size]; exact z15
  replace h6 : a16.tmps.getD 6 undef = .pointer (some ⟨r1, 0, none⟩) := by rw [e16, put_ne _ _ _ _ (by decide)]; exact h6
  replace h7 : a16.tmps.getD 7 undef = .pointer (some ⟨r2, 0, none⟩) := by rw [e16, put_ne _ _ _ _ (by decide)]; exact h7
  clear t66
  have t67 : a16.tmps.getD 67 undef = .bool false := by rw [e16]; exact put_same _ _ _ (by omega)
  clear e16 z15
  refine wpAnyH_take (i := 16) (oi := { dst := some 68, op := Op.move (Operand.tmp 6), type := 71, pos := "law.go:268", after := #[{ on := 15, ground := Ground.guard }], guard := some (15, false) }) (v := .pointer (some ⟨r1, 0, none⟩)) rfl (by kernel_rfl) (by kernel_rfl) (by kernel_rfl) (fun _ _ _ h => h) (Or.inl ⟨by simp [Region.wanted, yielded, ops17, tget z16 (by decide) t67], fun w1 hw => by go_simp⟩) hHeld ?_
  obtain ⟨a17, e17⟩ : ∃ act, act = a16.put (some 68) (.pointer (some ⟨r1, 0, none⟩)) := ⟨_, rfl⟩
  rw [← e17] at h ⊢
  have z17 : a17.tmps.size = 88 := by rw [e17, put_size]; exact z16
  clear h6
  replace h7 : a17.tmps.getD 7 undef = .pointer (some ⟨r2, 0, none⟩) := by rw [e17, put_ne _ _ _ _ (by decide)]; exact h7
  replace t67 : a17.tmps.getD 67 undef = .bool false := by rw [e17, put_ne _ _ _ _ (by decide)]; exact t67
  have t68 : a17.tmps.getD 68 undef = .pointer (some ⟨r1, 0, none⟩) := by rw [e17]; exact put_same _ _ _ (by omega)
  clear e17 z16
  refine wpAnyH_take (i := 17) (oi := { dst := some 69, op := Op.move (Operand.tmp 7), type := 73, pos := "law.go:268", after := #[{ on := 15, ground := Ground.guard }], guard := some (15, false) }) (v := .pointer (some ⟨r2, 0, none⟩)) rfl (by kernel_rfl) (by kernel_rfl) (by kernel_rfl) (fun _ _ _ h => h) (Or.inl ⟨by simp [Region.wanted, yielded, ops17, tget z17 (by decide) t67], fun w1 hw => by go_simp⟩) hHeld ?_
  obtain ⟨a18, e18⟩ : ∃ act, act = a17.put (some 69) (.pointer (some ⟨r2, 0, none⟩)) := ⟨_, rfl⟩
  rw [← e18] at h ⊢
  have z18 : a18.tmps.size = 88 := by rw [e18, put_size]; exact z17
  clear h7
  replace t67 : a18.tmps.getD 67 undef = .bool false := by rw [e18, put_ne _ _ _ _ (by decide)]; exact t67
  replace t68 : a18.tmps.getD 68 undef = .pointer (some ⟨r1, 0, none⟩) := by rw [e18, put_ne _ _ _ _ (by decide)]; exact t68
  have t69 : a18.tmps.getD 69 undef = .pointer (some ⟨r2, 0, none⟩) := by rw [e18]; exact put_same _ _ _ (by omega)
  clear e18 z17
  refine wpAnyH_ready (rs := [18]) (by kernel_rfl) (by simp) ?_
  refine AllReadyH.cons (o := { dst := some 70, op := Op.call { callee := Callee.value (Operand.func 24), args := #[Operand.tmp 68, Operand.tmp 69], argTypes := #[71, 73] }, type := 4, pos := "law.go:268", after := #[{ on := 16, ground := Ground.data }, { on := 17, ground := Ground.data }, { on := 15, ground := Ground.chain }, { on := 15, ground := Ground.guard }], guard := some (15, false) }) rfl (fun K hK => ?_) AllReadyH.nil
  rw [if_pos (by simp [Region.wanted, yielded, ops17, tget z18 (by decide) t67])]
  go_simp
  refine (C3 _ px13).mono ?_
  rintro e x19 ⟨rfl, sx19, px19⟩
  try go_wp2_with fail
  refine hK.out _ _ (sx19) (fun hHeld => ?_)
  clear hK K
  change wpAnyH _ _ _ _ _ _ _ (a18.put (some 70) (.bool true)) _
  obtain ⟨a19, e19⟩ : ∃ act, act = a18.put (some 70) (.bool true) := ⟨_, rfl⟩
  rw [← e19] at h ⊢
  have z19 : a19.tmps.size = 88 := by rw [e19, put_size]; exact z18
  replace t67 : a19.tmps.getD 67 undef = .bool false := by rw [e19, put_ne _ _ _ _ (by decide)]; exact t67
  clear t68
  clear t69
  have t70 : a19.tmps.getD 70 undef = .bool true := by rw [e19]; exact put_same _ _ _ (by omega)
  clear e19 z18
  refine wpAnyH_take (i := 19) (oi := { dst := some 71, op := Op.unOp UnOp.not 4 (Operand.tmp 70), type := 4, pos := "law.go:268", after := #[{ on := 18, ground := Ground.data }, { on := 15, ground := Ground.guard }], guard := some (15, false) }) (v := .bool false) rfl (by kernel_rfl) (by kernel_rfl) (by kernel_rfl) (fun _ _ _ h => h) (Or.inl ⟨by simp [Region.wanted, yielded, ops17, tget z19 (by decide) t67], fun w1 hw => by go_simp⟩) hHeld ?_
  obtain ⟨a20, e20⟩ : ∃ act, act = a19.put (some 71) (.bool false) := ⟨_, rfl⟩
  rw [← e20] at h ⊢
  have z20 : a20.tmps.size = 88 := by rw [e20, put_size]; exact z19
  replace t67 : a20.tmps.getD 67 undef = .bool false := by rw [e20, put_ne _ _ _ _ (by decide)]; exact t67
  clear t70
  have t71 : a20.tmps.getD 71 undef = .bool false := by rw [e20]; exact put_same _ _ _ (by omega)
  clear e20 z19
  refine wpAnyH_take (i := 20) (oi := { dst := some 72, op := Op.pick (Operand.tmp 67) (Operand.const (Value.bool true)) (Operand.tmp 71), type := 4, pos := "law.go:268", after := #[{ on := 15, ground := Ground.data }, { on := 19, ground := Ground.data }], guard := none }) (v := .bool false) rfl (by kernel_rfl) (by kernel_rfl) (by kernel_rfl) (fun _ _ _ h => h) (Or.inl ⟨by rfl, fun w1 hw => by go_simp⟩) hHeld ?_
  obtain ⟨a21, e21⟩ : ∃ act, act = a20.put (some 72) (.bool false) := ⟨_, rfl⟩
  rw [← e21] at h ⊢
  have z21 : a21.tmps.size = 88 := by rw [e21, put_size]; exact z20
  clear t67
  clear t71
  clear e21 z20
  exact wpAnyH_done (by kernel_rfl) (NoPanic.normal (h _ _ px19 rfl)) _
end Go.Proofs.YtdnocpngdepbgaaGreatDoor
