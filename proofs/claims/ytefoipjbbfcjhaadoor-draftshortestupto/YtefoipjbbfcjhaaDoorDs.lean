import Derived.Test.YtefoipjbbfcjhaaDoorDr
namespace Go.Proofs.YtefoipjbbfcjhaaDoor
open Go.RowKit
set_option linter.unusedVariables false
set_option linter.unusedSimpArgs false

theorem fa_46_0 (b : Nat) (w : World) : (Instr.fieldAt 46 (.pointer (some ⟨b, 0, none⟩)) 0).run Tryd.prog w = .ok (.pointer (some ⟨b, 0, none⟩)) w := by go_simp
theorem fa_46_1 (b : Nat) (w : World) : (Instr.fieldAt 46 (.pointer (some ⟨b, 0, none⟩)) 1).run Tryd.prog w = .ok (.pointer (some ⟨b, 1, none⟩)) w := by go_simp
theorem fa_46_2 (b : Nat) (w : World) : (Instr.fieldAt 46 (.pointer (some ⟨b, 0, none⟩)) 2).run Tryd.prog w = .ok (.pointer (some ⟨b, 2, none⟩)) w := by go_simp
def patch2_ops : Array Oper := #[{ dst := some 8, op := Op.move (Operand.tmp 0), type := 44, pos := "script.go:39", after := #[], guard := none }, { dst := some 9, op := Op.move (Operand.tmp 0), type := 44, pos := "script.go:39", after := #[], guard := none }, { dst := some 10, op := Op.nilCheck (Operand.tmp 9), type := 0, pos := "script.go:39", after := #[{ on := 1, ground := Ground.data }], guard := none }, { dst := some 11, op := Op.fieldAddr 46 (Operand.tmp 10) 0, type := 0, pos := "script.go:39", after := #[{ on := 2, ground := Ground.data }], guard := none }, { dst := some 12, op := Op.load 23 (Operand.tmp 11), type := 23, pos := "script.go:39", after := #[{ on := 3, ground := Ground.data }], guard := none }, { dst := some 13, op := Op.move (Operand.tmp 0), type := 44, pos := "script.go:39", after := #[], guard := none }, { dst := some 14, op := Op.nilCheck (Operand.tmp 13), type := 0, pos := "script.go:39", after := #[{ on := 5, ground := Ground.data }], guard := none }, { dst := some 15, op := Op.fieldAddr 46 (Operand.tmp 14) 1, type := 0, pos := "script.go:39", after := #[{ on := 6, ground := Ground.data }], guard := none }, { dst := some 16, op := Op.load 3 (Operand.tmp 15), type := 3, pos := "script.go:39", after := #[{ on := 7, ground := Ground.data }], guard := none }, { dst := some 17, op := Op.build 34 #[(0, Operand.const (Value.int IntKind.u8 4)), (3, Operand.tmp 16)], type := 34, pos := "script.go:39", after := #[{ on := 8, ground := Ground.data }], guard := none }, { dst := some 18, op := Op.buildSlice 23 1 #[(0, Operand.tmp 17)], type := 23, pos := "script.go:39", after := #[{ on := 9, ground := Ground.data }], guard := none }, { dst := some 19, op := Op.call { callee := Callee.builtin Builtin.append, args := #[Operand.tmp 12, Operand.tmp 18], argTypes := #[23, 23] }, type := 23, pos := "script.go:39", after := #[{ on := 4, ground := Ground.data }, { on := 10, ground := Ground.data }], guard := none }, { dst := some 20, op := Op.nilCheck (Operand.tmp 8), type := 0, pos := "script.go:39", after := #[{ on := 0, ground := Ground.data }, { on := 0, ground := Ground.phase }, { on := 1, ground := Ground.phase }, { on := 2, ground := Ground.phase }, { on := 3, ground := Ground.phase }, { on := 4, ground := Ground.phase }, { on := 5, ground := Ground.phase }, { on := 6, ground := Ground.phase }, { on := 7, ground := Ground.phase }, { on := 8, ground := Ground.phase }, { on := 9, ground := Ground.phase }, { on := 10, ground := Ground.phase }, { on := 11, ground := Ground.phase }], guard := none }, { dst := some 21, op := Op.fieldAddr 46 (Operand.tmp 20) 0, type := 0, pos := "script.go:39", after := #[{ on := 12, ground := Ground.data }, { on := 0, ground := Ground.phase }, { on := 1, ground := Ground.phase }, { on := 2, ground := Ground.phase }, { on := 3, ground := Ground.phase }, { on := 4, ground := Ground.phase }, { on := 5, ground := Ground.phase }, { on := 6, ground := Ground.phase }, { on := 7, ground := Ground.phase }, { on := 8, ground := Ground.phase }, { on := 9, ground := Ground.phase }, { on := 10, ground := Ground.phase }, { on := 11, ground := Ground.phase }], guard := none }, { dst := none, op := Op.store 23 (Operand.tmp 21) (Operand.tmp 19), type := 0, pos := "script.go:39", after := #[{ on := 13, ground := Ground.data }, { on := 11, ground := Ground.data }, { on := 11, ground := Ground.chain }, { on := 0, ground := Ground.phase }, { on := 1, ground := Ground.phase }, { on := 2, ground := Ground.phase }, { on := 3, ground := Ground.phase }, { on := 4, ground := Ground.phase }, { on := 5, ground := Ground.phase }, { on := 6, ground := Ground.phase }, { on := 7, ground := Ground.phase }, { on := 8, ground := Ground.phase }, { on := 9, ground := Ground.phase }, { on := 10, ground := Ground.phase }, { on := 11, ground := Ground.phase }], guard := none }]
theorem patch2 (q : Nat) (lv av pv sv lv2 : Value) (w1 w2 w3 : World) (S : World → Prop) (a : Act) (w : World) (Q : Exit → Act → World → Prop) (hsz : a.tmps.size = 31)
    (h0 : a.tmps.getD 0 undef = .pointer (some ⟨q, 0, none⟩))
    (H8 : ∀ wx, S wx → (Instr.loadAt 3 (.pointer (some ⟨q, 1, none⟩))).run Tryd.prog wx = .ok (av) wx)
    (H9 : ∀ wx, (Instr.build 34 #[(0, .int .u8 4), (3, av)]).run Tryd.prog wx = .ok (pv) wx)
    (H10 : (Instr.buildSlice 23 1 #[(0, pv)]).run Tryd.prog (w.drew) = .ok (sv) w1) (S1 : S w1)
    (H11 : (Builtin.append_ #[23, 23] 23 #[lv, sv]).run Tryd.prog (w1) = .ok (lv2) w2) (S2 : S w2)
    (H14 : (Instr.storeAt 23 (.pointer (some ⟨q, 0, none⟩)) (lv2)).run Tryd.prog (w2) = .ok () w3) (S3 : S w3)
    (LA : (Instr.loadAt 23 (.pointer (some ⟨q, 0, none⟩))).run Tryd.prog (w.drew) = .ok (lv) (w.drew))
    (LB : (Instr.loadAt 23 (.pointer (some ⟨q, 0, none⟩))).run Tryd.prog (w1) = .ok (lv) (w1))
    (SA : S w.drew)
    (hA : ∀ (a' : Act), a' = ((((((((((((((a).put (some 8) (.pointer (some ⟨q, 0, none⟩))).put (some 9) (.pointer (some ⟨q, 0, none⟩))).put (some 10) (.pointer (some ⟨q, 0, none⟩))).put (some 11) (.pointer (some ⟨q, 0, none⟩))).put (some 13) (.pointer (some ⟨q, 0, none⟩))).put (some 14) (.pointer (some ⟨q, 0, none⟩))).put (some 15) (.pointer (some ⟨q, 1, none⟩))).put (some 16) (av)).put (some 17) (pv)).put (some 12) (lv)).put (some 18) (sv)).put (some 19) (lv2)).put (some 20) (.pointer (some ⟨q, 0, none⟩))).put (some 21) (.pointer (some ⟨q, 0, none⟩)) → Q .normal a' w3)
    (hB : ∀ (a' : Act), a' = ((((((((((((((a).put (some 8) (.pointer (some ⟨q, 0, none⟩))).put (some 9) (.pointer (some ⟨q, 0, none⟩))).put (some 10) (.pointer (some ⟨q, 0, none⟩))).put (some 11) (.pointer (some ⟨q, 0, none⟩))).put (some 13) (.pointer (some ⟨q, 0, none⟩))).put (some 14) (.pointer (some ⟨q, 0, none⟩))).put (some 15) (.pointer (some ⟨q, 1, none⟩))).put (some 16) (av)).put (some 17) (pv)).put (some 18) (sv)).put (some 12) (lv)).put (some 19) (lv2)).put (some 20) (.pointer (some ⟨q, 0, none⟩))).put (some 21) (.pointer (some ⟨q, 0, none⟩)) → Q .normal a' w3) :
    (Code.region 2 patch2_ops true).wp Tryd.prog Q a w := by
  refine wp_region_noPanic ?_
  refine wp_region_held_drew (S := S) (by kernel_rfl) SA (fun hHeld => ?_)
  refine wpAnyH_take (i := 0) (oi := { dst := some 8, op := Op.move (Operand.tmp 0), type := 44, pos := "script.go:39", after := #[], guard := none }) (v := .pointer (some ⟨q, 0, none⟩)) rfl (by kernel_rfl) (by kernel_rfl) (by kernel_rfl) (fun _ _ _ h => h) (Or.inl ⟨by rfl, fun w1 hw => exec_move rfl (h0)⟩) hHeld ?_
  change wpAnyH _ _ _ _ _ _ _ (a.put (some 8) (.pointer (some ⟨q, 0, none⟩))) _
  obtain ⟨a1, e1⟩ : ∃ act, act = a.put (some 8) (.pointer (some ⟨q, 0, none⟩)) := ⟨_, rfl⟩
  rw [← e1] at hA
  rw [← e1] at hB
  rw [← e1]
  have z1 : a1.tmps.size = 31 := by rw [e1, put_size]; exact hsz
  replace h0 : a1.tmps.getD 0 undef = .pointer (some ⟨q, 0, none⟩) := by rw [e1, put_ne _ _ _ _ (by decide)]; exact h0
  have h8 : a1.tmps.getD 8 undef = .pointer (some ⟨q, 0, none⟩) := by rw [e1]; exact put_same _ _ _ (by omega)
  clear e1 hsz
  refine wpAnyH_take (i := 1) (oi := { dst := some 9, op := Op.move (Operand.tmp 0), type := 44, pos := "script.go:39", after := #[], guard := none }) (v := .pointer (some ⟨q, 0, none⟩)) rfl (by kernel_rfl) (by kernel_rfl) (by kernel_rfl) (fun _ _ _ h => h) (Or.inl ⟨by rfl, fun w1 hw => exec_move rfl (h0)⟩) hHeld ?_
  change wpAnyH _ _ _ _ _ _ _ (a1.put (some 9) (.pointer (some ⟨q, 0, none⟩))) _
  obtain ⟨a2, e2⟩ : ∃ act, act = a1.put (some 9) (.pointer (some ⟨q, 0, none⟩)) := ⟨_, rfl⟩
  rw [← e2] at hA
  rw [← e2] at hB
  rw [← e2]
  have z2 : a2.tmps.size = 31 := by rw [e2, put_size]; exact z1
  replace h0 : a2.tmps.getD 0 undef = .pointer (some ⟨q, 0, none⟩) := by rw [e2, put_ne _ _ _ _ (by decide)]; exact h0
  replace h8 : a2.tmps.getD 8 undef = .pointer (some ⟨q, 0, none⟩) := by rw [e2, put_ne _ _ _ _ (by decide)]; exact h8
  have h9 : a2.tmps.getD 9 undef = .pointer (some ⟨q, 0, none⟩) := by rw [e2]; exact put_same _ _ _ (by omega)
  clear e2 z1
  refine wpAnyH_take (i := 2) (oi := { dst := some 10, op := Op.nilCheck (Operand.tmp 9), type := 0, pos := "script.go:39", after := #[{ on := 1, ground := Ground.data }], guard := none }) (v := .pointer (some ⟨q, 0, none⟩)) rfl (by kernel_rfl) (by kernel_rfl) (by kernel_rfl) (fun _ _ _ h => h) (Or.inl ⟨by rfl, fun w1 hw => exec_nilCheck rfl (h9)⟩) hHeld ?_
  change wpAnyH _ _ _ _ _ _ _ (a2.put (some 10) (.pointer (some ⟨q, 0, none⟩))) _
  obtain ⟨a3, e3⟩ : ∃ act, act = a2.put (some 10) (.pointer (some ⟨q, 0, none⟩)) := ⟨_, rfl⟩
  rw [← e3] at hA
  rw [← e3] at hB
  rw [← e3]
  have z3 : a3.tmps.size = 31 := by rw [e3, put_size]; exact z2
  replace h0 : a3.tmps.getD 0 undef = .pointer (some ⟨q, 0, none⟩) := by rw [e3, put_ne _ _ _ _ (by decide)]; exact h0
  replace h8 : a3.tmps.getD 8 undef = .pointer (some ⟨q, 0, none⟩) := by rw [e3, put_ne _ _ _ _ (by decide)]; exact h8
  clear h9
  have h10 : a3.tmps.getD 10 undef = .pointer (some ⟨q, 0, none⟩) := by rw [e3]; exact put_same _ _ _ (by omega)
  clear e3 z2
  refine wpAnyH_take (i := 3) (oi := { dst := some 11, op := Op.fieldAddr 46 (Operand.tmp 10) 0, type := 0, pos := "script.go:39", after := #[{ on := 2, ground := Ground.data }], guard := none }) (v := .pointer (some ⟨q, 0, none⟩)) rfl (by kernel_rfl) (by kernel_rfl) (by kernel_rfl) (fun _ _ _ h => h) (Or.inl ⟨by rfl, fun w1 hw => exec_fieldAt rfl (h10) (fa_46_0 _ _)⟩) hHeld ?_
  change wpAnyH _ _ _ _ _ _ _ (a3.put (some 11) (.pointer (some ⟨q, 0, none⟩))) _
  obtain ⟨a4, e4⟩ : ∃ act, act = a3.put (some 11) (.pointer (some ⟨q, 0, none⟩)) := ⟨_, rfl⟩
  rw [← e4] at hA
  rw [← e4] at hB
  rw [← e4]
  have z4 : a4.tmps.size = 31 := by rw [e4, put_size]; exact z3
  replace h0 : a4.tmps.getD 0 undef = .pointer (some ⟨q, 0, none⟩) := by rw [e4, put_ne _ _ _ _ (by decide)]; exact h0
  replace h8 : a4.tmps.getD 8 undef = .pointer (some ⟨q, 0, none⟩) := by rw [e4, put_ne _ _ _ _ (by decide)]; exact h8
  clear h10
  have h11 : a4.tmps.getD 11 undef = .pointer (some ⟨q, 0, none⟩) := by rw [e4]; exact put_same _ _ _ (by omega)
  clear e4 z3
  refine wpAnyH_take (i := 5) (oi := { dst := some 13, op := Op.move (Operand.tmp 0), type := 44, pos := "script.go:39", after := #[], guard := none }) (v := .pointer (some ⟨q, 0, none⟩)) rfl (by kernel_rfl) (by kernel_rfl) (by kernel_rfl) (fun _ _ _ h => h) (Or.inl ⟨by rfl, fun w1 hw => exec_move rfl (h0)⟩) hHeld ?_
  change wpAnyH _ _ _ _ _ _ _ (a4.put (some 13) (.pointer (some ⟨q, 0, none⟩))) _
  obtain ⟨a5, e5⟩ : ∃ act, act = a4.put (some 13) (.pointer (some ⟨q, 0, none⟩)) := ⟨_, rfl⟩
  rw [← e5] at hA
  rw [← e5] at hB
  rw [← e5]
  have z5 : a5.tmps.size = 31 := by rw [e5, put_size]; exact z4
  clear h0
  replace h8 : a5.tmps.getD 8 undef = .pointer (some ⟨q, 0, none⟩) := by rw [e5, put_ne _ _ _ _ (by decide)]; exact h8
  replace h11 : a5.tmps.getD 11 undef = .pointer (some ⟨q, 0, none⟩) := by rw [e5, put_ne _ _ _ _ (by decide)]; exact h11
  have h13 : a5.tmps.getD 13 undef = .pointer (some ⟨q, 0, none⟩) := by rw [e5]; exact put_same _ _ _ (by omega)
  clear e5 z4
  refine wpAnyH_take (i := 6) (oi := { dst := some 14, op := Op.nilCheck (Operand.tmp 13), type := 0, pos := "script.go:39", after := #[{ on := 5, ground := Ground.data }], guard := none }) (v := .pointer (some ⟨q, 0, none⟩)) rfl (by kernel_rfl) (by kernel_rfl) (by kernel_rfl) (fun _ _ _ h => h) (Or.inl ⟨by rfl, fun w1 hw => exec_nilCheck rfl (h13)⟩) hHeld ?_
  change wpAnyH _ _ _ _ _ _ _ (a5.put (some 14) (.pointer (some ⟨q, 0, none⟩))) _
  obtain ⟨a6, e6⟩ : ∃ act, act = a5.put (some 14) (.pointer (some ⟨q, 0, none⟩)) := ⟨_, rfl⟩
  rw [← e6] at hA
  rw [← e6] at hB
  rw [← e6]
  have z6 : a6.tmps.size = 31 := by rw [e6, put_size]; exact z5
  replace h8 : a6.tmps.getD 8 undef = .pointer (some ⟨q, 0, none⟩) := by rw [e6, put_ne _ _ _ _ (by decide)]; exact h8
  replace h11 : a6.tmps.getD 11 undef = .pointer (some ⟨q, 0, none⟩) := by rw [e6, put_ne _ _ _ _ (by decide)]; exact h11
  clear h13
  have h14 : a6.tmps.getD 14 undef = .pointer (some ⟨q, 0, none⟩) := by rw [e6]; exact put_same _ _ _ (by omega)
  clear e6 z5
  refine wpAnyH_take (i := 7) (oi := { dst := some 15, op := Op.fieldAddr 46 (Operand.tmp 14) 1, type := 0, pos := "script.go:39", after := #[{ on := 6, ground := Ground.data }], guard := none }) (v := .pointer (some ⟨q, 1, none⟩)) rfl (by kernel_rfl) (by kernel_rfl) (by kernel_rfl) (fun _ _ _ h => h) (Or.inl ⟨by rfl, fun w1 hw => exec_fieldAt rfl (h14) (fa_46_1 _ _)⟩) hHeld ?_
  change wpAnyH _ _ _ _ _ _ _ (a6.put (some 15) (.pointer (some ⟨q, 1, none⟩))) _
  obtain ⟨a7, e7⟩ : ∃ act, act = a6.put (some 15) (.pointer (some ⟨q, 1, none⟩)) := ⟨_, rfl⟩
  rw [← e7] at hA
  rw [← e7] at hB
  rw [← e7]
  have z7 : a7.tmps.size = 31 := by rw [e7, put_size]; exact z6
  replace h8 : a7.tmps.getD 8 undef = .pointer (some ⟨q, 0, none⟩) := by rw [e7, put_ne _ _ _ _ (by decide)]; exact h8
  replace h11 : a7.tmps.getD 11 undef = .pointer (some ⟨q, 0, none⟩) := by rw [e7, put_ne _ _ _ _ (by decide)]; exact h11
  clear h14
  have h15 : a7.tmps.getD 15 undef = .pointer (some ⟨q, 1, none⟩) := by rw [e7]; exact put_same _ _ _ (by omega)
  clear e7 z6
  refine wpAnyH_take (i := 8) (oi := { dst := some 16, op := Op.load 3 (Operand.tmp 15), type := 3, pos := "script.go:39", after := #[{ on := 7, ground := Ground.data }], guard := none }) (v := av) rfl (by kernel_rfl) (by kernel_rfl) (by kernel_rfl) (fun _ _ _ h => h) (Or.inl ⟨by rfl, fun w1 hw => exec_load rfl (h15) (H8 _ hw)⟩) hHeld ?_
  change wpAnyH _ _ _ _ _ _ _ (a7.put (some 16) (av)) _
  obtain ⟨a8, e8⟩ : ∃ act, act = a7.put (some 16) (av) := ⟨_, rfl⟩
  rw [← e8] at hA
  rw [← e8] at hB
  rw [← e8]
  have z8 : a8.tmps.size = 31 := by rw [e8, put_size]; exact z7
  replace h8 : a8.tmps.getD 8 undef = .pointer (some ⟨q, 0, none⟩) := by rw [e8, put_ne _ _ _ _ (by decide)]; exact h8
  replace h11 : a8.tmps.getD 11 undef = .pointer (some ⟨q, 0, none⟩) := by rw [e8, put_ne _ _ _ _ (by decide)]; exact h11
  clear h15
  have h16 : a8.tmps.getD 16 undef = av := by rw [e8]; exact put_same _ _ _ (by omega)
  clear e8 z7
  refine wpAnyH_take (i := 9) (oi := { dst := some 17, op := Op.build 34 #[(0, Operand.const (Value.int IntKind.u8 4)), (3, Operand.tmp 16)], type := 34, pos := "script.go:39", after := #[{ on := 8, ground := Ground.data }], guard := none }) (v := pv) rfl (by kernel_rfl) (by kernel_rfl) (by kernel_rfl) (fun _ _ _ h => h) (Or.inl ⟨by rfl, fun w1 hw => exec_build rfl (by rw [List.map_toArray]; show [(0, .int .u8 4), (3, a8.tmps.getD 16 undef)].toArray = _; rw [h16]) (H9 _)⟩) hHeld ?_
  change wpAnyH _ _ _ _ _ _ _ (a8.put (some 17) (pv)) _
  obtain ⟨a9, e9⟩ : ∃ act, act = a8.put (some 17) (pv) := ⟨_, rfl⟩
  rw [← e9] at hA
  rw [← e9] at hB
  rw [← e9]
  have z9 : a9.tmps.size = 31 := by rw [e9, put_size]; exact z8
  replace h8 : a9.tmps.getD 8 undef = .pointer (some ⟨q, 0, none⟩) := by rw [e9, put_ne _ _ _ _ (by decide)]; exact h8
  replace h11 : a9.tmps.getD 11 undef = .pointer (some ⟨q, 0, none⟩) := by rw [e9, put_ne _ _ _ _ (by decide)]; exact h11
  clear h16
  have h17 : a9.tmps.getD 17 undef = pv := by rw [e9]; exact put_same _ _ _ (by omega)
  clear e9 z8
  refine wpAnyH_ready (rs := [4, 10]) (by kernel_rfl) (by simp) ?_
  refine AllReadyH.cons (o := { dst := some 12, op := Op.load 23 (Operand.tmp 11), type := 23, pos := "script.go:39", after := #[{ on := 3, ground := Ground.data }], guard := none }) rfl (fun K hK => ?_) (AllReadyH.cons (o := { dst := some 18, op := Op.buildSlice 23 1 #[(0, Operand.tmp 17)], type := 23, pos := "script.go:39", after := #[{ on := 9, ground := Ground.data }], guard := none }) rfl (fun K hK => ?_) AllReadyH.nil)
  · have X := exec_load (P := Tryd.prog) (a := a9) (o := { dst := some 12, op := Op.load 23 (Operand.tmp 11), type := 23, pos := "script.go:39", after := #[{ on := 3, ground := Ground.data }], guard := none }) rfl (h11) LA
    rw [if_pos (show Region.wanted { dst := some 12, op := Op.load 23 (Operand.tmp 11), type := 23, pos := "script.go:39", after := #[{ on := 3, ground := Ground.data }], guard := none } (yielded patch2_ops a9.tmps) = true from rfl), Oper.wp, X]
    show K _ _
    clear X
    refine hK.out _ _ SA (fun hHeld => ?_)
    clear hK K
    change wpAnyH _ _ _ _ _ _ _ (a9.put (some 12) (lv)) _
    obtain ⟨a10, e10⟩ : ∃ act, act = a9.put (some 12) (lv) := ⟨_, rfl⟩
    rw [← e10] at hA
    rw [← e10]
    have z10 : a10.tmps.size = 31 := by rw [e10, put_size]; exact z9
    replace h8 : a10.tmps.getD 8 undef = .pointer (some ⟨q, 0, none⟩) := by rw [e10, put_ne _ _ _ _ (by decide)]; exact h8
    clear h11
    replace h17 : a10.tmps.getD 17 undef = pv := by rw [e10, put_ne _ _ _ _ (by decide)]; exact h17
    have h12 : a10.tmps.getD 12 undef = lv := by rw [e10]; exact put_same _ _ _ (by omega)
    clear e10 z9
    refine wpAnyH_ready (rs := [10]) (by kernel_rfl) (by simp) ?_
    refine AllReadyH.cons (o := { dst := some 18, op := Op.buildSlice 23 1 #[(0, Operand.tmp 17)], type := 23, pos := "script.go:39", after := #[{ on := 9, ground := Ground.data }], guard := none }) rfl (fun K hK => ?_) AllReadyH.nil
    have X := exec_buildSlice (P := Tryd.prog) (a := a10) (o := { dst := some 18, op := Op.buildSlice 23 1 #[(0, Operand.tmp 17)], type := 23, pos := "script.go:39", after := #[{ on := 9, ground := Ground.data }], guard := none }) rfl (h17) H10
    rw [if_pos (show Region.wanted { dst := some 18, op := Op.buildSlice 23 1 #[(0, Operand.tmp 17)], type := 23, pos := "script.go:39", after := #[{ on := 9, ground := Ground.data }], guard := none } (yielded patch2_ops a10.tmps) = true from rfl), Oper.wp, X]
    show K _ _
    clear X
    refine hK.out _ _ S1 (fun hHeld => ?_)
    clear hK K
    change wpAnyH _ _ _ _ _ _ _ (a10.put (some 18) (sv)) _
    obtain ⟨a11, e11⟩ : ∃ act, act = a10.put (some 18) (sv) := ⟨_, rfl⟩
    rw [← e11] at hA
    rw [← e11]
    have z11 : a11.tmps.size = 31 := by rw [e11, put_size]; exact z10
    replace h8 : a11.tmps.getD 8 undef = .pointer (some ⟨q, 0, none⟩) := by rw [e11, put_ne _ _ _ _ (by decide)]; exact h8
    clear h17
    replace h12 : a11.tmps.getD 12 undef = lv := by rw [e11, put_ne _ _ _ _ (by decide)]; exact h12
    have h18 : a11.tmps.getD 18 undef = sv := by rw [e11]; exact put_same _ _ _ (by omega)
    clear e11 z10
    refine wpAnyH_ready (rs := [11]) (by kernel_rfl) (by simp) ?_
    refine AllReadyH.cons (o := { dst := some 19, op := Op.call { callee := Callee.builtin Builtin.append, args := #[Operand.tmp 12, Operand.tmp 18], argTypes := #[23, 23] }, type := 23, pos := "script.go:39", after := #[{ on := 4, ground := Ground.data }, { on := 10, ground := Ground.data }], guard := none }) rfl (fun K hK => ?_) AllReadyH.nil
    have X := exec_append (P := Tryd.prog) (a := a11) (o := { dst := some 19, op := Op.call { callee := Callee.builtin Builtin.append, args := #[Operand.tmp 12, Operand.tmp 18], argTypes := #[23, 23] }, type := 23, pos := "script.go:39", after := #[{ on := 4, ground := Ground.data }, { on := 10, ground := Ground.data }], guard := none }) rfl (h12) (h18) H11
    rw [if_pos (show Region.wanted { dst := some 19, op := Op.call { callee := Callee.builtin Builtin.append, args := #[Operand.tmp 12, Operand.tmp 18], argTypes := #[23, 23] }, type := 23, pos := "script.go:39", after := #[{ on := 4, ground := Ground.data }, { on := 10, ground := Ground.data }], guard := none } (yielded patch2_ops a11.tmps) = true from rfl), Oper.wp, X]
    show K _ _
    clear X
    refine hK.out _ _ S2 (fun hHeld => ?_)
    clear hK K
    change wpAnyH _ _ _ _ _ _ _ (a11.put (some 19) (lv2)) _
    obtain ⟨a12, e12⟩ : ∃ act, act = a11.put (some 19) (lv2) := ⟨_, rfl⟩
    rw [← e12] at hA
    rw [← e12]
    have z12 : a12.tmps.size = 31 := by rw [e12, put_size]; exact z11
    replace h8 : a12.tmps.getD 8 undef = .pointer (some ⟨q, 0, none⟩) := by rw [e12, put_ne _ _ _ _ (by decide)]; exact h8
    clear h12
    clear h18
    have h19 : a12.tmps.getD 19 undef = lv2 := by rw [e12]; exact put_same _ _ _ (by omega)
    clear e12 z11
    refine wpAnyH_take (i := 12) (oi := { dst := some 20, op := Op.nilCheck (Operand.tmp 8), type := 0, pos := "script.go:39", after := #[{ on := 0, ground := Ground.data }, { on := 0, ground := Ground.phase }, { on := 1, ground := Ground.phase }, { on := 2, ground := Ground.phase }, { on := 3, ground := Ground.phase }, { on := 4, ground := Ground.phase }, { on := 5, ground := Ground.phase }, { on := 6, ground := Ground.phase }, { on := 7, ground := Ground.phase }, { on := 8, ground := Ground.phase }, { on := 9, ground := Ground.phase }, { on := 10, ground := Ground.phase }, { on := 11, ground := Ground.phase }], guard := none }) (v := .pointer (some ⟨q, 0, none⟩)) rfl (by kernel_rfl) (by kernel_rfl) (by kernel_rfl) (fun _ _ _ h => h) (Or.inl ⟨by rfl, fun w1 hw => exec_nilCheck rfl (h8)⟩) hHeld ?_
    change wpAnyH _ _ _ _ _ _ _ (a12.put (some 20) (.pointer (some ⟨q, 0, none⟩))) _
    obtain ⟨a13, e13⟩ : ∃ act, act = a12.put (some 20) (.pointer (some ⟨q, 0, none⟩)) := ⟨_, rfl⟩
    rw [← e13] at hA
    rw [← e13]
    have z13 : a13.tmps.size = 31 := by rw [e13, put_size]; exact z12
    clear h8
    replace h19 : a13.tmps.getD 19 undef = lv2 := by rw [e13, put_ne _ _ _ _ (by decide)]; exact h19
    have h20 : a13.tmps.getD 20 undef = .pointer (some ⟨q, 0, none⟩) := by rw [e13]; exact put_same _ _ _ (by omega)
    clear e13 z12
    refine wpAnyH_take (i := 13) (oi := { dst := some 21, op := Op.fieldAddr 46 (Operand.tmp 20) 0, type := 0, pos := "script.go:39", after := #[{ on := 12, ground := Ground.data }, { on := 0, ground := Ground.phase }, { on := 1, ground := Ground.phase }, { on := 2, ground := Ground.phase }, { on := 3, ground := Ground.phase }, { on := 4, ground := Ground.phase }, { on := 5, ground := Ground.phase }, { on := 6, ground := Ground.phase }, { on := 7, ground := Ground.phase }, { on := 8, ground := Ground.phase }, { on := 9, ground := Ground.phase }, { on := 10, ground := Ground.phase }, { on := 11, ground := Ground.phase }], guard := none }) (v := .pointer (some ⟨q, 0, none⟩)) rfl (by kernel_rfl) (by kernel_rfl) (by kernel_rfl) (fun _ _ _ h => h) (Or.inl ⟨by rfl, fun w1 hw => exec_fieldAt rfl (h20) (fa_46_0 _ _)⟩) hHeld ?_
    change wpAnyH _ _ _ _ _ _ _ (a13.put (some 21) (.pointer (some ⟨q, 0, none⟩))) _
    obtain ⟨a14, e14⟩ : ∃ act, act = a13.put (some 21) (.pointer (some ⟨q, 0, none⟩)) := ⟨_, rfl⟩
    rw [← e14] at hA
    rw [← e14]
    have z14 : a14.tmps.size = 31 := by rw [e14, put_size]; exact z13
    replace h19 : a14.tmps.getD 19 undef = lv2 := by rw [e14, put_ne _ _ _ _ (by decide)]; exact h19
    clear h20
    have h21 : a14.tmps.getD 21 undef = .pointer (some ⟨q, 0, none⟩) := by rw [e14]; exact put_same _ _ _ (by omega)
    clear e14 z13
    refine wpAnyH_ready (rs := [14]) (by kernel_rfl) (by simp) ?_
    refine AllReadyH.cons (o := { dst := none, op := Op.store 23 (Operand.tmp 21) (Operand.tmp 19), type := 0, pos := "script.go:39", after := #[{ on := 13, ground := Ground.data }, { on := 11, ground := Ground.data }, { on := 11, ground := Ground.chain }, { on := 0, ground := Ground.phase }, { on := 1, ground := Ground.phase }, { on := 2, ground := Ground.phase }, { on := 3, ground := Ground.phase }, { on := 4, ground := Ground.phase }, { on := 5, ground := Ground.phase }, { on := 6, ground := Ground.phase }, { on := 7, ground := Ground.phase }, { on := 8, ground := Ground.phase }, { on := 9, ground := Ground.phase }, { on := 10, ground := Ground.phase }, { on := 11, ground := Ground.phase }], guard := none }) rfl (fun K hK => ?_) AllReadyH.nil
    have X := exec_store (P := Tryd.prog) (a := a14) (o := { dst := none, op := Op.store 23 (Operand.tmp 21) (Operand.tmp 19), type := 0, pos := "script.go:39", after := #[{ on := 13, ground := Ground.data }, { on := 11, ground := Ground.data }, { on := 11, ground := Ground.chain }, { on := 0, ground := Ground.phase }, { on := 1, ground := Ground.phase }, { on := 2, ground := Ground.phase }, { on := 3, ground := Ground.phase }, { on := 4, ground := Ground.phase }, { on := 5, ground := Ground.phase }, { on := 6, ground := Ground.phase }, { on := 7, ground := Ground.phase }, { on := 8, ground := Ground.phase }, { on := 9, ground := Ground.phase }, { on := 10, ground := Ground.phase }, { on := 11, ground := Ground.phase }], guard := none }) rfl (h21) (h19) H14
    rw [if_pos (show Region.wanted { dst := none, op := Op.store 23 (Operand.tmp 21) (Operand.tmp 19), type := 0, pos := "script.go:39", after := #[{ on := 13, ground := Ground.data }, { on := 11, ground := Ground.data }, { on := 11, ground := Ground.chain }, { on := 0, ground := Ground.phase }, { on := 1, ground := Ground.phase }, { on := 2, ground := Ground.phase }, { on := 3, ground := Ground.phase }, { on := 4, ground := Ground.phase }, { on := 5, ground := Ground.phase }, { on := 6, ground := Ground.phase }, { on := 7, ground := Ground.phase }, { on := 8, ground := Ground.phase }, { on := 9, ground := Ground.phase }, { on := 10, ground := Ground.phase }, { on := 11, ground := Ground.phase }], guard := none } (yielded patch2_ops a14.tmps) = true from rfl), Oper.wp, X]
    show K a14 w3
    clear X
    refine hK.out _ _ S3 (fun hHeld => ?_)
    clear hK K
    clear h19
    clear h21
    exact wpAnyH_done (by kernel_rfl) (NoPanic.normal (hA _ rfl)) _
  · have X := exec_buildSlice (P := Tryd.prog) (a := a9) (o := { dst := some 18, op := Op.buildSlice 23 1 #[(0, Operand.tmp 17)], type := 23, pos := "script.go:39", after := #[{ on := 9, ground := Ground.data }], guard := none }) rfl (h17) H10
    rw [if_pos (show Region.wanted { dst := some 18, op := Op.buildSlice 23 1 #[(0, Operand.tmp 17)], type := 23, pos := "script.go:39", after := #[{ on := 9, ground := Ground.data }], guard := none } (yielded patch2_ops a9.tmps) = true from rfl), Oper.wp, X]
    show K _ _
    clear X
    refine hK.out _ _ S1 (fun hHeld => ?_)
    clear hK K
    change wpAnyH _ _ _ _ _ _ _ (a9.put (some 18) (sv)) _
    obtain ⟨a10, e10⟩ : ∃ act, act = a9.put (some 18) (sv) := ⟨_, rfl⟩
    rw [← e10] at hB
    rw [← e10]
    have z10 : a10.tmps.size = 31 := by rw [e10, put_size]; exact z9
    replace h8 : a10.tmps.getD 8 undef = .pointer (some ⟨q, 0, none⟩) := by rw [e10, put_ne _ _ _ _ (by decide)]; exact h8
    replace h11 : a10.tmps.getD 11 undef = .pointer (some ⟨q, 0, none⟩) := by rw [e10, put_ne _ _ _ _ (by decide)]; exact h11
    clear h17
    have h18 : a10.tmps.getD 18 undef = sv := by rw [e10]; exact put_same _ _ _ (by omega)
    clear e10 z9
    refine wpAnyH_ready (rs := [4]) (by kernel_rfl) (by simp) ?_
    refine AllReadyH.cons (o := { dst := some 12, op := Op.load 23 (Operand.tmp 11), type := 23, pos := "script.go:39", after := #[{ on := 3, ground := Ground.data }], guard := none }) rfl (fun K hK => ?_) AllReadyH.nil
    have X := exec_load (P := Tryd.prog) (a := a10) (o := { dst := some 12, op := Op.load 23 (Operand.tmp 11), type := 23, pos := "script.go:39", after := #[{ on := 3, ground := Ground.data }], guard := none }) rfl (h11) LB
    rw [if_pos (show Region.wanted { dst := some 12, op := Op.load 23 (Operand.tmp 11), type := 23, pos := "script.go:39", after := #[{ on := 3, ground := Ground.data }], guard := none } (yielded patch2_ops a10.tmps) = true from rfl), Oper.wp, X]
    show K _ _
    clear X
    refine hK.out _ _ S1 (fun hHeld => ?_)
    clear hK K
    change wpAnyH _ _ _ _ _ _ _ (a10.put (some 12) (lv)) _
    obtain ⟨a11, e11⟩ : ∃ act, act = a10.put (some 12) (lv) := ⟨_, rfl⟩
    rw [← e11] at hB
    rw [← e11]
    have z11 : a11.tmps.size = 31 := by rw [e11, put_size]; exact z10
    replace h8 : a11.tmps.getD 8 undef = .pointer (some ⟨q, 0, none⟩) := by rw [e11, put_ne _ _ _ _ (by decide)]; exact h8
    clear h11
    replace h18 : a11.tmps.getD 18 undef = sv := by rw [e11, put_ne _ _ _ _ (by decide)]; exact h18
    have h12 : a11.tmps.getD 12 undef = lv := by rw [e11]; exact put_same _ _ _ (by omega)
    clear e11 z10
    refine wpAnyH_ready (rs := [11]) (by kernel_rfl) (by simp) ?_
    refine AllReadyH.cons (o := { dst := some 19, op := Op.call { callee := Callee.builtin Builtin.append, args := #[Operand.tmp 12, Operand.tmp 18], argTypes := #[23, 23] }, type := 23, pos := "script.go:39", after := #[{ on := 4, ground := Ground.data }, { on := 10, ground := Ground.data }], guard := none }) rfl (fun K hK => ?_) AllReadyH.nil
    have X := exec_append (P := Tryd.prog) (a := a11) (o := { dst := some 19, op := Op.call { callee := Callee.builtin Builtin.append, args := #[Operand.tmp 12, Operand.tmp 18], argTypes := #[23, 23] }, type := 23, pos := "script.go:39", after := #[{ on := 4, ground := Ground.data }, { on := 10, ground := Ground.data }], guard := none }) rfl (h12) (h18) H11
    rw [if_pos (show Region.wanted { dst := some 19, op := Op.call { callee := Callee.builtin Builtin.append, args := #[Operand.tmp 12, Operand.tmp 18], argTypes := #[23, 23] }, type := 23, pos := "script.go:39", after := #[{ on := 4, ground := Ground.data }, { on := 10, ground := Ground.data }], guard := none } (yielded patch2_ops a11.tmps) = true from rfl), Oper.wp, X]
    show K _ _
    clear X
    refine hK.out _ _ S2 (fun hHeld => ?_)
    clear hK K
    change wpAnyH _ _ _ _ _ _ _ (a11.put (some 19) (lv2)) _
    obtain ⟨a12, e12⟩ : ∃ act, act = a11.put (some 19) (lv2) := ⟨_, rfl⟩
    rw [← e12] at hB
    rw [← e12]
    have z12 : a12.tmps.size = 31 := by rw [e12, put_size]; exact z11
    replace h8 : a12.tmps.getD 8 undef = .pointer (some ⟨q, 0, none⟩) := by rw [e12, put_ne _ _ _ _ (by decide)]; exact h8
    clear h18
    clear h12
    have h19 : a12.tmps.getD 19 undef = lv2 := by rw [e12]; exact put_same _ _ _ (by omega)
    clear e12 z11
    refine wpAnyH_take (i := 12) (oi := { dst := some 20, op := Op.nilCheck (Operand.tmp 8), type := 0, pos := "script.go:39", after := #[{ on := 0, ground := Ground.data }, { on := 0, ground := Ground.phase }, { on := 1, ground := Ground.phase }, { on := 2, ground := Ground.phase }, { on := 3, ground := Ground.phase }, { on := 4, ground := Ground.phase }, { on := 5, ground := Ground.phase }, { on := 6, ground := Ground.phase }, { on := 7, ground := Ground.phase }, { on := 8, ground := Ground.phase }, { on := 9, ground := Ground.phase }, { on := 10, ground := Ground.phase }, { on := 11, ground := Ground.phase }], guard := none }) (v := .pointer (some ⟨q, 0, none⟩)) rfl (by kernel_rfl) (by kernel_rfl) (by kernel_rfl) (fun _ _ _ h => h) (Or.inl ⟨by rfl, fun w1 hw => exec_nilCheck rfl (h8)⟩) hHeld ?_
    change wpAnyH _ _ _ _ _ _ _ (a12.put (some 20) (.pointer (some ⟨q, 0, none⟩))) _
    obtain ⟨a13, e13⟩ : ∃ act, act = a12.put (some 20) (.pointer (some ⟨q, 0, none⟩)) := ⟨_, rfl⟩
    rw [← e13] at hB
    rw [← e13]
    have z13 : a13.tmps.size = 31 := by rw [e13, put_size]; exact z12
    clear h8
    replace h19 : a13.tmps.getD 19 undef = lv2 := by rw [e13, put_ne _ _ _ _ (by decide)]; exact h19
    have h20 : a13.tmps.getD 20 undef = .pointer (some ⟨q, 0, none⟩) := by rw [e13]; exact put_same _ _ _ (by omega)
    clear e13 z12
    refine wpAnyH_take (i := 13) (oi := { dst := some 21, op := Op.fieldAddr 46 (Operand.tmp 20) 0, type := 0, pos := "script.go:39", after := #[{ on := 12, ground := Ground.data }, { on := 0, ground := Ground.phase }, { on := 1, ground := Ground.phase }, { on := 2, ground := Ground.phase }, { on := 3, ground := Ground.phase }, { on := 4, ground := Ground.phase }, { on := 5, ground := Ground.phase }, { on := 6, ground := Ground.phase }, { on := 7, ground := Ground.phase }, { on := 8, ground := Ground.phase }, { on := 9, ground := Ground.phase }, { on := 10, ground := Ground.phase }, { on := 11, ground := Ground.phase }], guard := none }) (v := .pointer (some ⟨q, 0, none⟩)) rfl (by kernel_rfl) (by kernel_rfl) (by kernel_rfl) (fun _ _ _ h => h) (Or.inl ⟨by rfl, fun w1 hw => exec_fieldAt rfl (h20) (fa_46_0 _ _)⟩) hHeld ?_
    change wpAnyH _ _ _ _ _ _ _ (a13.put (some 21) (.pointer (some ⟨q, 0, none⟩))) _
    obtain ⟨a14, e14⟩ : ∃ act, act = a13.put (some 21) (.pointer (some ⟨q, 0, none⟩)) := ⟨_, rfl⟩
    rw [← e14] at hB
    rw [← e14]
    have z14 : a14.tmps.size = 31 := by rw [e14, put_size]; exact z13
    replace h19 : a14.tmps.getD 19 undef = lv2 := by rw [e14, put_ne _ _ _ _ (by decide)]; exact h19
    clear h20
    have h21 : a14.tmps.getD 21 undef = .pointer (some ⟨q, 0, none⟩) := by rw [e14]; exact put_same _ _ _ (by omega)
    clear e14 z13
    refine wpAnyH_ready (rs := [14]) (by kernel_rfl) (by simp) ?_
    refine AllReadyH.cons (o := { dst := none, op := Op.store 23 (Operand.tmp 21) (Operand.tmp 19), type := 0, pos := "script.go:39", after := #[{ on := 13, ground := Ground.data }, { on := 11, ground := Ground.data }, { on := 11, ground := Ground.chain }, { on := 0, ground := Ground.phase }, { on := 1, ground := Ground.phase }, { on := 2, ground := Ground.phase }, { on := 3, ground := Ground.phase }, { on := 4, ground := Ground.phase }, { on := 5, ground := Ground.phase }, { on := 6, ground := Ground.phase }, { on := 7, ground := Ground.phase }, { on := 8, ground := Ground.phase }, { on := 9, ground := Ground.phase }, { on := 10, ground := Ground.phase }, { on := 11, ground := Ground.phase }], guard := none }) rfl (fun K hK => ?_) AllReadyH.nil
    have X := exec_store (P := Tryd.prog) (a := a14) (o := { dst := none, op := Op.store 23 (Operand.tmp 21) (Operand.tmp 19), type := 0, pos := "script.go:39", after := #[{ on := 13, ground := Ground.data }, { on := 11, ground := Ground.data }, { on := 11, ground := Ground.chain }, { on := 0, ground := Ground.phase }, { on := 1, ground := Ground.phase }, { on := 2, ground := Ground.phase }, { on := 3, ground := Ground.phase }, { on := 4, ground := Ground.phase }, { on := 5, ground := Ground.phase }, { on := 6, ground := Ground.phase }, { on := 7, ground := Ground.phase }, { on := 8, ground := Ground.phase }, { on := 9, ground := Ground.phase }, { on := 10, ground := Ground.phase }, { on := 11, ground := Ground.phase }], guard := none }) rfl (h21) (h19) H14
    rw [if_pos (show Region.wanted { dst := none, op := Op.store 23 (Operand.tmp 21) (Operand.tmp 19), type := 0, pos := "script.go:39", after := #[{ on := 13, ground := Ground.data }, { on := 11, ground := Ground.data }, { on := 11, ground := Ground.chain }, { on := 0, ground := Ground.phase }, { on := 1, ground := Ground.phase }, { on := 2, ground := Ground.phase }, { on := 3, ground := Ground.phase }, { on := 4, ground := Ground.phase }, { on := 5, ground := Ground.phase }, { on := 6, ground := Ground.phase }, { on := 7, ground := Ground.phase }, { on := 8, ground := Ground.phase }, { on := 9, ground := Ground.phase }, { on := 10, ground := Ground.phase }, { on := 11, ground := Ground.phase }], guard := none } (yielded patch2_ops a14.tmps) = true from rfl), Oper.wp, X]
    show K a14 w3
    clear X
    refine hK.out _ _ S3 (fun hHeld => ?_)
    clear hK K
    clear h19
    clear h21
    exact wpAnyH_done (by kernel_rfl) (NoPanic.normal (hB _ rfl)) _
end Go.Proofs.YtefoipjbbfcjhaaDoor
