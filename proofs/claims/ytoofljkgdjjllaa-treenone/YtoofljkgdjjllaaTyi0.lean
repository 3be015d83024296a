import Derived.Test.YtoofljkgdjjllaaTyi
namespace Go.Proofs.Ytoofljkgdjjllaa
open Go.RowKit
set_option linter.unusedVariables false
set_option linter.unusedSimpArgs false

def row5_ops : Array Oper := #[{ dst := some 26, op := Op.move (Operand.tmp 5), type := 106, pos := "tell.go:80", after := #[], guard := none }, { dst := some 27, op := Op.load 37 (Operand.tmp 6), type := 37, pos := "tell.go:80", after := #[], guard := none }, { dst := some 28, op := Op.move (Operand.tmp 0), type := 25, pos := "tell.go:80", after := #[], guard := none }, { dst := some 29, op := Op.nilCheck (Operand.tmp 28), type := 0, pos := "tell.go:80", after := #[{ on := 2, ground := Ground.data }], guard := none }, { dst := some 30, op := Op.fieldAddr 82 (Operand.tmp 29) 0, type := 0, pos := "tell.go:80", after := #[{ on := 3, ground := Ground.data }], guard := none }, { dst := some 31, op := Op.load 79 (Operand.tmp 30), type := 79, pos := "tell.go:80", after := #[{ on := 4, ground := Ground.data }], guard := none }, { dst := some 32, op := Op.load 37 (Operand.tmp 6), type := 37, pos := "tell.go:80", after := #[], guard := none }, { dst := some 33, op := Op.lookup 79 (Operand.tmp 31) (Operand.tmp 32) false, type := 94, pos := "tell.go:80", after := #[{ on := 5, ground := Ground.data }, { on := 6, ground := Ground.data }], guard := none }, { dst := some 34, op := Op.field 94 (Operand.tmp 33) 1, type := 9, pos := "tell.go:80", after := #[{ on := 7, ground := Ground.data }], guard := none }, { dst := some 35, op := Op.build 109 #[(0, Operand.tmp 27), (1, Operand.tmp 34)], type := 109, pos := "tell.go:80", after := #[{ on := 1, ground := Ground.data }, { on := 8, ground := Ground.data }], guard := none }, { dst := some 36, op := Op.buildSlice 106 1 #[(0, Operand.tmp 35)], type := 106, pos := "tell.go:80", after := #[{ on := 9, ground := Ground.data }], guard := none }, { dst := some 37, op := Op.call { callee := Callee.builtin Builtin.append, args := #[Operand.tmp 26, Operand.tmp 36], argTypes := #[106, 106] }, type := 106, pos := "tell.go:80", after := #[{ on := 0, ground := Ground.data }, { on := 10, ground := Ground.data }], guard := none }, { dst := some 5, op := Op.assign (Operand.tmp 37), type := 106, pos := "tell.go:80", after := #[{ on := 11, ground := Ground.data }, { on := 11, ground := Ground.chain }, { on := 0, ground := Ground.phase }, { on := 1, ground := Ground.phase }, { on := 2, ground := Ground.phase }, { on := 3, ground := Ground.phase }, { on := 4, ground := Ground.phase }, { on := 5, ground := Ground.phase }, { on := 6, ground := Ground.phase }, { on := 7, ground := Ground.phase }, { on := 8, ground := Ground.phase }, { on := 9, ground := Ground.phase }, { on := 10, ground := Ground.phase }, { on := 11, ground := Ground.phase }], guard := none }]
theorem row5 (t bi : Nat) (uv kv mv nv sv dv lv rv : Value) (w1 w2 : World) (S : World → Prop) (a : Act) (w : World) (Q : Exit → Act → World → Prop) (hsz : a.tmps.size = 41)
    (h5 : a.tmps.getD 5 undef = uv)
    (h6 : a.tmps.getD 6 undef = .pointer (some ⟨bi, 0, none⟩))
    (h0 : a.tmps.getD 0 undef = .pointer (some ⟨t, 0, none⟩))
    (hS0 : S w.drew)
    (H1 : ∀ wx, S wx → (Instr.loadAt 37 (.pointer (some ⟨bi, 0, none⟩))).run Try.prog wx = .ok (kv) wx)
    (H5 : ∀ wx, S wx → (Instr.loadAt 79 (.pointer (some ⟨t, 0, none⟩))).run Try.prog wx = .ok (mv) wx)
    (H6 : ∀ wx, S wx → (Instr.loadAt 37 (.pointer (some ⟨bi, 0, none⟩))).run Try.prog wx = .ok (kv) wx)
    (H7 : ∀ wx, S wx → (Instr.lookup 79 (mv) (kv) false).run Try.prog wx = .ok (nv) wx)
    (H8 : ∀ wx, (Instr.field 94 (nv) 1).run Try.prog wx = .ok (sv) wx)
    (H9 : ∀ wx, (Instr.build 109 #[(0, kv), (1, sv)]).run Try.prog wx = .ok (dv) wx)
    (H10 : (Instr.buildSlice 106 1 #[(0, dv)]).run Try.prog (w.drew) = .ok (lv) w1) (S1 : S w1)
    (H11 : (Builtin.append_ #[106, 106] 106 #[uv, lv]).run Try.prog (w1) = .ok (rv) w2) (S2 : S w2)
    (h : ∀ (a' : Act), a' = (((((((((((((a).put (some 26) (uv)).put (some 27) (kv)).put (some 28) (.pointer (some ⟨t, 0, none⟩))).put (some 29) (.pointer (some ⟨t, 0, none⟩))).put (some 30) (.pointer (some ⟨t, 0, none⟩))).put (some 31) (mv)).put (some 32) (kv)).put (some 33) (nv)).put (some 34) (sv)).put (some 35) (dv)).put (some 36) (lv)).put (some 37) (rv)).put (some 5) (rv) → Q .normal a' w2) :
    (Code.region 5 row5_ops true).wp Try.prog Q a w := by
  refine wp_region_noPanic ?_
  refine wp_region_held_drew (S := S) (by kernel_rfl) hS0 (fun hHeld => ?_)
  refine wpAnyH_take (i := 0) (oi := { dst := some 26, op := Op.move (Operand.tmp 5), type := 106, pos := "tell.go:80", after := #[], guard := none }) (v := uv) rfl (by kernel_rfl) (by kernel_rfl) (by kernel_rfl) (fun _ _ _ h => h) (Or.inl ⟨by rfl, fun w1 hw => exec_move rfl (h5)⟩) hHeld ?_
  change wpAnyH _ _ _ _ _ _ _ (a.put (some 26) (uv)) _
  obtain ⟨a1, e1⟩ : ∃ act, act = a.put (some 26) (uv) := ⟨_, rfl⟩
  rw [← e1] at h ⊢
  have z1 : a1.tmps.size = 41 := by rw [e1, put_size]; exact hsz
  clear h5
  replace h6 : a1.tmps.getD 6 undef = .pointer (some ⟨bi, 0, none⟩) := by rw [e1, put_ne _ _ _ _ (by decide)]; exact h6
  replace h0 : a1.tmps.getD 0 undef = .pointer (some ⟨t, 0, none⟩) := by rw [e1, put_ne _ _ _ _ (by decide)]; exact h0
  have h26 : a1.tmps.getD 26 undef = uv := by rw [e1]; exact put_same _ _ _ (by omega)
  clear e1 hsz
  refine wpAnyH_take (i := 1) (oi := { dst := some 27, op := Op.load 37 (Operand.tmp 6), type := 37, pos := "tell.go:80", after := #[], guard := none }) (v := kv) rfl (by kernel_rfl) (by kernel_rfl) (by kernel_rfl) (fun _ _ _ h => h) (Or.inl ⟨by rfl, fun w1 hw => exec_load rfl (h6) (H1 _ hw)⟩) hHeld ?_
  change wpAnyH _ _ _ _ _ _ _ (a1.put (some 27) (kv)) _
  obtain ⟨a2, e2⟩ : ∃ act, act = a1.put (some 27) (kv) := ⟨_, rfl⟩
  rw [← e2] at h ⊢
  have z2 : a2.tmps.size = 41 := by rw [e2, put_size]; exact z1
  replace h6 : a2.tmps.getD 6 undef = .pointer (some ⟨bi, 0, none⟩) := by rw [e2, put_ne _ _ _ _ (by decide)]; exact h6
  replace h0 : a2.tmps.getD 0 undef = .pointer (some ⟨t, 0, none⟩) := by rw [e2, put_ne _ _ _ _ (by decide)]; exact h0
  replace h26 : a2.tmps.getD 26 undef = uv := by rw [e2, put_ne _ _ _ _ (by decide)]; exact h26
  have h27 : a2.tmps.getD 27 undef = kv := by rw [e2]; exact put_same _ _ _ (by omega)
  clear e2 z1
  refine wpAnyH_take (i := 2) (oi := { dst := some 28, op := Op.move (Operand.tmp 0), type := 25, pos := "tell.go:80", after := #[], guard := none }) (v := .pointer (some ⟨t, 0, none⟩)) rfl (by kernel_rfl) (by kernel_rfl) (by kernel_rfl) (fun _ _ _ h => h) (Or.inl ⟨by rfl, fun w1 hw => exec_move rfl (h0)⟩) hHeld ?_
  change wpAnyH _ _ _ _ _ _ _ (a2.put (some 28) (.pointer (some ⟨t, 0, none⟩))) _
  obtain ⟨a3, e3⟩ : ∃ act, act = a2.put (some 28) (.pointer (some ⟨t, 0, none⟩)) := ⟨_, rfl⟩
  rw [← e3] at h ⊢
  have z3 : a3.tmps.size = 41 := by rw [e3, put_size]; exact z2
  replace h6 : a3.tmps.getD 6 undef = .pointer (some ⟨bi, 0, none⟩) := by rw [e3, put_ne _ _ _ _ (by decide)]; exact h6
  clear h0
  replace h26 : a3.tmps.getD 26 undef = uv := by rw [e3, put_ne _ _ _ _ (by decide)]; exact h26
  replace h27 : a3.tmps.getD 27 undef = kv := by rw [e3, put_ne _ _ _ _ (by decide)]; exact h27
  have h28 : a3.tmps.getD 28 undef = .pointer (some ⟨t, 0, none⟩) := by rw [e3]; exact put_same _ _ _ (by omega)
  clear e3 z2
  refine wpAnyH_take (i := 3) (oi := { dst := some 29, op := Op.nilCheck (Operand.tmp 28), type := 0, pos := "tell.go:80", after := #[{ on := 2, ground := Ground.data }], guard := none }) (v := .pointer (some ⟨t, 0, none⟩)) rfl (by kernel_rfl) (by kernel_rfl) (by kernel_rfl) (fun _ _ _ h => h) (Or.inl ⟨by rfl, fun w1 hw => exec_nilCheck rfl (h28)⟩) hHeld ?_
  change wpAnyH _ _ _ _ _ _ _ (a3.put (some 29) (.pointer (some ⟨t, 0, none⟩))) _
  obtain ⟨a4, e4⟩ : ∃ act, act = a3.put (some 29) (.pointer (some ⟨t, 0, none⟩)) := ⟨_, rfl⟩
  rw [← e4] at h ⊢
  have z4 : a4.tmps.size = 41 := by rw [e4, put_size]; exact z3
  replace h6 : a4.tmps.getD 6 undef = .pointer (some ⟨bi, 0, none⟩) := by rw [e4, put_ne _ _ _ _ (by decide)]; exact h6
  replace h26 : a4.tmps.getD 26 undef = uv := by rw [e4, put_ne _ _ _ _ (by decide)]; exact h26
  replace h27 : a4.tmps.getD 27 undef = kv := by rw [e4, put_ne _ _ _ _ (by decide)]; exact h27
  clear h28
  have h29 : a4.tmps.getD 29 undef = .pointer (some ⟨t, 0, none⟩) := by rw [e4]; exact put_same _ _ _ (by omega)
  clear e4 z3
  refine wpAnyH_take (i := 4) (oi := { dst := some 30, op := Op.fieldAddr 82 (Operand.tmp 29) 0, type := 0, pos := "tell.go:80", after := #[{ on := 3, ground := Ground.data }], guard := none }) (v := .pointer (some ⟨t, 0, none⟩)) rfl (by kernel_rfl) (by kernel_rfl) (by kernel_rfl) (fun _ _ _ h => h) (Or.inl ⟨by rfl, fun w1 hw => exec_fieldAt rfl (h29) (fa_82_0 _ _)⟩) hHeld ?_
  change wpAnyH _ _ _ _ _ _ _ (a4.put (some 30) (.pointer (some ⟨t, 0, none⟩))) _
  obtain ⟨a5, e5⟩ : ∃ act, act = a4.put (some 30) (.pointer (some ⟨t, 0, none⟩)) := ⟨_, rfl⟩
  rw [← e5] at h ⊢
  have z5 : a5.tmps.size = 41 := by rw [e5, put_size]; exact z4
  replace h6 : a5.tmps.getD 6 undef = .pointer (some ⟨bi, 0, none⟩) := by rw [e5, put_ne _ _ _ _ (by decide)]; exact h6
  replace h26 : a5.tmps.getD 26 undef = uv := by rw [e5, put_ne _ _ _ _ (by decide)]; exact h26
  replace h27 : a5.tmps.getD 27 undef = kv := by rw [e5, put_ne _ _ _ _ (by decide)]; exact h27
  clear h29
  have h30 : a5.tmps.getD 30 undef = .pointer (some ⟨t, 0, none⟩) := by rw [e5]; exact put_same _ _ _ (by omega)
  clear e5 z4
  refine wpAnyH_take (i := 5) (oi := { dst := some 31, op := Op.load 79 (Operand.tmp 30), type := 79, pos := "tell.go:80", after := #[{ on := 4, ground := Ground.data }], guard := none }) (v := mv) rfl (by kernel_rfl) (by kernel_rfl) (by kernel_rfl) (fun _ _ _ h => h) (Or.inl ⟨by rfl, fun w1 hw => exec_load rfl (h30) (H5 _ hw)⟩) hHeld ?_
  change wpAnyH _ _ _ _ _ _ _ (a5.put (some 31) (mv)) _
  obtain ⟨a6, e6⟩ : ∃ act, act = a5.put (some 31) (mv) := ⟨_, rfl⟩
  rw [← e6] at h ⊢
  have z6 : a6.tmps.size = 41 := by rw [e6, put_size]; exact z5
  replace h6 : a6.tmps.getD 6 undef = .pointer (some ⟨bi, 0, none⟩) := by rw [e6, put_ne _ _ _ _ (by decide)]; exact h6
  replace h26 : a6.tmps.getD 26 undef = uv := by rw [e6, put_ne _ _ _ _ (by decide)]; exact h26
  replace h27 : a6.tmps.getD 27 undef = kv := by rw [e6, put_ne _ _ _ _ (by decide)]; exact h27
  clear h30
  have h31 : a6.tmps.getD 31 undef = mv := by rw [e6]; exact put_same _ _ _ (by omega)
  clear e6 z5
  refine wpAnyH_take (i := 6) (oi := { dst := some 32, op := Op.load 37 (Operand.tmp 6), type := 37, pos := "tell.go:80", after := #[], guard := none }) (v := kv) rfl (by kernel_rfl) (by kernel_rfl) (by kernel_rfl) (fun _ _ _ h => h) (Or.inl ⟨by rfl, fun w1 hw => exec_load rfl (h6) (H6 _ hw)⟩) hHeld ?_
  change wpAnyH _ _ _ _ _ _ _ (a6.put (some 32) (kv)) _
  obtain ⟨a7, e7⟩ : ∃ act, act = a6.put (some 32) (kv) := ⟨_, rfl⟩
  rw [← e7] at h ⊢
  have z7 : a7.tmps.size = 41 := by rw [e7, put_size]; exact z6
  clear h6
  replace h26 : a7.tmps.getD 26 undef = uv := by rw [e7, put_ne _ _ _ _ (by decide)]; exact h26
  replace h27 : a7.tmps.getD 27 undef = kv := by rw [e7, put_ne _ _ _ _ (by decide)]; exact h27
  replace h31 : a7.tmps.getD 31 undef = mv := by rw [e7, put_ne _ _ _ _ (by decide)]; exact h31
  have h32 : a7.tmps.getD 32 undef = kv := by rw [e7]; exact put_same _ _ _ (by omega)
  clear e7 z6
  refine wpAnyH_take (i := 7) (oi := { dst := some 33, op := Op.lookup 79 (Operand.tmp 31) (Operand.tmp 32) false, type := 94, pos := "tell.go:80", after := #[{ on := 5, ground := Ground.data }, { on := 6, ground := Ground.data }], guard := none }) (v := nv) rfl (by kernel_rfl) (by kernel_rfl) (by kernel_rfl) (fun _ _ _ h => h) (Or.inl ⟨by rfl, fun w1 hw => exec_lookup rfl (h31) (h32) (H7 _ hw)⟩) hHeld ?_
  change wpAnyH _ _ _ _ _ _ _ (a7.put (some 33) (nv)) _
  obtain ⟨a8, e8⟩ : ∃ act, act = a7.put (some 33) (nv) := ⟨_, rfl⟩
  rw [← e8] at h ⊢
  have z8 : a8.tmps.size = 41 := by rw [e8, put_size]; exact z7
  replace h26 : a8.tmps.getD 26 undef = uv := by rw [e8, put_ne _ _ _ _ (by decide)]; exact h26
  replace h27 : a8.tmps.getD 27 undef = kv := by rw [e8, put_ne _ _ _ _ (by decide)]; exact h27
  clear h31
  clear h32
  have h33 : a8.tmps.getD 33 undef = nv := by rw [e8]; exact put_same _ _ _ (by omega)
  clear e8 z7
  refine wpAnyH_take (i := 8) (oi := { dst := some 34, op := Op.field 94 (Operand.tmp 33) 1, type := 9, pos := "tell.go:80", after := #[{ on := 7, ground := Ground.data }], guard := none }) (v := sv) rfl (by kernel_rfl) (by kernel_rfl) (by kernel_rfl) (fun _ _ _ h => h) (Or.inl ⟨by rfl, fun w1 hw => exec_field rfl (h33) (H8 _)⟩) hHeld ?_
  change wpAnyH _ _ _ _ _ _ _ (a8.put (some 34) (sv)) _
  obtain ⟨a9, e9⟩ : ∃ act, act = a8.put (some 34) (sv) := ⟨_, rfl⟩
  rw [← e9] at h ⊢
  have z9 : a9.tmps.size = 41 := by rw [e9, put_size]; exact z8
  replace h26 : a9.tmps.getD 26 undef = uv := by rw [e9, put_ne _ _ _ _ (by decide)]; exact h26
  replace h27 : a9.tmps.getD 27 undef = kv := by rw [e9, put_ne _ _ _ _ (by decide)]; exact h27
  clear h33
  have h34 : a9.tmps.getD 34 undef = sv := by rw [e9]; exact put_same _ _ _ (by omega)
  clear e9 z8
  refine wpAnyH_take (i := 9) (oi := { dst := some 35, op := Op.build 109 #[(0, Operand.tmp 27), (1, Operand.tmp 34)], type := 109, pos := "tell.go:80", after := #[{ on := 1, ground := Ground.data }, { on := 8, ground := Ground.data }], guard := none }) (v := dv) rfl (by kernel_rfl) (by kernel_rfl) (by kernel_rfl) (fun _ _ _ h => h) (Or.inl ⟨by rfl, fun w1 hw => exec_build rfl (by rw [List.map_toArray]; show [(0, a9.tmps.getD 27 undef), (1, a9.tmps.getD 34 undef)].toArray = _; rw [h27, h34]) (H9 _)⟩) hHeld ?_
  change wpAnyH _ _ _ _ _ _ _ (a9.put (some 35) (dv)) _
  obtain ⟨a10, e10⟩ : ∃ act, act = a9.put (some 35) (dv) := ⟨_, rfl⟩
  rw [← e10] at h ⊢
  have z10 : a10.tmps.size = 41 := by rw [e10, put_size]; exact z9
  replace h26 : a10.tmps.getD 26 undef = uv := by rw [e10, put_ne _ _ _ _ (by decide)]; exact h26
  clear h27
  clear h34
  have h35 : a10.tmps.getD 35 undef = dv := by rw [e10]; exact put_same _ _ _ (by omega)
  clear e10 z9
  refine wpAnyH_ready (rs := [10]) (by kernel_rfl) (by simp) ?_
  refine AllReadyH.cons (o := { dst := some 36, op := Op.buildSlice 106 1 #[(0, Operand.tmp 35)], type := 106, pos := "tell.go:80", after := #[{ on := 9, ground := Ground.data }], guard := none }) rfl (fun K hK => ?_) AllReadyH.nil
  have X := exec_buildSlice (P := Try.prog) (a := a10) (o := { dst := some 36, op := Op.buildSlice 106 1 #[(0, Operand.tmp 35)], type := 106, pos := "tell.go:80", after := #[{ on := 9, ground := Ground.data }], guard := none }) rfl (h35) H10
  rw [if_pos (show Region.wanted { dst := some 36, op := Op.buildSlice 106 1 #[(0, Operand.tmp 35)], type := 106, pos := "tell.go:80", after := #[{ on := 9, ground := Ground.data }], guard := none } (yielded row5_ops (a10).tmps) = true from rfl), Oper.wp, X]
  show K _ _
  clear X
  refine hK.out _ _ S1 (fun hHeld => ?_)
  clear hK K
  change wpAnyH _ _ _ _ _ _ _ (a10.put (some 36) (lv)) _
  obtain ⟨a11, e11⟩ : ∃ act, act = a10.put (some 36) (lv) := ⟨_, rfl⟩
  rw [← e11] at h ⊢
  have z11 : a11.tmps.size = 41 := by rw [e11, put_size]; exact z10
  replace h26 : a11.tmps.getD 26 undef = uv := by rw [e11, put_ne _ _ _ _ (by decide)]; exact h26
  clear h35
  have h36 : a11.tmps.getD 36 undef = lv := by rw [e11]; exact put_same _ _ _ (by omega)
  clear e11 z10
  refine wpAnyH_ready (rs := [11]) (by kernel_rfl) (by simp) ?_
  refine AllReadyH.cons (o := { dst := some 37, op := Op.call { callee := Callee.builtin Builtin.append, args := #[Operand.tmp 26, Operand.tmp 36], argTypes := #[106, 106] }, type := 106, pos := "tell.go:80", after := #[{ on := 0, ground := Ground.data }, { on := 10, ground := Ground.data }], guard := none }) rfl (fun K hK => ?_) AllReadyH.nil
  have X := exec_append (P := Try.prog) (a := a11) (o := { dst := some 37, op := Op.call { callee := Callee.builtin Builtin.append, args := #[Operand.tmp 26, Operand.tmp 36], argTypes := #[106, 106] }, type := 106, pos := "tell.go:80", after := #[{ on := 0, ground := Ground.data }, { on := 10, ground := Ground.data }], guard := none }) rfl (h26) (h36) H11
  rw [if_pos (show Region.wanted { dst := some 37, op := Op.call { callee := Callee.builtin Builtin.append, args := #[Operand.tmp 26, Operand.tmp 36], argTypes := #[106, 106] }, type := 106, pos := "tell.go:80", after := #[{ on := 0, ground := Ground.data }, { on := 10, ground := Ground.data }], guard := none } (yielded row5_ops (a11).tmps) = true from rfl), Oper.wp, X]
  show K _ _
  clear X
  refine hK.out _ _ S2 (fun hHeld => ?_)
  clear hK K
  change wpAnyH _ _ _ _ _ _ _ (a11.put (some 37) (rv)) _
  obtain ⟨a12, e12⟩ : ∃ act, act = a11.put (some 37) (rv) := ⟨_, rfl⟩
  rw [← e12] at h ⊢
  have z12 : a12.tmps.size = 41 := by rw [e12, put_size]; exact z11
  clear h26
  clear h36
  have h37 : a12.tmps.getD 37 undef = rv := by rw [e12]; exact put_same _ _ _ (by omega)
  clear e12 z11
  refine wpAnyH_take (i := 12) (oi := { dst := some 5, op := Op.assign (Operand.tmp 37), type := 106, pos := "tell.go:80", after := #[{ on := 11, ground := Ground.data }, { on := 11, ground := Ground.chain }, { on := 0, ground := Ground.phase }, { on := 1, ground := Ground.phase }, { on := 2, ground := Ground.phase }, { on := 3, ground := Ground.phase }, { on := 4, ground := Ground.phase }, { on := 5, ground := Ground.phase }, { on := 6, ground := Ground.phase }, { on := 7, ground := Ground.phase }, { on := 8, ground := Ground.phase }, { on := 9, ground := Ground.phase }, { on := 10, ground := Ground.phase }, { on := 11, ground := Ground.phase }], guard := none }) (v := rv) rfl (by kernel_rfl) (by kernel_rfl) (by kernel_rfl) (fun _ _ _ h => h) (Or.inl ⟨by rfl, fun w1 hw => exec_assign rfl (h37)⟩) hHeld ?_
  change wpAnyH _ _ _ _ _ _ _ (a12.put (some 5) (rv)) _
  obtain ⟨a13, e13⟩ : ∃ act, act = a12.put (some 5) (rv) := ⟨_, rfl⟩
  rw [← e13] at h ⊢
  have z13 : a13.tmps.size = 41 := by rw [e13, put_size]; exact z12
  clear h37
  clear e13 z12
  exact wpAnyH_done (by kernel_rfl) (NoPanic.normal (h _ rfl)) _
end Go.Proofs.Ytoofljkgdjjllaa
