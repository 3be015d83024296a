import Derived.Test.YtoofljkgdjjllaaTo
namespace Go.Proofs.Ytoofljkgdjjllaa
open Go.RowKit
set_option linter.unusedVariables false
set_option linter.unusedSimpArgs false

def growb1_ops : Array Oper := #[{ dst := some 6, op := Op.move (Operand.tmp 0), type := 25, pos := "tree.go:62", after := #[], guard := none }, { dst := some 7, op := Op.nilCheck (Operand.tmp 6), type := 0, pos := "tree.go:62", after := #[{ on := 0, ground := Ground.data }], guard := none }, { dst := some 8, op := Op.fieldAddr 82 (Operand.tmp 7) 0, type := 0, pos := "tree.go:62", after := #[{ on := 1, ground := Ground.data }], guard := none }, { dst := some 9, op := Op.load 79 (Operand.tmp 8), type := 79, pos := "tree.go:62", after := #[{ on := 2, ground := Ground.data }], guard := none }, { dst := some 10, op := Op.load 37 (Operand.tmp 1), type := 37, pos := "tree.go:62", after := #[], guard := none }, { dst := none, op := Op.call { callee := Callee.builtin Builtin.delete, args := #[Operand.tmp 9, Operand.tmp 10], argTypes := #[79, 37] }, type := 0, pos := "tree.go:62", after := #[{ on := 3, ground := Ground.data }, { on := 4, ground := Ground.data }], guard := none }]
theorem growb1 (t bi : Nat) (mv kv : Value) (w1 : World) (S : World → Prop) (a : Act) (w : World) (Q : Exit → Act → World → Prop) (hsz : a.tmps.size = 11)
    (h0 : a.tmps.getD 0 undef = .pointer (some ⟨t, 0, none⟩))
    (h1 : a.tmps.getD 1 undef = .pointer (some ⟨bi, 0, none⟩))
    (hS0 : S w.drew)
    (H3 : ∀ wx, S wx → (Instr.loadAt 79 (.pointer (some ⟨t, 0, none⟩))).run Try.prog wx = .ok (mv) wx)
    (H4 : ∀ wx, S wx → (Instr.loadAt 37 (.pointer (some ⟨bi, 0, none⟩))).run Try.prog wx = .ok (kv) wx)
    (H5 : (Builtin.delete_ #[79, 37] 0 #[mv, kv]).run Try.prog (w.drew) = .ok (.tuple #[]) w1) (S1 : S w1)
    (h : ∀ (a' : Act), a' = (((((a).put (some 6) (.pointer (some ⟨t, 0, none⟩))).put (some 7) (.pointer (some ⟨t, 0, none⟩))).put (some 8) (.pointer (some ⟨t, 0, none⟩))).put (some 9) (mv)).put (some 10) (kv) → Q .normal a' w1) :
    (Code.region 1 growb1_ops true).wp Try.prog Q a w := by
  refine wp_region_noPanic ?_
  refine wp_region_held_drew (S := S) (by kernel_rfl) hS0 (fun hHeld => ?_)
  refine wpAnyH_take (i := 0) (oi := { dst := some 6, op := Op.move (Operand.tmp 0), type := 25, pos := "tree.go:62", after := #[], guard := none }) (v := .pointer (some ⟨t, 0, none⟩)) rfl (by kernel_rfl) (by kernel_rfl) (by kernel_rfl) (fun _ _ _ h => h) (Or.inl ⟨by rfl, fun w1 hw => exec_move rfl (h0)⟩) hHeld ?_
  change wpAnyH _ _ _ _ _ _ _ (a.put (some 6) (.pointer (some ⟨t, 0, none⟩))) _
  obtain ⟨a1, e1⟩ : ∃ act, act = a.put (some 6) (.pointer (some ⟨t, 0, none⟩)) := ⟨_, rfl⟩
  rw [← e1] at h ⊢
  have z1 : a1.tmps.size = 11 := by rw [e1, put_size]; exact hsz
  clear h0
  replace h1 : a1.tmps.getD 1 undef = .pointer (some ⟨bi, 0, none⟩) := by rw [e1, put_ne _ _ _ _ (by decide)]; exact h1
  have h6 : a1.tmps.getD 6 undef = .pointer (some ⟨t, 0, none⟩) := by rw [e1]; exact put_same _ _ _ (by omega)
  clear e1 hsz
  refine wpAnyH_take (i := 1) (oi := { dst := some 7, op := Op.nilCheck (Operand.tmp 6), type := 0, pos := "tree.go:62", after := #[{ on := 0, ground := Ground.data }], guard := none }) (v := .pointer (some ⟨t, 0, none⟩)) rfl (by kernel_rfl) (by kernel_rfl) (by kernel_rfl) (fun _ _ _ h => h) (Or.inl ⟨by rfl, fun w1 hw => exec_nilCheck rfl (h6)⟩) hHeld ?_
  change wpAnyH _ _ _ _ _ _ _ (a1.put (some 7) (.pointer (some ⟨t, 0, none⟩))) _
  obtain ⟨a2, e2⟩ : ∃ act, act = a1.put (some 7) (.pointer (some ⟨t, 0, none⟩)) := ⟨_, rfl⟩
  rw [← e2] at h ⊢
  have z2 : a2.tmps.size = 11 := by rw [e2, put_size]; exact z1
  replace h1 : a2.tmps.getD 1 undef = .pointer (some ⟨bi, 0, none⟩) := by rw [e2, put_ne _ _ _ _ (by decide)]; exact h1
  clear h6
  have h7 : a2.tmps.getD 7 undef = .pointer (some ⟨t, 0, none⟩) := by rw [e2]; exact put_same _ _ _ (by omega)
  clear e2 z1
  refine wpAnyH_take (i := 2) (oi := { dst := some 8, op := Op.fieldAddr 82 (Operand.tmp 7) 0, type := 0, pos := "tree.go:62", after := #[{ on := 1, ground := Ground.data }], guard := none }) (v := .pointer (some ⟨t, 0, none⟩)) rfl (by kernel_rfl) (by kernel_rfl) (by kernel_rfl) (fun _ _ _ h => h) (Or.inl ⟨by rfl, fun w1 hw => exec_fieldAt rfl (h7) (fa_82_0 _ _)⟩) hHeld ?_
  change wpAnyH _ _ _ _ _ _ _ (a2.put (some 8) (.pointer (some ⟨t, 0, none⟩))) _
  obtain ⟨a3, e3⟩ : ∃ act, act = a2.put (some 8) (.pointer (some ⟨t, 0, none⟩)) := ⟨_, rfl⟩
  rw [← e3] at h ⊢
  have z3 : a3.tmps.size = 11 := by rw [e3, put_size]; exact z2
  replace h1 : a3.tmps.getD 1 undef = .pointer (some ⟨bi, 0, none⟩) := by rw [e3, put_ne _ _ _ _ (by decide)]; exact h1
  clear h7
  have h8 : a3.tmps.getD 8 undef = .pointer (some ⟨t, 0, none⟩) := by rw [e3]; exact put_same _ _ _ (by omega)
  clear e3 z2
  refine wpAnyH_take (i := 3) (oi := { dst := some 9, op := Op.load 79 (Operand.tmp 8), type := 79, pos := "tree.go:62", after := #[{ on := 2, ground := Ground.data }], guard := none }) (v := mv) rfl (by kernel_rfl) (by kernel_rfl) (by kernel_rfl) (fun _ _ _ h => h) (Or.inl ⟨by rfl, fun w1 hw => exec_load rfl (h8) (H3 _ hw)⟩) hHeld ?_
  change wpAnyH _ _ _ _ _ _ _ (a3.put (some 9) (mv)) _
  obtain ⟨a4, e4⟩ : ∃ act, act = a3.put (some 9) (mv) := ⟨_, rfl⟩
  rw [← e4] at h ⊢
  have z4 : a4.tmps.size = 11 := by rw [e4, put_size]; exact z3
  replace h1 : a4.tmps.getD 1 undef = .pointer (some ⟨bi, 0, none⟩) := by rw [e4, put_ne _ _ _ _ (by decide)]; exact h1
  clear h8
  have h9 : a4.tmps.getD 9 undef = mv := by rw [e4]; exact put_same _ _ _ (by omega)
  clear e4 z3
  refine wpAnyH_take (i := 4) (oi := { dst := some 10, op := Op.load 37 (Operand.tmp 1), type := 37, pos := "tree.go:62", after := #[], guard := none }) (v := kv) rfl (by kernel_rfl) (by kernel_rfl) (by kernel_rfl) (fun _ _ _ h => h) (Or.inl ⟨by rfl, fun w1 hw => exec_load rfl (h1) (H4 _ hw)⟩) hHeld ?_
  change wpAnyH _ _ _ _ _ _ _ (a4.put (some 10) (kv)) _
  obtain ⟨a5, e5⟩ : ∃ act, act = a4.put (some 10) (kv) := ⟨_, rfl⟩
  rw [← e5] at h ⊢
  have z5 : a5.tmps.size = 11 := by rw [e5, put_size]; exact z4
  clear h1
  replace h9 : a5.tmps.getD 9 undef = mv := by rw [e5, put_ne _ _ _ _ (by decide)]; exact h9
  have h10 : a5.tmps.getD 10 undef = kv := by rw [e5]; exact put_same _ _ _ (by omega)
  clear e5 z4
  refine wpAnyH_ready (rs := [5]) (by kernel_rfl) (by simp) ?_
  refine AllReadyH.cons (o := { dst := none, op := Op.call { callee := Callee.builtin Builtin.delete, args := #[Operand.tmp 9, Operand.tmp 10], argTypes := #[79, 37] }, type := 0, pos := "tree.go:62", after := #[{ on := 3, ground := Ground.data }, { on := 4, ground := Ground.data }], guard := none }) rfl (fun K hK => ?_) AllReadyH.nil
  have X := exec_delete (P := Try.prog) (a := a5) (o := { dst := none, op := Op.call { callee := Callee.builtin Builtin.delete, args := #[Operand.tmp 9, Operand.tmp 10], argTypes := #[79, 37] }, type := 0, pos := "tree.go:62", after := #[{ on := 3, ground := Ground.data }, { on := 4, ground := Ground.data }], guard := none }) rfl (h9) (h10) H5
  rw [if_pos (show Region.wanted { dst := none, op := Op.call { callee := Callee.builtin Builtin.delete, args := #[Operand.tmp 9, Operand.tmp 10], argTypes := #[79, 37] }, type := 0, pos := "tree.go:62", after := #[{ on := 3, ground := Ground.data }, { on := 4, ground := Ground.data }], guard := none } (yielded growb1_ops (a5).tmps) = true from rfl), Oper.wp, X]
  show K a5 w1
  clear X
  refine hK.out _ _ S1 (fun hHeld => ?_)
  clear hK K
  clear h9
  clear h10
  exact wpAnyH_done (by kernel_rfl) (NoPanic.normal (h _ rfl)) _
def put1_ops : Array Oper := #[{ dst := some 9, op := Op.move (Operand.tmp 0), type := 25, pos := "tree.go:105", after := #[], guard := none }, { dst := some 10, op := Op.nilCheck (Operand.tmp 9), type := 0, pos := "tree.go:105", after := #[{ on := 0, ground := Ground.data }], guard := none }, { dst := some 11, op := Op.fieldAddr 82 (Operand.tmp 10) 0, type := 0, pos := "tree.go:105", after := #[{ on := 1, ground := Ground.data }], guard := none }, { dst := some 12, op := Op.load 79 (Operand.tmp 11), type := 79, pos := "tree.go:105", after := #[{ on := 2, ground := Ground.data }], guard := none }, { dst := some 13, op := Op.load 37 (Operand.tmp 4), type := 37, pos := "tree.go:105", after := #[], guard := none }, { dst := some 14, op := Op.lookup 79 (Operand.tmp 12) (Operand.tmp 13) false, type := 94, pos := "tree.go:105", after := #[{ on := 3, ground := Ground.data }, { on := 4, ground := Ground.data }], guard := none }, { dst := some 8, op := Op.alloc 94, type := 0, pos := "tree.go:105", after := #[], guard := none }, { dst := none, op := Op.store 94 (Operand.tmp 8) (Operand.tmp 14), type := 0, pos := "tree.go:105", after := #[{ on := 6, ground := Ground.data }, { on := 5, ground := Ground.data }, { on := 0, ground := Ground.phase }, { on := 1, ground := Ground.phase }, { on := 2, ground := Ground.phase }, { on := 3, ground := Ground.phase }, { on := 4, ground := Ground.phase }, { on := 5, ground := Ground.phase }, { on := 6, ground := Ground.phase }], guard := none }]
theorem put1 (t bi nb : Nat) (mv kv nv : Value) (w1 w2 : World) (S : World → Prop) (a : Act) (w : World) (Q : Exit → Act → World → Prop) (hsz : a.tmps.size = 24)
    (h0 : a.tmps.getD 0 undef = .pointer (some ⟨t, 0, none⟩))
    (h4 : a.tmps.getD 4 undef = .pointer (some ⟨bi, 0, none⟩))
    (hS0 : S w.drew)
    (H3 : ∀ wx, S wx → (Instr.loadAt 79 (.pointer (some ⟨t, 0, none⟩))).run Try.prog wx = .ok (mv) wx)
    (H4 : ∀ wx, S wx → (Instr.loadAt 37 (.pointer (some ⟨bi, 0, none⟩))).run Try.prog wx = .ok (kv) wx)
    (H5 : ∀ wx, S wx → (Instr.lookup 79 (mv) (kv) false).run Try.prog wx = .ok (nv) wx)
    (H6 : (Instr.alloc 94 true (.tuple #[])).run Try.prog (w.drew) = .ok (.pointer (some ⟨nb, 0, none⟩)) w1) (S1 : S w1)
    (H7 : (Instr.storeAt 94 (.pointer (some ⟨nb, 0, none⟩)) (nv)).run Try.prog (w1) = .ok () w2) (S2 : S w2)
    (h : ∀ (a' : Act), a' = (((((((a).put (some 9) (.pointer (some ⟨t, 0, none⟩))).put (some 10) (.pointer (some ⟨t, 0, none⟩))).put (some 11) (.pointer (some ⟨t, 0, none⟩))).put (some 12) (mv)).put (some 13) (kv)).put (some 14) (nv)).put (some 8) (.pointer (some ⟨nb, 0, none⟩)) → Q .normal a' w2) :
    (Code.region 1 put1_ops true).wp Try.prog Q a w := by
  refine wp_region_noPanic ?_
  refine wp_region_held_drew (S := S) (by kernel_rfl) hS0 (fun hHeld => ?_)
  refine wpAnyH_take (i := 0) (oi := { dst := some 9, op := Op.move (Operand.tmp 0), type := 25, pos := "tree.go:105", after := #[], guard := none }) (v := .pointer (some ⟨t, 0, none⟩)) rfl (by kernel_rfl) (by kernel_rfl) (by kernel_rfl) (fun _ _ _ h => h) (Or.inl ⟨by rfl, fun w1 hw => exec_move rfl (h0)⟩) hHeld ?_
  change wpAnyH _ _ _ _ _ _ _ (a.put (some 9) (.pointer (some ⟨t, 0, none⟩))) _
  obtain ⟨a1, e1⟩ : ∃ act, act = a.put (some 9) (.pointer (some ⟨t, 0, none⟩)) := ⟨_, rfl⟩
  rw [← e1] at h ⊢
  have z1 : a1.tmps.size = 24 := by rw [e1, put_size]; exact hsz
  clear h0
  replace h4 : a1.tmps.getD 4 undef = .pointer (some ⟨bi, 0, none⟩) := by rw [e1, put_ne _ _ _ _ (by decide)]; exact h4
  have h9 : a1.tmps.getD 9 undef = .pointer (some ⟨t, 0, none⟩) := by rw [e1]; exact put_same _ _ _ (by omega)
  clear e1 hsz
  refine wpAnyH_take (i := 1) (oi := { dst := some 10, op := Op.nilCheck (Operand.tmp 9), type := 0, pos := "tree.go:105", after := #[{ on := 0, ground := Ground.data }], guard := none }) (v := .pointer (some ⟨t, 0, none⟩)) rfl (by kernel_rfl) (by kernel_rfl) (by kernel_rfl) (fun _ _ _ h => h) (Or.inl ⟨by rfl, fun w1 hw => exec_nilCheck rfl (h9)⟩) hHeld ?_
  change wpAnyH _ _ _ _ _ _ _ (a1.put (some 10) (.pointer (some ⟨t, 0, none⟩))) _
  obtain ⟨a2, e2⟩ : ∃ act, act = a1.put (some 10) (.pointer (some ⟨t, 0, none⟩)) := ⟨_, rfl⟩
  rw [← e2] at h ⊢
  have z2 : a2.tmps.size = 24 := by rw [e2, put_size]; exact z1
  replace h4 : a2.tmps.getD 4 undef = .pointer (some ⟨bi, 0, none⟩) := by rw [e2, put_ne _ _ _ _ (by decide)]; exact h4
  clear h9
  have h10 : a2.tmps.getD 10 undef = .pointer (some ⟨t, 0, none⟩) := by rw [e2]; exact put_same _ _ _ (by omega)
  clear e2 z1
  refine wpAnyH_take (i := 2) (oi := { dst := some 11, op := Op.fieldAddr 82 (Operand.tmp 10) 0, type := 0, pos := "tree.go:105", after := #[{ on := 1, ground := Ground.data }], guard := none }) (v := .pointer (some ⟨t, 0, none⟩)) rfl (by kernel_rfl) (by kernel_rfl) (by kernel_rfl) (fun _ _ _ h => h) (Or.inl ⟨by rfl, fun w1 hw => exec_fieldAt rfl (h10) (fa_82_0 _ _)⟩) hHeld ?_
  change wpAnyH _ _ _ _ _ _ _ (a2.put (some 11) (.pointer (some ⟨t, 0, none⟩))) _
  obtain ⟨a3, e3⟩ : ∃ act, act = a2.put (some 11) (.pointer (some ⟨t, 0, none⟩)) := ⟨_, rfl⟩
  rw [← e3] at h ⊢
  have z3 : a3.tmps.size = 24 := by rw [e3, put_size]; exact z2
  replace h4 : a3.tmps.getD 4 undef = .pointer (some ⟨bi, 0, none⟩) := by rw [e3, put_ne _ _ _ _ (by decide)]; exact h4
  clear h10
  have h11 : a3.tmps.getD 11 undef = .pointer (some ⟨t, 0, none⟩) := by rw [e3]; exact put_same _ _ _ (by omega)
  clear e3 z2
  refine wpAnyH_take (i := 3) (oi := { dst := some 12, op := Op.load 79 (Operand.tmp 11), type := 79, pos := "tree.go:105", after := #[{ on := 2, ground := Ground.data }], guard := none }) (v := mv) rfl (by kernel_rfl) (by kernel_rfl) (by kernel_rfl) (fun _ _ _ h => h) (Or.inl ⟨by rfl, fun w1 hw => exec_load rfl (h11) (H3 _ hw)⟩) hHeld ?_
  change wpAnyH _ _ _ _ _ _ _ (a3.put (some 12) (mv)) _
  obtain ⟨a4, e4⟩ : ∃ act, act = a3.put (some 12) (mv) := ⟨_, rfl⟩
  rw [← e4] at h ⊢
  have z4 : a4.tmps.size = 24 := by rw [e4, put_size]; exact z3
  replace h4 : a4.tmps.getD 4 undef = .pointer (some ⟨bi, 0, none⟩) := by rw [e4, put_ne _ _ _ _ (by decide)]; exact h4
  clear h11
  have h12 : a4.tmps.getD 12 undef = mv := by rw [e4]; exact put_same _ _ _ (by omega)
  clear e4 z3
  refine wpAnyH_take (i := 4) (oi := { dst := some 13, op := Op.load 37 (Operand.tmp 4), type := 37, pos := "tree.go:105", after := #[], guard := none }) (v := kv) rfl (by kernel_rfl) (by kernel_rfl) (by kernel_rfl) (fun _ _ _ h => h) (Or.inl ⟨by rfl, fun w1 hw => exec_load rfl (h4) (H4 _ hw)⟩) hHeld ?_
  change wpAnyH _ _ _ _ _ _ _ (a4.put (some 13) (kv)) _
  obtain ⟨a5, e5⟩ : ∃ act, act = a4.put (some 13) (kv) := ⟨_, rfl⟩
  rw [← e5] at h ⊢
  have z5 : a5.tmps.size = 24 := by rw [e5, put_size]; exact z4
  clear h4
  replace h12 : a5.tmps.getD 12 undef = mv := by rw [e5, put_ne _ _ _ _ (by decide)]; exact h12
  have h13 : a5.tmps.getD 13 undef = kv := by rw [e5]; exact put_same _ _ _ (by omega)
  clear e5 z4
  refine wpAnyH_take (i := 5) (oi := { dst := some 14, op := Op.lookup 79 (Operand.tmp 12) (Operand.tmp 13) false, type := 94, pos := "tree.go:105", after := #[{ on := 3, ground := Ground.data }, { on := 4, ground := Ground.data }], guard := none }) (v := nv) rfl (by kernel_rfl) (by kernel_rfl) (by kernel_rfl) (fun _ _ _ h => h) (Or.inl ⟨by rfl, fun w1 hw => exec_lookup rfl (h12) (h13) (H5 _ hw)⟩) hHeld ?_
  change wpAnyH _ _ _ _ _ _ _ (a5.put (some 14) (nv)) _
  obtain ⟨a6, e6⟩ : ∃ act, act = a5.put (some 14) (nv) := ⟨_, rfl⟩
  rw [← e6] at h ⊢
  have z6 : a6.tmps.size = 24 := by rw [e6, put_size]; exact z5
  clear h12
  clear h13
  have h14 : a6.tmps.getD 14 undef = nv := by rw [e6]; exact put_same _ _ _ (by omega)
  clear e6 z5
  refine wpAnyH_ready (rs := [6]) (by kernel_rfl) (by simp) ?_
  refine AllReadyH.cons (o := { dst := some 8, op := Op.alloc 94, type := 0, pos := "tree.go:105", after := #[], guard := none }) rfl (fun K hK => ?_) AllReadyH.nil
  have X := exec_alloc (P := Try.prog) (a := a6) (o := { dst := some 8, op := Op.alloc 94, type := 0, pos := "tree.go:105", after := #[], guard := none }) rfl H6
  rw [if_pos (show Region.wanted { dst := some 8, op := Op.alloc 94, type := 0, pos := "tree.go:105", after := #[], guard := none } (yielded put1_ops (a6).tmps) = true from rfl), Oper.wp, X]
  show K _ _
  clear X
  refine hK.out _ _ S1 (fun hHeld => ?_)
  clear hK K
  change wpAnyH _ _ _ _ _ _ _ (a6.put (some 8) (.pointer (some ⟨nb, 0, none⟩))) _
  obtain ⟨a7, e7⟩ : ∃ act, act = a6.put (some 8) (.pointer (some ⟨nb, 0, none⟩)) := ⟨_, rfl⟩
  rw [← e7] at h ⊢
  have z7 : a7.tmps.size = 24 := by rw [e7, put_size]; exact z6
  replace h14 : a7.tmps.getD 14 undef = nv := by rw [e7, put_ne _ _ _ _ (by decide)]; exact h14
  have h8 : a7.tmps.getD 8 undef = .pointer (some ⟨nb, 0, none⟩) := by rw [e7]; exact put_same _ _ _ (by omega)
  clear e7 z6
  refine wpAnyH_ready (rs := [7]) (by kernel_rfl) (by simp) ?_
  refine AllReadyH.cons (o := { dst := none, op := Op.store 94 (Operand.tmp 8) (Operand.tmp 14), type := 0, pos := "tree.go:105", after := #[{ on := 6, ground := Ground.data }, { on := 5, ground := Ground.data }, { on := 0, ground := Ground.phase }, { on := 1, ground := Ground.phase }, { on := 2, ground := Ground.phase }, { on := 3, ground := Ground.phase }, { on := 4, ground := Ground.phase }, { on := 5, ground := Ground.phase }, { on := 6, ground := Ground.phase }], guard := none }) rfl (fun K hK => ?_) AllReadyH.nil
  have X := exec_store (P := Try.prog) (a := a7) (o := { dst := none, op := Op.store 94 (Operand.tmp 8) (Operand.tmp 14), type := 0, pos := "tree.go:105", after := #[{ on := 6, ground := Ground.data }, { on := 5, ground := Ground.data }, { on := 0, ground := Ground.phase }, { on := 1, ground := Ground.phase }, { on := 2, ground := Ground.phase }, { on := 3, ground := Ground.phase }, { on := 4, ground := Ground.phase }, { on := 5, ground := Ground.phase }, { on := 6, ground := Ground.phase }], guard := none }) rfl (h8) (h14) H7
  rw [if_pos (show Region.wanted { dst := none, op := Op.store 94 (Operand.tmp 8) (Operand.tmp 14), type := 0, pos := "tree.go:105", after := #[{ on := 6, ground := Ground.data }, { on := 5, ground := Ground.data }, { on := 0, ground := Ground.phase }, { on := 1, ground := Ground.phase }, { on := 2, ground := Ground.phase }, { on := 3, ground := Ground.phase }, { on := 4, ground := Ground.phase }, { on := 5, ground := Ground.phase }, { on := 6, ground := Ground.phase }], guard := none } (yielded put1_ops (a7).tmps) = true from rfl), Oper.wp, X]
  show K a7 w2
  clear X
  refine hK.out _ _ S2 (fun hHeld => ?_)
  clear hK K
  clear h14
  clear h8
  exact wpAnyH_done (by kernel_rfl) (NoPanic.normal (h _ rfl)) _
def lies3_ops : Array Oper := #[{ dst := some 12, op := Op.move (Operand.tmp 0), type := 25, pos := "tree.go:156", after := #[], guard := none }, { dst := some 13, op := Op.nilCheck (Operand.tmp 12), type := 0, pos := "tree.go:156", after := #[{ on := 0, ground := Ground.data }], guard := none }, { dst := some 14, op := Op.fieldAddr 82 (Operand.tmp 13) 0, type := 0, pos := "tree.go:156", after := #[{ on := 1, ground := Ground.data }], guard := none }, { dst := some 15, op := Op.load 79 (Operand.tmp 14), type := 79, pos := "tree.go:156", after := #[{ on := 2, ground := Ground.data }], guard := none }, { dst := some 16, op := Op.load 37 (Operand.tmp 4), type := 37, pos := "tree.go:156", after := #[], guard := none }, { dst := some 17, op := Op.lookup 79 (Operand.tmp 15) (Operand.tmp 16) false, type := 94, pos := "tree.go:156", after := #[{ on := 3, ground := Ground.data }, { on := 4, ground := Ground.data }], guard := none }, { dst := some 8, op := Op.alloc 94, type := 0, pos := "tree.go:156", after := #[], guard := none }, { dst := none, op := Op.store 94 (Operand.tmp 8) (Operand.tmp 17), type := 0, pos := "tree.go:156", after := #[{ on := 6, ground := Ground.data }, { on := 5, ground := Ground.data }, { on := 0, ground := Ground.phase }, { on := 1, ground := Ground.phase }, { on := 2, ground := Ground.phase }, { on := 3, ground := Ground.phase }, { on := 4, ground := Ground.phase }, { on := 5, ground := Ground.phase }, { on := 6, ground := Ground.phase }], guard := none }]
theorem lies3 (t bi nb : Nat) (mv kv nv : Value) (w1 w2 : World) (S : World → Prop) (a : Act) (w : World) (Q : Exit → Act → World → Prop) (hsz : a.tmps.size = 28)
    (h0 : a.tmps.getD 0 undef = .pointer (some ⟨t, 0, none⟩))
    (h4 : a.tmps.getD 4 undef = .pointer (some ⟨bi, 0, none⟩))
    (hS0 : S w.drew)
    (H3 : ∀ wx, S wx → (Instr.loadAt 79 (.pointer (some ⟨t, 0, none⟩))).run Try.prog wx = .ok (mv) wx)
    (H4 : ∀ wx, S wx → (Instr.loadAt 37 (.pointer (some ⟨bi, 0, none⟩))).run Try.prog wx = .ok (kv) wx)
    (H5 : ∀ wx, S wx → (Instr.lookup 79 (mv) (kv) false).run Try.prog wx = .ok (nv) wx)
    (H6 : (Instr.alloc 94 true (.tuple #[])).run Try.prog (w.drew) = .ok (.pointer (some ⟨nb, 0, none⟩)) w1) (S1 : S w1)
    (H7 : (Instr.storeAt 94 (.pointer (some ⟨nb, 0, none⟩)) (nv)).run Try.prog (w1) = .ok () w2) (S2 : S w2)
    (h : ∀ (a' : Act), a' = (((((((a).put (some 12) (.pointer (some ⟨t, 0, none⟩))).put (some 13) (.pointer (some ⟨t, 0, none⟩))).put (some 14) (.pointer (some ⟨t, 0, none⟩))).put (some 15) (mv)).put (some 16) (kv)).put (some 17) (nv)).put (some 8) (.pointer (some ⟨nb, 0, none⟩)) → Q .normal a' w2) :
    (Code.region 3 lies3_ops true).wp Try.prog Q a w := by
  refine wp_region_noPanic ?_
  refine wp_region_held_drew (S := S) (by kernel_rfl) hS0 (fun hHeld => ?_)
  refine wpAnyH_take (i := 0) (oi := { dst := some 12, op := Op.move (Operand.tmp 0), type := 25, pos := "tree.go:156", after := #[], guard := none }) (v := .pointer (some ⟨t, 0, none⟩)) rfl (by kernel_rfl) (by kernel_rfl) (by kernel_rfl) (fun _ _ _ h => h) (Or.inl ⟨by rfl, fun w1 hw => exec_move rfl (h0)⟩) hHeld ?_
  change wpAnyH _ _ _ _ _ _ _ (a.put (some 12) (.pointer (some ⟨t, 0, none⟩))) _
  obtain ⟨a1, e1⟩ : ∃ act, act = a.put (some 12) (.pointer (some ⟨t, 0, none⟩)) := ⟨_, rfl⟩
  rw [← e1] at h ⊢
  have z1 : a1.tmps.size = 28 := by rw [e1, put_size]; exact hsz
  clear h0
  replace h4 : a1.tmps.getD 4 undef = .pointer (some ⟨bi, 0, none⟩) := by rw [e1, put_ne _ _ _ _ (by decide)]; exact h4
  have h12 : a1.tmps.getD 12 undef = .pointer (some ⟨t, 0, none⟩) := by rw [e1]; exact put_same _ _ _ (by omega)
  clear e1 hsz
  refine wpAnyH_take (i := 1) (oi := { dst := some 13, op := Op.nilCheck (Operand.tmp 12), type := 0, pos := "tree.go:156", after := #[{ on := 0, ground := Ground.data }], guard := none }) (v := .pointer (some ⟨t, 0, none⟩)) rfl (by kernel_rfl) (by kernel_rfl) (by kernel_rfl) (fun _ _ _ h => h) (Or.inl ⟨by rfl, fun w1 hw => exec_nilCheck rfl (h12)⟩) hHeld ?_
  change wpAnyH _ _ _ _ _ _ _ (a1.put (some 13) (.pointer (some ⟨t, 0, none⟩))) _
  obtain ⟨a2, e2⟩ : ∃ act, act = a1.put (some 13) (.pointer (some ⟨t, 0, none⟩)) := ⟨_, rfl⟩
  rw [← e2] at h ⊢
  have z2 : a2.tmps.size = 28 := by rw [e2, put_size]; exact z1
  replace h4 : a2.tmps.getD 4 undef = .pointer (some ⟨bi, 0, none⟩) := by rw [e2, put_ne _ _ _ _ (by decide)]; exact h4
  clear h12
  have h13 : a2.tmps.getD 13 undef = .pointer (some ⟨t, 0, none⟩) := by rw [e2]; exact put_same _ _ _ (by omega)
  clear e2 z1
  refine wpAnyH_take (i := 2) (oi := { dst := some 14, op := Op.fieldAddr 82 (Operand.tmp 13) 0, type := 0, pos := "tree.go:156", after := #[{ on := 1, ground := Ground.data }], guard := none }) (v := .pointer (some ⟨t, 0, none⟩)) rfl (by kernel_rfl) (by kernel_rfl) (by kernel_rfl) (fun _ _ _ h => h) (Or.inl ⟨by rfl, fun w1 hw => exec_fieldAt rfl (h13) (fa_82_0 _ _)⟩) hHeld ?_
  change wpAnyH _ _ _ _ _ _ _ (a2.put (some 14) (.pointer (some ⟨t, 0, none⟩))) _
  obtain ⟨a3, e3⟩ : ∃ act, act = a2.put (some 14) (.pointer (some ⟨t, 0, none⟩)) := ⟨_, rfl⟩
  rw [← e3] at h ⊢
  have z3 : a3.tmps.size = 28 := by rw [e3, put_size]; exact z2
  replace h4 : a3.tmps.getD 4 undef = .pointer (some ⟨bi, 0, none⟩) := by rw [e3, put_ne _ _ _ _ (by decide)]; exact h4
  clear h13
  have h14 : a3.tmps.getD 14 undef = .pointer (some ⟨t, 0, none⟩) := by rw [e3]; exact put_same _ _ _ (by omega)
  clear e3 z2
  refine wpAnyH_take (i := 3) (oi := { dst := some 15, op := Op.load 79 (Operand.tmp 14), type := 79, pos := "tree.go:156", after := #[{ on := 2, ground := Ground.data }], guard := none }) (v := mv) rfl (by kernel_rfl) (by kernel_rfl) (by kernel_rfl) (fun _ _ _ h => h) (Or.inl ⟨by rfl, fun w1 hw => exec_load rfl (h14) (H3 _ hw)⟩) hHeld ?_
  change wpAnyH _ _ _ _ _ _ _ (a3.put (some 15) (mv)) _
  obtain ⟨a4, e4⟩ : ∃ act, act = a3.put (some 15) (mv) := ⟨_, rfl⟩
  rw [← e4] at h ⊢
  have z4 : a4.tmps.size = 28 := by rw [e4, put_size]; exact z3
  replace h4 : a4.tmps.getD 4 undef = .pointer (some ⟨bi, 0, none⟩) := by rw [e4, put_ne _ _ _ _ (by decide)]; exact h4
  clear h14
  have h15 : a4.tmps.getD 15 undef = mv := by rw [e4]; exact put_same _ _ _ (by omega)
  clear e4 z3
  refine wpAnyH_take (i := 4) (oi := { dst := some 16, op := Op.load 37 (Operand.tmp 4), type := 37, pos := "tree.go:156", after := #[], guard := none }) (v := kv) rfl (by kernel_rfl) (by kernel_rfl) (by kernel_rfl) (fun _ _ _ h => h) (Or.inl ⟨by rfl, fun w1 hw => exec_load rfl (h4) (H4 _ hw)⟩) hHeld ?_
  change wpAnyH _ _ _ _ _ _ _ (a4.put (some 16) (kv)) _
  obtain ⟨a5, e5⟩ : ∃ act, act = a4.put (some 16) (kv) := ⟨_, rfl⟩
  rw [← e5] at h ⊢
  have z5 : a5.tmps.size = 28 := by rw [e5, put_size]; exact z4
  clear h4
  replace h15 : a5.tmps.getD 15 undef = mv := by rw [e5, put_ne _ _ _ _ (by decide)]; exact h15
  have h16 : a5.tmps.getD 16 undef = kv := by rw [e5]; exact put_same _ _ _ (by omega)
  clear e5 z4
  refine wpAnyH_take (i := 5) (oi := { dst := some 17, op := Op.lookup 79 (Operand.tmp 15) (Operand.tmp 16) false, type := 94, pos := "tree.go:156", after := #[{ on := 3, ground := Ground.data }, { on := 4, ground := Ground.data }], guard := none }) (v := nv) rfl (by kernel_rfl) (by kernel_rfl) (by kernel_rfl) (fun _ _ _ h => h) (Or.inl ⟨by rfl, fun w1 hw => exec_lookup rfl (h15) (h16) (H5 _ hw)⟩) hHeld ?_
  change wpAnyH _ _ _ _ _ _ _ (a5.put (some 17) (nv)) _
  obtain ⟨a6, e6⟩ : ∃ act, act = a5.put (some 17) (nv) := ⟨_, rfl⟩
  rw [← e6] at h ⊢
  have z6 : a6.tmps.size = 28 := by rw [e6, put_size]; exact z5
  clear h15
  clear h16
  have h17 : a6.tmps.getD 17 undef = nv := by rw [e6]; exact put_same _ _ _ (by omega)
  clear e6 z5
  refine wpAnyH_ready (rs := [6]) (by kernel_rfl) (by simp) ?_
  refine AllReadyH.cons (o := { dst := some 8, op := Op.alloc 94, type := 0, pos := "tree.go:156", after := #[], guard := none }) rfl (fun K hK => ?_) AllReadyH.nil
  have X := exec_alloc (P := Try.prog) (a := a6) (o := { dst := some 8, op := Op.alloc 94, type := 0, pos := "tree.go:156", after := #[], guard := none }) rfl H6
  rw [if_pos (show Region.wanted { dst := some 8, op := Op.alloc 94, type := 0, pos := "tree.go:156", after := #[], guard := none } (yielded lies3_ops (a6).tmps) = true from rfl), Oper.wp, X]
  show K _ _
  clear X
  refine hK.out _ _ S1 (fun hHeld => ?_)
  clear hK K
  change wpAnyH _ _ _ _ _ _ _ (a6.put (some 8) (.pointer (some ⟨nb, 0, none⟩))) _
  obtain ⟨a7, e7⟩ : ∃ act, act = a6.put (some 8) (.pointer (some ⟨nb, 0, none⟩)) := ⟨_, rfl⟩
  rw [← e7] at h ⊢
  have z7 : a7.tmps.size = 28 := by rw [e7, put_size]; exact z6
  replace h17 : a7.tmps.getD 17 undef = nv := by rw [e7, put_ne _ _ _ _ (by decide)]; exact h17
  have h8 : a7.tmps.getD 8 undef = .pointer (some ⟨nb, 0, none⟩) := by rw [e7]; exact put_same _ _ _ (by omega)
  clear e7 z6
  refine wpAnyH_ready (rs := [7]) (by kernel_rfl) (by simp) ?_
  refine AllReadyH.cons (o := { dst := none, op := Op.store 94 (Operand.tmp 8) (Operand.tmp 17), type := 0, pos := "tree.go:156", after := #[{ on := 6, ground := Ground.data }, { on := 5, ground := Ground.data }, { on := 0, ground := Ground.phase }, { on := 1, ground := Ground.phase }, { on := 2, ground := Ground.phase }, { on := 3, ground := Ground.phase }, { on := 4, ground := Ground.phase }, { on := 5, ground := Ground.phase }, { on := 6, ground := Ground.phase }], guard := none }) rfl (fun K hK => ?_) AllReadyH.nil
  have X := exec_store (P := Try.prog) (a := a7) (o := { dst := none, op := Op.store 94 (Operand.tmp 8) (Operand.tmp 17), type := 0, pos := "tree.go:156", after := #[{ on := 6, ground := Ground.data }, { on := 5, ground := Ground.data }, { on := 0, ground := Ground.phase }, { on := 1, ground := Ground.phase }, { on := 2, ground := Ground.phase }, { on := 3, ground := Ground.phase }, { on := 4, ground := Ground.phase }, { on := 5, ground := Ground.phase }, { on := 6, ground := Ground.phase }], guard := none }) rfl (h8) (h17) H7
  rw [if_pos (show Region.wanted { dst := none, op := Op.store 94 (Operand.tmp 8) (Operand.tmp 17), type := 0, pos := "tree.go:156", after := #[{ on := 6, ground := Ground.data }, { on := 5, ground := Ground.data }, { on := 0, ground := Ground.phase }, { on := 1, ground := Ground.phase }, { on := 2, ground := Ground.phase }, { on := 3, ground := Ground.phase }, { on := 4, ground := Ground.phase }, { on := 5, ground := Ground.phase }, { on := 6, ground := Ground.phase }], guard := none } (yielded lies3_ops (a7).tmps) = true from rfl), Oper.wp, X]
  show K a7 w2
  clear X
  refine hK.out _ _ S2 (fun hHeld => ?_)
  clear hK K
  clear h17
  clear h8
  exact wpAnyH_done (by kernel_rfl) (NoPanic.normal (h _ rfl)) _
def climb1_ops : Array Oper := #[{ dst := some 8, op := Op.move (Operand.tmp 0), type := 25, pos := "tell.go:40", after := #[{ on := 7, ground := Ground.gcOnly Departure.lateStores }], guard := none }, { dst := some 9, op := Op.nilCheck (Operand.tmp 8), type := 0, pos := "tell.go:40", after := #[{ on := 0, ground := Ground.data }, { on := 7, ground := Ground.gcOnly Departure.lateStores }], guard := none }, { dst := some 10, op := Op.fieldAddr 82 (Operand.tmp 9) 0, type := 0, pos := "tell.go:40", after := #[{ on := 1, ground := Ground.data }, { on := 7, ground := Ground.gcOnly Departure.lateStores }], guard := none }, { dst := some 11, op := Op.load 79 (Operand.tmp 10), type := 79, pos := "tell.go:40", after := #[{ on := 2, ground := Ground.data }, { on := 7, ground := Ground.gcOnly Departure.lateStores }], guard := none }, { dst := some 12, op := Op.load 37 (Operand.tmp 3), type := 37, pos := "tell.go:40", after := #[{ on := 7, ground := Ground.gcOnly Departure.lateStores }], guard := none }, { dst := some 13, op := Op.lookup 79 (Operand.tmp 11) (Operand.tmp 12) false, type := 94, pos := "tell.go:40", after := #[{ on := 3, ground := Ground.data }, { on := 4, ground := Ground.data }, { on := 7, ground := Ground.gcOnly Departure.lateStores }], guard := none }, { dst := some 7, op := Op.alloc 94, type := 0, pos := "tell.go:40", after := #[], guard := none }, { dst := some 6, op := Op.assign (Operand.const (Value.int IntKind.i64 0)), type := 3, pos := "tell.go:40", after := #[{ on := 0, ground := Ground.textOnly Departure.lateStores }, { on := 1, ground := Ground.textOnly Departure.lateStores }, { on := 2, ground := Ground.textOnly Departure.lateStores }, { on := 3, ground := Ground.textOnly Departure.lateStores }, { on := 4, ground := Ground.textOnly Departure.lateStores }, { on := 5, ground := Ground.textOnly Departure.lateStores }, { on := 6, ground := Ground.phase }], guard := none }, { dst := none, op := Op.store 94 (Operand.tmp 7) (Operand.tmp 13), type := 0, pos := "tell.go:40", after := #[{ on := 6, ground := Ground.data }, { on := 5, ground := Ground.data }, { on := 7, ground := Ground.chain }, { on := 0, ground := Ground.phase }, { on := 1, ground := Ground.phase }, { on := 2, ground := Ground.phase }, { on := 3, ground := Ground.phase }, { on := 4, ground := Ground.phase }, { on := 5, ground := Ground.phase }, { on := 6, ground := Ground.phase }, { on := 7, ground := Ground.phase }], guard := none }]
theorem climb1 (t bi nb : Nat) (mv kv nv : Value) (w1 w2 : World) (S : World → Prop) (a : Act) (w : World) (Q : Exit → Act → World → Prop) (hsz : a.tmps.size = 35)
    (h0 : a.tmps.getD 0 undef = .pointer (some ⟨t, 0, none⟩))
    (h3 : a.tmps.getD 3 undef = .pointer (some ⟨bi, 0, none⟩))
    (hS0 : S w.drew)
    (H3 : ∀ wx, S wx → (Instr.loadAt 79 (.pointer (some ⟨t, 0, none⟩))).run Try.prog wx = .ok (mv) wx)
    (H4 : ∀ wx, S wx → (Instr.loadAt 37 (.pointer (some ⟨bi, 0, none⟩))).run Try.prog wx = .ok (kv) wx)
    (H5 : ∀ wx, S wx → (Instr.lookup 79 (mv) (kv) false).run Try.prog wx = .ok (nv) wx)
    (H6 : (Instr.alloc 94 true (.tuple #[])).run Try.prog (w.drew) = .ok (.pointer (some ⟨nb, 0, none⟩)) w1) (S1 : S w1)
    (H8 : (Instr.storeAt 94 (.pointer (some ⟨nb, 0, none⟩)) (nv)).run Try.prog (w1) = .ok () w2) (S2 : S w2)
    (h : ∀ (a' : Act), a' = ((((((((a).put (some 8) (.pointer (some ⟨t, 0, none⟩))).put (some 9) (.pointer (some ⟨t, 0, none⟩))).put (some 10) (.pointer (some ⟨t, 0, none⟩))).put (some 11) (mv)).put (some 12) (kv)).put (some 13) (nv)).put (some 7) (.pointer (some ⟨nb, 0, none⟩))).put (some 6) (.int .i64 0) → Q .normal a' w2) :
    (Code.region 1 climb1_ops true).wp Try.prog Q a w := by
  refine wp_region_noPanic ?_
  refine wp_region_held_drew (S := S) (by kernel_rfl) hS0 (fun hHeld => ?_)
  refine wpAnyH_take (i := 0) (oi := { dst := some 8, op := Op.move (Operand.tmp 0), type := 25, pos := "tell.go:40", after := #[{ on := 7, ground := Ground.gcOnly Departure.lateStores }], guard := none }) (v := .pointer (some ⟨t, 0, none⟩)) rfl (by kernel_rfl) (by kernel_rfl) (by kernel_rfl) (fun _ _ _ h => h) (Or.inl ⟨by rfl, fun w1 hw => exec_move rfl (h0)⟩) hHeld ?_
  change wpAnyH _ _ _ _ _ _ _ (a.put (some 8) (.pointer (some ⟨t, 0, none⟩))) _
  obtain ⟨a1, e1⟩ : ∃ act, act = a.put (some 8) (.pointer (some ⟨t, 0, none⟩)) := ⟨_, rfl⟩
  rw [← e1] at h ⊢
  have z1 : a1.tmps.size = 35 := by rw [e1, put_size]; exact hsz
  clear h0
  replace h3 : a1.tmps.getD 3 undef = .pointer (some ⟨bi, 0, none⟩) := by rw [e1, put_ne _ _ _ _ (by decide)]; exact h3
  have h8 : a1.tmps.getD 8 undef = .pointer (some ⟨t, 0, none⟩) := by rw [e1]; exact put_same _ _ _ (by omega)
  clear e1 hsz
  refine wpAnyH_take (i := 1) (oi := { dst := some 9, op := Op.nilCheck (Operand.tmp 8), type := 0, pos := "tell.go:40", after := #[{ on := 0, ground := Ground.data }, { on := 7, ground := Ground.gcOnly Departure.lateStores }], guard := none }) (v := .pointer (some ⟨t, 0, none⟩)) rfl (by kernel_rfl) (by kernel_rfl) (by kernel_rfl) (fun _ _ _ h => h) (Or.inl ⟨by rfl, fun w1 hw => exec_nilCheck rfl (h8)⟩) hHeld ?_
  change wpAnyH _ _ _ _ _ _ _ (a1.put (some 9) (.pointer (some ⟨t, 0, none⟩))) _
  obtain ⟨a2, e2⟩ : ∃ act, act = a1.put (some 9) (.pointer (some ⟨t, 0, none⟩)) := ⟨_, rfl⟩
  rw [← e2] at h ⊢
  have z2 : a2.tmps.size = 35 := by rw [e2, put_size]; exact z1
  replace h3 : a2.tmps.getD 3 undef = .pointer (some ⟨bi, 0, none⟩) := by rw [e2, put_ne _ _ _ _ (by decide)]; exact h3
  clear h8
  have h9 : a2.tmps.getD 9 undef = .pointer (some ⟨t, 0, none⟩) := by rw [e2]; exact put_same _ _ _ (by omega)
  clear e2 z1
  refine wpAnyH_take (i := 2) (oi := { dst := some 10, op := Op.fieldAddr 82 (Operand.tmp 9) 0, type := 0, pos := "tell.go:40", after := #[{ on := 1, ground := Ground.data }, { on := 7, ground := Ground.gcOnly Departure.lateStores }], guard := none }) (v := .pointer (some ⟨t, 0, none⟩)) rfl (by kernel_rfl) (by kernel_rfl) (by kernel_rfl) (fun _ _ _ h => h) (Or.inl ⟨by rfl, fun w1 hw => exec_fieldAt rfl (h9) (fa_82_0 _ _)⟩) hHeld ?_
  change wpAnyH _ _ _ _ _ _ _ (a2.put (some 10) (.pointer (some ⟨t, 0, none⟩))) _
  obtain ⟨a3, e3⟩ : ∃ act, act = a2.put (some 10) (.pointer (some ⟨t, 0, none⟩)) := ⟨_, rfl⟩
  rw [← e3] at h ⊢
  have z3 : a3.tmps.size = 35 := by rw [e3, put_size]; exact z2
  replace h3 : a3.tmps.getD 3 undef = .pointer (some ⟨bi, 0, none⟩) := by rw [e3, put_ne _ _ _ _ (by decide)]; exact h3
  clear h9
  have h10 : a3.tmps.getD 10 undef = .pointer (some ⟨t, 0, none⟩) := by rw [e3]; exact put_same _ _ _ (by omega)
  clear e3 z2
  refine wpAnyH_take (i := 3) (oi := { dst := some 11, op := Op.load 79 (Operand.tmp 10), type := 79, pos := "tell.go:40", after := #[{ on := 2, ground := Ground.data }, { on := 7, ground := Ground.gcOnly Departure.lateStores }], guard := none }) (v := mv) rfl (by kernel_rfl) (by kernel_rfl) (by kernel_rfl) (fun _ _ _ h => h) (Or.inl ⟨by rfl, fun w1 hw => exec_load rfl (h10) (H3 _ hw)⟩) hHeld ?_
  change wpAnyH _ _ _ _ _ _ _ (a3.put (some 11) (mv)) _
  obtain ⟨a4, e4⟩ : ∃ act, act = a3.put (some 11) (mv) := ⟨_, rfl⟩
  rw [← e4] at h ⊢
  have z4 : a4.tmps.size = 35 := by rw [e4, put_size]; exact z3
  replace h3 : a4.tmps.getD 3 undef = .pointer (some ⟨bi, 0, none⟩) := by rw [e4, put_ne _ _ _ _ (by decide)]; exact h3
  clear h10
  have h11 : a4.tmps.getD 11 undef = mv := by rw [e4]; exact put_same _ _ _ (by omega)
  clear e4 z3
  refine wpAnyH_take (i := 4) (oi := { dst := some 12, op := Op.load 37 (Operand.tmp 3), type := 37, pos := "tell.go:40", after := #[{ on := 7, ground := Ground.gcOnly Departure.lateStores }], guard := none }) (v := kv) rfl (by kernel_rfl) (by kernel_rfl) (by kernel_rfl) (fun _ _ _ h => h) (Or.inl ⟨by rfl, fun w1 hw => exec_load rfl (h3) (H4 _ hw)⟩) hHeld ?_
  change wpAnyH _ _ _ _ _ _ _ (a4.put (some 12) (kv)) _
  obtain ⟨a5, e5⟩ : ∃ act, act = a4.put (some 12) (kv) := ⟨_, rfl⟩
  rw [← e5] at h ⊢
  have z5 : a5.tmps.size = 35 := by rw [e5, put_size]; exact z4
  clear h3
  replace h11 : a5.tmps.getD 11 undef = mv := by rw [e5, put_ne _ _ _ _ (by decide)]; exact h11
  have h12 : a5.tmps.getD 12 undef = kv := by rw [e5]; exact put_same _ _ _ (by omega)
  clear e5 z4
  refine wpAnyH_take (i := 5) (oi := { dst := some 13, op := Op.lookup 79 (Operand.tmp 11) (Operand.tmp 12) false, type := 94, pos := "tell.go:40", after := #[{ on := 3, ground := Ground.data }, { on := 4, ground := Ground.data }, { on := 7, ground := Ground.gcOnly Departure.lateStores }], guard := none }) (v := nv) rfl (by kernel_rfl) (by kernel_rfl) (by kernel_rfl) (fun _ _ _ h => h) (Or.inl ⟨by rfl, fun w1 hw => exec_lookup rfl (h11) (h12) (H5 _ hw)⟩) hHeld ?_
  change wpAnyH _ _ _ _ _ _ _ (a5.put (some 13) (nv)) _
  obtain ⟨a6, e6⟩ : ∃ act, act = a5.put (some 13) (nv) := ⟨_, rfl⟩
  rw [← e6] at h ⊢
  have z6 : a6.tmps.size = 35 := by rw [e6, put_size]; exact z5
  clear h11
  clear h12
  have h13 : a6.tmps.getD 13 undef = nv := by rw [e6]; exact put_same _ _ _ (by omega)
  clear e6 z5
  refine wpAnyH_ready (rs := [6]) (by kernel_rfl) (by simp) ?_
  refine AllReadyH.cons (o := { dst := some 7, op := Op.alloc 94, type := 0, pos := "tell.go:40", after := #[], guard := none }) rfl (fun K hK => ?_) AllReadyH.nil
  have X := exec_alloc (P := Try.prog) (a := a6) (o := { dst := some 7, op := Op.alloc 94, type := 0, pos := "tell.go:40", after := #[], guard := none }) rfl H6
  rw [if_pos (show Region.wanted { dst := some 7, op := Op.alloc 94, type := 0, pos := "tell.go:40", after := #[], guard := none } (yielded climb1_ops (a6).tmps) = true from rfl), Oper.wp, X]
  show K _ _
  clear X
  refine hK.out _ _ S1 (fun hHeld => ?_)
  clear hK K
  change wpAnyH _ _ _ _ _ _ _ (a6.put (some 7) (.pointer (some ⟨nb, 0, none⟩))) _
  obtain ⟨a7, e7⟩ : ∃ act, act = a6.put (some 7) (.pointer (some ⟨nb, 0, none⟩)) := ⟨_, rfl⟩
  rw [← e7] at h ⊢
  have z7 : a7.tmps.size = 35 := by rw [e7, put_size]; exact z6
  replace h13 : a7.tmps.getD 13 undef = nv := by rw [e7, put_ne _ _ _ _ (by decide)]; exact h13
  have h7 : a7.tmps.getD 7 undef = .pointer (some ⟨nb, 0, none⟩) := by rw [e7]; exact put_same _ _ _ (by omega)
  clear e7 z6
  refine wpAnyH_take (i := 7) (oi := { dst := some 6, op := Op.assign (Operand.const (Value.int IntKind.i64 0)), type := 3, pos := "tell.go:40", after := #[{ on := 0, ground := Ground.textOnly Departure.lateStores }, { on := 1, ground := Ground.textOnly Departure.lateStores }, { on := 2, ground := Ground.textOnly Departure.lateStores }, { on := 3, ground := Ground.textOnly Departure.lateStores }, { on := 4, ground := Ground.textOnly Departure.lateStores }, { on := 5, ground := Ground.textOnly Departure.lateStores }, { on := 6, ground := Ground.phase }], guard := none }) (v := .int .i64 0) rfl (by kernel_rfl) (by kernel_rfl) (by kernel_rfl) (fun _ _ _ h => h) (Or.inl ⟨by rfl, fun w1 hw => exec_assign rfl (rfl)⟩) hHeld ?_
  change wpAnyH _ _ _ _ _ _ _ (a7.put (some 6) (.int .i64 0)) _
  obtain ⟨a8, e8⟩ : ∃ act, act = a7.put (some 6) (.int .i64 0) := ⟨_, rfl⟩
  rw [← e8] at h ⊢
  have z8 : a8.tmps.size = 35 := by rw [e8, put_size]; exact z7
  replace h13 : a8.tmps.getD 13 undef = nv := by rw [e8, put_ne _ _ _ _ (by decide)]; exact h13
  replace h7 : a8.tmps.getD 7 undef = .pointer (some ⟨nb, 0, none⟩) := by rw [e8, put_ne _ _ _ _ (by decide)]; exact h7
  clear e8 z7
  refine wpAnyH_ready (rs := [8]) (by kernel_rfl) (by simp) ?_
  refine AllReadyH.cons (o := { dst := none, op := Op.store 94 (Operand.tmp 7) (Operand.tmp 13), type := 0, pos := "tell.go:40", after := #[{ on := 6, ground := Ground.data }, { on := 5, ground := Ground.data }, { on := 7, ground := Ground.chain }, { on := 0, ground := Ground.phase }, { on := 1, ground := Ground.phase }, { on := 2, ground := Ground.phase }, { on := 3, ground := Ground.phase }, { on := 4, ground := Ground.phase }, { on := 5, ground := Ground.phase }, { on := 6, ground := Ground.phase }, { on := 7, ground := Ground.phase }], guard := none }) rfl (fun K hK => ?_) AllReadyH.nil
  have X := exec_store (P := Try.prog) (a := a8) (o := { dst := none, op := Op.store 94 (Operand.tmp 7) (Operand.tmp 13), type := 0, pos := "tell.go:40", after := #[{ on := 6, ground := Ground.data }, { on := 5, ground := Ground.data }, { on := 7, ground := Ground.chain }, { on := 0, ground := Ground.phase }, { on := 1, ground := Ground.phase }, { on := 2, ground := Ground.phase }, { on := 3, ground := Ground.phase }, { on := 4, ground := Ground.phase }, { on := 5, ground := Ground.phase }, { on := 6, ground := Ground.phase }, { on := 7, ground := Ground.phase }], guard := none }) rfl (h7) (h13) H8
  rw [if_pos (show Region.wanted { dst := none, op := Op.store 94 (Operand.tmp 7) (Operand.tmp 13), type := 0, pos := "tell.go:40", after := #[{ on := 6, ground := Ground.data }, { on := 5, ground := Ground.data }, { on := 7, ground := Ground.chain }, { on := 0, ground := Ground.phase }, { on := 1, ground := Ground.phase }, { on := 2, ground := Ground.phase }, { on := 3, ground := Ground.phase }, { on := 4, ground := Ground.phase }, { on := 5, ground := Ground.phase }, { on := 6, ground := Ground.phase }, { on := 7, ground := Ground.phase }], guard := none } (yielded climb1_ops (a8).tmps) = true from rfl), Oper.wp, X]
  show K a8 w2
  clear X
  refine hK.out _ _ S2 (fun hHeld => ?_)
  clear hK K
  clear h13
  clear h7
  exact wpAnyH_done (by kernel_rfl) (NoPanic.normal (h _ rfl)) _
def climb3_ops : Array Oper := #[{ dst := some 23, op := Op.move (Operand.tmp 0), type := 25, pos := "tell.go:42", after := #[], guard := none }, { dst := some 24, op := Op.nilCheck (Operand.tmp 23), type := 0, pos := "tell.go:42", after := #[{ on := 0, ground := Ground.data }], guard := none }, { dst := some 25, op := Op.fieldAddr 82 (Operand.tmp 24) 0, type := 0, pos := "tell.go:42", after := #[{ on := 1, ground := Ground.data }], guard := none }, { dst := some 26, op := Op.load 79 (Operand.tmp 25), type := 79, pos := "tell.go:42", after := #[{ on := 2, ground := Ground.data }], guard := none }, { dst := some 27, op := Op.fieldAddr 94 (Operand.tmp 7) 0, type := 0, pos := "tell.go:42", after := #[], guard := none }, { dst := some 28, op := Op.load 37 (Operand.tmp 27), type := 37, pos := "tell.go:42", after := #[{ on := 4, ground := Ground.data }], guard := none }, { dst := some 29, op := Op.lookup 79 (Operand.tmp 26) (Operand.tmp 28) false, type := 94, pos := "tell.go:42", after := #[{ on := 3, ground := Ground.data }, { on := 5, ground := Ground.data }], guard := none }, { dst := none, op := Op.store 94 (Operand.tmp 7) (Operand.tmp 29), type := 0, pos := "tell.go:42", after := #[{ on := 6, ground := Ground.data }, { on := 0, ground := Ground.phase }, { on := 1, ground := Ground.phase }, { on := 2, ground := Ground.phase }, { on := 3, ground := Ground.phase }, { on := 4, ground := Ground.phase }, { on := 5, ground := Ground.phase }, { on := 6, ground := Ground.phase }], guard := none }]
theorem climb3 (t nb : Nat) (mv kv nv : Value) (w1 : World) (S : World → Prop) (a : Act) (w : World) (Q : Exit → Act → World → Prop) (hsz : a.tmps.size = 35)
    (h0 : a.tmps.getD 0 undef = .pointer (some ⟨t, 0, none⟩))
    (h7 : a.tmps.getD 7 undef = .pointer (some ⟨nb, 0, none⟩))
    (hS0 : S w.drew)
    (H3 : ∀ wx, S wx → (Instr.loadAt 79 (.pointer (some ⟨t, 0, none⟩))).run Try.prog wx = .ok (mv) wx)
    (H5 : ∀ wx, S wx → (Instr.loadAt 37 (.pointer (some ⟨nb, 0, none⟩))).run Try.prog wx = .ok (kv) wx)
    (H6 : ∀ wx, S wx → (Instr.lookup 79 (mv) (kv) false).run Try.prog wx = .ok (nv) wx)
    (H7 : (Instr.storeAt 94 (.pointer (some ⟨nb, 0, none⟩)) (nv)).run Try.prog (w.drew) = .ok () w1) (S1 : S w1)
    (h : ∀ (a' : Act), a' = (((((((a).put (some 23) (.pointer (some ⟨t, 0, none⟩))).put (some 24) (.pointer (some ⟨t, 0, none⟩))).put (some 25) (.pointer (some ⟨t, 0, none⟩))).put (some 26) (mv)).put (some 27) (.pointer (some ⟨nb, 0, none⟩))).put (some 28) (kv)).put (some 29) (nv) → Q .normal a' w1) :
    (Code.region 3 climb3_ops true).wp Try.prog Q a w := by
  refine wp_region_noPanic ?_
  refine wp_region_held_drew (S := S) (by kernel_rfl) hS0 (fun hHeld => ?_)
  refine wpAnyH_take (i := 0) (oi := { dst := some 23, op := Op.move (Operand.tmp 0), type := 25, pos := "tell.go:42", after := #[], guard := none }) (v := .pointer (some ⟨t, 0, none⟩)) rfl (by kernel_rfl) (by kernel_rfl) (by kernel_rfl) (fun _ _ _ h => h) (Or.inl ⟨by rfl, fun w1 hw => exec_move rfl (h0)⟩) hHeld ?_
  change wpAnyH _ _ _ _ _ _ _ (a.put (some 23) (.pointer (some ⟨t, 0, none⟩))) _
  obtain ⟨a1, e1⟩ : ∃ act, act = a.put (some 23) (.pointer (some ⟨t, 0, none⟩)) := ⟨_, rfl⟩
  rw [← e1] at h ⊢
  have z1 : a1.tmps.size = 35 := by rw [e1, put_size]; exact hsz
  clear h0
  replace h7 : a1.tmps.getD 7 undef = .pointer (some ⟨nb, 0, none⟩) := by rw [e1, put_ne _ _ _ _ (by decide)]; exact h7
  have h23 : a1.tmps.getD 23 undef = .pointer (some ⟨t, 0, none⟩) := by rw [e1]; exact put_same _ _ _ (by omega)
  clear e1 hsz
  refine wpAnyH_take (i := 1) (oi := { dst := some 24, op := Op.nilCheck (Operand.tmp 23), type := 0, pos := "tell.go:42", after := #[{ on := 0, ground := Ground.data }], guard := none }) (v := .pointer (some ⟨t, 0, none⟩)) rfl (by kernel_rfl) (by kernel_rfl) (by kernel_rfl) (fun _ _ _ h => h) (Or.inl ⟨by rfl, fun w1 hw => exec_nilCheck rfl (h23)⟩) hHeld ?_
  change wpAnyH _ _ _ _ _ _ _ (a1.put (some 24) (.pointer (some ⟨t, 0, none⟩))) _
  obtain ⟨a2, e2⟩ : ∃ act, act = a1.put (some 24) (.pointer (some ⟨t, 0, none⟩)) := ⟨_, rfl⟩
  rw [← e2] at h ⊢
  have z2 : a2.tmps.size = 35 := by rw [e2, put_size]; exact z1
  replace h7 : a2.tmps.getD 7 undef = .pointer (some ⟨nb, 0, none⟩) := by rw [e2, put_ne _ _ _ _ (by decide)]; exact h7
  clear h23
  have h24 : a2.tmps.getD 24 undef = .pointer (some ⟨t, 0, none⟩) := by rw [e2]; exact put_same _ _ _ (by omega)
  clear e2 z1
  refine wpAnyH_take (i := 2) (oi := { dst := some 25, op := Op.fieldAddr 82 (Operand.tmp 24) 0, type := 0, pos := "tell.go:42", after := #[{ on := 1, ground := Ground.data }], guard := none }) (v := .pointer (some ⟨t, 0, none⟩)) rfl (by kernel_rfl) (by kernel_rfl) (by kernel_rfl) (fun _ _ _ h => h) (Or.inl ⟨by rfl, fun w1 hw => exec_fieldAt rfl (h24) (fa_82_0 _ _)⟩) hHeld ?_
  change wpAnyH _ _ _ _ _ _ _ (a2.put (some 25) (.pointer (some ⟨t, 0, none⟩))) _
  obtain ⟨a3, e3⟩ : ∃ act, act = a2.put (some 25) (.pointer (some ⟨t, 0, none⟩)) := ⟨_, rfl⟩
  rw [← e3] at h ⊢
  have z3 : a3.tmps.size = 35 := by rw [e3, put_size]; exact z2
  replace h7 : a3.tmps.getD 7 undef = .pointer (some ⟨nb, 0, none⟩) := by rw [e3, put_ne _ _ _ _ (by decide)]; exact h7
  clear h24
  have h25 : a3.tmps.getD 25 undef = .pointer (some ⟨t, 0, none⟩) := by rw [e3]; exact put_same _ _ _ (by omega)
  clear e3 z2
  refine wpAnyH_take (i := 3) (oi := { dst := some 26, op := Op.load 79 (Operand.tmp 25), type := 79, pos := "tell.go:42", after := #[{ on := 2, ground := Ground.data }], guard := none }) (v := mv) rfl (by kernel_rfl) (by kernel_rfl) (by kernel_rfl) (fun _ _ _ h => h) (Or.inl ⟨by rfl, fun w1 hw => exec_load rfl (h25) (H3 _ hw)⟩) hHeld ?_
  change wpAnyH _ _ _ _ _ _ _ (a3.put (some 26) (mv)) _
  obtain ⟨a4, e4⟩ : ∃ act, act = a3.put (some 26) (mv) := ⟨_, rfl⟩
  rw [← e4] at h ⊢
  have z4 : a4.tmps.size = 35 := by rw [e4, put_size]; exact z3
  replace h7 : a4.tmps.getD 7 undef = .pointer (some ⟨nb, 0, none⟩) := by rw [e4, put_ne _ _ _ _ (by decide)]; exact h7
  clear h25
  have h26 : a4.tmps.getD 26 undef = mv := by rw [e4]; exact put_same _ _ _ (by omega)
  clear e4 z3
  refine wpAnyH_take (i := 4) (oi := { dst := some 27, op := Op.fieldAddr 94 (Operand.tmp 7) 0, type := 0, pos := "tell.go:42", after := #[], guard := none }) (v := .pointer (some ⟨nb, 0, none⟩)) rfl (by kernel_rfl) (by kernel_rfl) (by kernel_rfl) (fun _ _ _ h => h) (Or.inl ⟨by rfl, fun w1 hw => exec_fieldAt rfl (h7) (fa_94_0 _ _)⟩) hHeld ?_
  change wpAnyH _ _ _ _ _ _ _ (a4.put (some 27) (.pointer (some ⟨nb, 0, none⟩))) _
  obtain ⟨a5, e5⟩ : ∃ act, act = a4.put (some 27) (.pointer (some ⟨nb, 0, none⟩)) := ⟨_, rfl⟩
  rw [← e5] at h ⊢
  have z5 : a5.tmps.size = 35 := by rw [e5, put_size]; exact z4
  replace h7 : a5.tmps.getD 7 undef = .pointer (some ⟨nb, 0, none⟩) := by rw [e5, put_ne _ _ _ _ (by decide)]; exact h7
  replace h26 : a5.tmps.getD 26 undef = mv := by rw [e5, put_ne _ _ _ _ (by decide)]; exact h26
  have h27 : a5.tmps.getD 27 undef = .pointer (some ⟨nb, 0, none⟩) := by rw [e5]; exact put_same _ _ _ (by omega)
  clear e5 z4
  refine wpAnyH_take (i := 5) (oi := { dst := some 28, op := Op.load 37 (Operand.tmp 27), type := 37, pos := "tell.go:42", after := #[{ on := 4, ground := Ground.data }], guard := none }) (v := kv) rfl (by kernel_rfl) (by kernel_rfl) (by kernel_rfl) (fun _ _ _ h => h) (Or.inl ⟨by rfl, fun w1 hw => exec_load rfl (h27) (H5 _ hw)⟩) hHeld ?_
  change wpAnyH _ _ _ _ _ _ _ (a5.put (some 28) (kv)) _
  obtain ⟨a6, e6⟩ : ∃ act, act = a5.put (some 28) (kv) := ⟨_, rfl⟩
  rw [← e6] at h ⊢
  have z6 : a6.tmps.size = 35 := by rw [e6, put_size]; exact z5
  replace h7 : a6.tmps.getD 7 undef = .pointer (some ⟨nb, 0, none⟩) := by rw [e6, put_ne _ _ _ _ (by decide)]; exact h7
  replace h26 : a6.tmps.getD 26 undef = mv := by rw [e6, put_ne _ _ _ _ (by decide)]; exact h26
  clear h27
  have h28 : a6.tmps.getD 28 undef = kv := by rw [e6]; exact put_same _ _ _ (by omega)
  clear e6 z5
  refine wpAnyH_take (i := 6) (oi := { dst := some 29, op := Op.lookup 79 (Operand.tmp 26) (Operand.tmp 28) false, type := 94, pos := "tell.go:42", after := #[{ on := 3, ground := Ground.data }, { on := 5, ground := Ground.data }], guard := none }) (v := nv) rfl (by kernel_rfl) (by kernel_rfl) (by kernel_rfl) (fun _ _ _ h => h) (Or.inl ⟨by rfl, fun w1 hw => exec_lookup rfl (h26) (h28) (H6 _ hw)⟩) hHeld ?_
  change wpAnyH _ _ _ _ _ _ _ (a6.put (some 29) (nv)) _
  obtain ⟨a7, e7⟩ : ∃ act, act = a6.put (some 29) (nv) := ⟨_, rfl⟩
  rw [← e7] at h ⊢
  have z7 : a7.tmps.size = 35 := by rw [e7, put_size]; exact z6
  replace h7 : a7.tmps.getD 7 undef = .pointer (some ⟨nb, 0, none⟩) := by rw [e7, put_ne _ _ _ _ (by decide)]; exact h7
  clear h26
  clear h28
  have h29 : a7.tmps.getD 29 undef = nv := by rw [e7]; exact put_same _ _ _ (by omega)
  clear e7 z6
  refine wpAnyH_ready (rs := [7]) (by kernel_rfl) (by simp) ?_
  refine AllReadyH.cons (o := { dst := none, op := Op.store 94 (Operand.tmp 7) (Operand.tmp 29), type := 0, pos := "tell.go:42", after := #[{ on := 6, ground := Ground.data }, { on := 0, ground := Ground.phase }, { on := 1, ground := Ground.phase }, { on := 2, ground := Ground.phase }, { on := 3, ground := Ground.phase }, { on := 4, ground := Ground.phase }, { on := 5, ground := Ground.phase }, { on := 6, ground := Ground.phase }], guard := none }) rfl (fun K hK => ?_) AllReadyH.nil
  have X := exec_store (P := Try.prog) (a := a7) (o := { dst := none, op := Op.store 94 (Operand.tmp 7) (Operand.tmp 29), type := 0, pos := "tell.go:42", after := #[{ on := 6, ground := Ground.data }, { on := 0, ground := Ground.phase }, { on := 1, ground := Ground.phase }, { on := 2, ground := Ground.phase }, { on := 3, ground := Ground.phase }, { on := 4, ground := Ground.phase }, { on := 5, ground := Ground.phase }, { on := 6, ground := Ground.phase }], guard := none }) rfl (h7) (h29) H7
  rw [if_pos (show Region.wanted { dst := none, op := Op.store 94 (Operand.tmp 7) (Operand.tmp 29), type := 0, pos := "tell.go:42", after := #[{ on := 6, ground := Ground.data }, { on := 0, ground := Ground.phase }, { on := 1, ground := Ground.phase }, { on := 2, ground := Ground.phase }, { on := 3, ground := Ground.phase }, { on := 4, ground := Ground.phase }, { on := 5, ground := Ground.phase }, { on := 6, ground := Ground.phase }], guard := none } (yielded climb3_ops (a7).tmps) = true from rfl), Oper.wp, X]
  show K a7 w1
  clear X
  refine hK.out _ _ S1 (fun hHeld => ?_)
  clear hK K
  clear h7
  clear h29
  exact wpAnyH_done (by kernel_rfl) (NoPanic.normal (h _ rfl)) _
def climb5_ops : Array Oper := #[{ dst := some 32, op := Op.move (Operand.tmp 6), type := 3, pos := "tell.go:45", after := #[], guard := none }, { dst := some 33, op := Op.fieldAddr 94 (Operand.tmp 7) 2, type := 0, pos := "tell.go:45", after := #[{ on := 3, ground := Ground.gcOnly Departure.lateStores }], guard := none }, { dst := some 34, op := Op.load 4 (Operand.tmp 33), type := 4, pos := "tell.go:45", after := #[{ on := 1, ground := Ground.data }, { on := 3, ground := Ground.gcOnly Departure.lateStores }], guard := none }, { dst := some 4, op := Op.assign (Operand.tmp 32), type := 3, pos := "tell.go:45", after := #[{ on := 0, ground := Ground.data }, { on := 0, ground := Ground.phase }, { on := 1, ground := Ground.textOnly Departure.lateStores }, { on := 2, ground := Ground.textOnly Departure.lateStores }], guard := none }, { dst := some 5, op := Op.assign (Operand.tmp 34), type := 4, pos := "tell.go:45", after := #[{ on := 2, ground := Ground.data }, { on := 3, ground := Ground.chain }, { on := 0, ground := Ground.phase }, { on := 1, ground := Ground.phase }, { on := 2, ground := Ground.phase }, { on := 3, ground := Ground.phase }], guard := none }]
theorem climb5 (nb : Nat) (dv pv : Value) (S : World → Prop) (a : Act) (w : World) (Q : Exit → Act → World → Prop) (hsz : a.tmps.size = 35)
    (h6 : a.tmps.getD 6 undef = dv)
    (h7 : a.tmps.getD 7 undef = .pointer (some ⟨nb, 0, none⟩))
    (hS0 : S w.drew)
    (H2 : ∀ wx, S wx → (Instr.loadAt 4 (.pointer (some ⟨nb, 34, none⟩))).run Try.prog wx = .ok (pv) wx)
    (h : ∀ (a' : Act), a' = (((((a).put (some 32) (dv)).put (some 33) (.pointer (some ⟨nb, 34, none⟩))).put (some 34) (pv)).put (some 4) (dv)).put (some 5) (pv) → Q .normal a' w.drew) :
    (Code.region 5 climb5_ops true).wp Try.prog Q a w := by
  refine wp_region_noPanic ?_
  refine wp_region_held_drew (S := S) (by kernel_rfl) hS0 (fun hHeld => ?_)
  refine wpAnyH_take (i := 0) (oi := { dst := some 32, op := Op.move (Operand.tmp 6), type := 3, pos := "tell.go:45", after := #[], guard := none }) (v := dv) rfl (by kernel_rfl) (by kernel_rfl) (by kernel_rfl) (fun _ _ _ h => h) (Or.inl ⟨by rfl, fun w1 hw => exec_move rfl (h6)⟩) hHeld ?_
  change wpAnyH _ _ _ _ _ _ _ (a.put (some 32) (dv)) _
  obtain ⟨a1, e1⟩ : ∃ act, act = a.put (some 32) (dv) := ⟨_, rfl⟩
  rw [← e1] at h ⊢
  have z1 : a1.tmps.size = 35 := by rw [e1, put_size]; exact hsz
  clear h6
  replace h7 : a1.tmps.getD 7 undef = .pointer (some ⟨nb, 0, none⟩) := by rw [e1, put_ne _ _ _ _ (by decide)]; exact h7
  have h32 : a1.tmps.getD 32 undef = dv := by rw [e1]; exact put_same _ _ _ (by omega)
  clear e1 hsz
  refine wpAnyH_take (i := 1) (oi := { dst := some 33, op := Op.fieldAddr 94 (Operand.tmp 7) 2, type := 0, pos := "tell.go:45", after := #[{ on := 3, ground := Ground.gcOnly Departure.lateStores }], guard := none }) (v := .pointer (some ⟨nb, 34, none⟩)) rfl (by kernel_rfl) (by kernel_rfl) (by kernel_rfl) (fun _ _ _ h => h) (Or.inl ⟨by rfl, fun w1 hw => exec_fieldAt rfl (h7) (fa_94_2 _ _)⟩) hHeld ?_
  change wpAnyH _ _ _ _ _ _ _ (a1.put (some 33) (.pointer (some ⟨nb, 34, none⟩))) _
  obtain ⟨a2, e2⟩ : ∃ act, act = a1.put (some 33) (.pointer (some ⟨nb, 34, none⟩)) := ⟨_, rfl⟩
  rw [← e2] at h ⊢
  have z2 : a2.tmps.size = 35 := by rw [e2, put_size]; exact z1
  clear h7
  replace h32 : a2.tmps.getD 32 undef = dv := by rw [e2, put_ne _ _ _ _ (by decide)]; exact h32
  have h33 : a2.tmps.getD 33 undef = .pointer (some ⟨nb, 34, none⟩) := by rw [e2]; exact put_same _ _ _ (by omega)
  clear e2 z1
  refine wpAnyH_take (i := 2) (oi := { dst := some 34, op := Op.load 4 (Operand.tmp 33), type := 4, pos := "tell.go:45", after := #[{ on := 1, ground := Ground.data }, { on := 3, ground := Ground.gcOnly Departure.lateStores }], guard := none }) (v := pv) rfl (by kernel_rfl) (by kernel_rfl) (by kernel_rfl) (fun _ _ _ h => h) (Or.inl ⟨by rfl, fun w1 hw => exec_load rfl (h33) (H2 _ hw)⟩) hHeld ?_
  change wpAnyH _ _ _ _ _ _ _ (a2.put (some 34) (pv)) _
  obtain ⟨a3, e3⟩ : ∃ act, act = a2.put (some 34) (pv) := ⟨_, rfl⟩
  rw [← e3] at h ⊢
  have z3 : a3.tmps.size = 35 := by rw [e3, put_size]; exact z2
  replace h32 : a3.tmps.getD 32 undef = dv := by rw [e3, put_ne _ _ _ _ (by decide)]; exact h32
  clear h33
  have h34 : a3.tmps.getD 34 undef = pv := by rw [e3]; exact put_same _ _ _ (by omega)
  clear e3 z2
  refine wpAnyH_take (i := 3) (oi := { dst := some 4, op := Op.assign (Operand.tmp 32), type := 3, pos := "tell.go:45", after := #[{ on := 0, ground := Ground.data }, { on := 0, ground := Ground.phase }, { on := 1, ground := Ground.textOnly Departure.lateStores }, { on := 2, ground := Ground.textOnly Departure.lateStores }], guard := none }) (v := dv) rfl (by kernel_rfl) (by kernel_rfl) (by kernel_rfl) (fun _ _ _ h => h) (Or.inl ⟨by rfl, fun w1 hw => exec_assign rfl (h32)⟩) hHeld ?_
  change wpAnyH _ _ _ _ _ _ _ (a3.put (some 4) (dv)) _
  obtain ⟨a4, e4⟩ : ∃ act, act = a3.put (some 4) (dv) := ⟨_, rfl⟩
  rw [← e4] at h ⊢
  have z4 : a4.tmps.size = 35 := by rw [e4, put_size]; exact z3
  clear h32
  replace h34 : a4.tmps.getD 34 undef = pv := by rw [e4, put_ne _ _ _ _ (by decide)]; exact h34
  clear e4 z3
  refine wpAnyH_take (i := 4) (oi := { dst := some 5, op := Op.assign (Operand.tmp 34), type := 4, pos := "tell.go:45", after := #[{ on := 2, ground := Ground.data }, { on := 3, ground := Ground.chain }, { on := 0, ground := Ground.phase }, { on := 1, ground := Ground.phase }, { on := 2, ground := Ground.phase }, { on := 3, ground := Ground.phase }], guard := none }) (v := pv) rfl (by kernel_rfl) (by kernel_rfl) (by kernel_rfl) (fun _ _ _ h => h) (Or.inl ⟨by rfl, fun w1 hw => exec_assign rfl (h34)⟩) hHeld ?_
  change wpAnyH _ _ _ _ _ _ _ (a4.put (some 5) (pv)) _
  obtain ⟨a5, e5⟩ : ∃ act, act = a4.put (some 5) (pv) := ⟨_, rfl⟩
  rw [← e5] at h ⊢
  have z5 : a5.tmps.size = 35 := by rw [e5, put_size]; exact z4
  clear h34
  clear e5 z4
  exact wpAnyH_done (by kernel_rfl) (NoPanic.normal (h _ rfl)) _
end Go.Proofs.Ytoofljkgdjjllaa
