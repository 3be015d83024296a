import Derived.Test.YtoofljkgdjjllaaTa
namespace Go.Proofs.Ytoofljkgdjjllaa
open Go.RowKit
set_option linter.unusedVariables false
set_option linter.unusedSimpArgs false

theorem fa_82_0 (b : Nat) (w : World) : (Instr.fieldAt 82 (.pointer (some ⟨b, 0, none⟩)) 0).run Try.prog w = .ok (.pointer (some ⟨b, 0, none⟩)) w := by go_simp
theorem fa_82_1 (b : Nat) (w : World) : (Instr.fieldAt 82 (.pointer (some ⟨b, 0, none⟩)) 1).run Try.prog w = .ok (.pointer (some ⟨b, 1, none⟩)) w := by go_simp
theorem fa_82_2 (b : Nat) (w : World) : (Instr.fieldAt 82 (.pointer (some ⟨b, 0, none⟩)) 2).run Try.prog w = .ok (.pointer (some ⟨b, 2, none⟩)) w := by go_simp
theorem fa_94_0 (b : Nat) (w : World) : (Instr.fieldAt 94 (.pointer (some ⟨b, 0, none⟩)) 0).run Try.prog w = .ok (.pointer (some ⟨b, 0, none⟩)) w := by go_simp
theorem fa_94_1 (b : Nat) (w : World) : (Instr.fieldAt 94 (.pointer (some ⟨b, 0, none⟩)) 1).run Try.prog w = .ok (.pointer (some ⟨b, 33, none⟩)) w := by go_simp
theorem fa_94_2 (b : Nat) (w : World) : (Instr.fieldAt 94 (.pointer (some ⟨b, 0, none⟩)) 2).run Try.prog w = .ok (.pointer (some ⟨b, 34, none⟩)) w := by go_simp
def has1_ops : Array Oper := #[{ dst := some 8, op := Op.move (Operand.tmp 0), type := 25, pos := "tree.go:142", after := #[], guard := none }, { dst := some 9, op := Op.nilCheck (Operand.tmp 8), type := 0, pos := "tree.go:142", after := #[{ on := 0, ground := Ground.data }], guard := none }, { dst := some 10, op := Op.fieldAddr 82 (Operand.tmp 9) 0, type := 0, pos := "tree.go:142", after := #[{ on := 1, ground := Ground.data }], guard := none }, { dst := some 11, op := Op.load 79 (Operand.tmp 10), type := 79, pos := "tree.go:142", after := #[{ on := 2, ground := Ground.data }], guard := none }, { dst := some 12, op := Op.load 37 (Operand.tmp 3), type := 37, pos := "tree.go:142", after := #[], guard := none }, { dst := some 13, op := Op.lookup 79 (Operand.tmp 11) (Operand.tmp 12) true, type := 119, pos := "tree.go:142", after := #[{ on := 3, ground := Ground.data }, { on := 4, ground := Ground.data }], guard := none }, { dst := some 7, op := Op.move (Operand.tmp 13), type := 119, pos := "tree.go:142", after := #[{ on := 5, ground := Ground.data }], guard := none }, { dst := some 14, op := Op.extract (Operand.tmp 7) 0, type := 94, pos := "tree.go:142", after := #[{ on := 6, ground := Ground.data }], guard := none }, { dst := some 15, op := Op.extract (Operand.tmp 7) 1, type := 4, pos := "tree.go:142", after := #[{ on := 6, ground := Ground.data }, { on := 10, ground := Ground.gcOnly Departure.lateStores }], guard := none }, { dst := some 5, op := Op.alloc 94, type := 0, pos := "tree.go:142", after := #[], guard := none }, { dst := none, op := Op.store 94 (Operand.tmp 5) (Operand.tmp 14), type := 0, pos := "tree.go:142", after := #[{ on := 9, ground := Ground.data }, { on := 7, ground := Ground.data }, { on := 0, ground := Ground.phase }, { on := 1, ground := Ground.phase }, { on := 2, ground := Ground.phase }, { on := 3, ground := Ground.phase }, { on := 4, ground := Ground.phase }, { on := 5, ground := Ground.phase }, { on := 6, ground := Ground.phase }, { on := 7, ground := Ground.phase }, { on := 8, ground := Ground.textOnly Departure.lateStores }, { on := 9, ground := Ground.phase }], guard := none }, { dst := some 6, op := Op.assign (Operand.tmp 15), type := 4, pos := "tree.go:142", after := #[{ on := 8, ground := Ground.data }, { on := 10, ground := Ground.chain }, { on := 0, ground := Ground.phase }, { on := 1, ground := Ground.phase }, { on := 2, ground := Ground.phase }, { on := 3, ground := Ground.phase }, { on := 4, ground := Ground.phase }, { on := 5, ground := Ground.phase }, { on := 6, ground := Ground.phase }, { on := 7, ground := Ground.phase }, { on := 8, ground := Ground.phase }, { on := 9, ground := Ground.phase }, { on := 10, ground := Ground.phase }], guard := none }]
theorem has1 (t bi nb : Nat) (mv kv nv : Value) (ok : Bool) (w1 w2 : World) (S : World → Prop) (a : Act) (w : World) (Q : Exit → Act → World → Prop) (hsz : a.tmps.size = 17)
    (h0 : a.tmps.getD 0 undef = .pointer (some ⟨t, 0, none⟩))
    (h3 : a.tmps.getD 3 undef = .pointer (some ⟨bi, 0, none⟩))
    (hS0 : S w.drew)
    (H3 : ∀ wx, S wx → (Instr.loadAt 79 (.pointer (some ⟨t, 0, none⟩))).run Try.prog wx = .ok (mv) wx)
    (H4 : ∀ wx, S wx → (Instr.loadAt 37 (.pointer (some ⟨bi, 0, none⟩))).run Try.prog wx = .ok (kv) wx)
    (H5 : ∀ wx, S wx → (Instr.lookup 79 (mv) (kv) true).run Try.prog wx = .ok (.tuple #[nv, .bool ok]) wx)
    (H9 : (Instr.alloc 94 true (.tuple #[])).run Try.prog (w.drew) = .ok (.pointer (some ⟨nb, 0, none⟩)) w1) (S1 : S w1)
    (H10 : (Instr.storeAt 94 (.pointer (some ⟨nb, 0, none⟩)) (nv)).run Try.prog (w1) = .ok () w2) (S2 : S w2)
    (h : ∀ (a' : Act), a' = (((((((((((a).put (some 8) (.pointer (some ⟨t, 0, none⟩))).put (some 9) (.pointer (some ⟨t, 0, none⟩))).put (some 10) (.pointer (some ⟨t, 0, none⟩))).put (some 11) (mv)).put (some 12) (kv)).put (some 13) (.tuple #[nv, .bool ok])).put (some 7) (.tuple #[nv, .bool ok])).put (some 14) (nv)).put (some 15) (.bool ok)).put (some 5) (.pointer (some ⟨nb, 0, none⟩))).put (some 6) (.bool ok) → Q .normal a' w2) :
    (Code.region 1 has1_ops true).wp Try.prog Q a w := by
  refine wp_region_noPanic ?_
  refine wp_region_held_drew (S := S) (by kernel_rfl) hS0 (fun hHeld => ?_)
  refine wpAnyH_take (i := 0) (oi := { dst := some 8, op := Op.move (Operand.tmp 0), type := 25, pos := "tree.go:142", after := #[], guard := none }) (v := .pointer (some ⟨t, 0, none⟩)) rfl (by kernel_rfl) (by kernel_rfl) (by kernel_rfl) (fun _ _ _ h => h) (Or.inl ⟨by rfl, fun w1 hw => exec_move rfl (h0)⟩) hHeld ?_
  change wpAnyH _ _ _ _ _ _ _ (a.put (some 8) (.pointer (some ⟨t, 0, none⟩))) _
  obtain ⟨a1, e1⟩ : ∃ act, act = a.put (some 8) (.pointer (some ⟨t, 0, none⟩)) := ⟨_, rfl⟩
  rw [← e1] at h ⊢
  have z1 : a1.tmps.size = 17 := by rw [e1, put_size]; exact hsz
  clear h0
  replace h3 : a1.tmps.getD 3 undef = .pointer (some ⟨bi, 0, none⟩) := by rw [e1, put_ne _ _ _ _ (by decide)]; exact h3
  have h8 : a1.tmps.getD 8 undef = .pointer (some ⟨t, 0, none⟩) := by rw [e1]; exact put_same _ _ _ (by omega)
  clear e1 hsz
  refine wpAnyH_take (i := 1) (oi := { dst := some 9, op := Op.nilCheck (Operand.tmp 8), type := 0, pos := "tree.go:142", after := #[{ on := 0, ground := Ground.data }], guard := none }) (v := .pointer (some ⟨t, 0, none⟩)) rfl (by kernel_rfl) (by kernel_rfl) (by kernel_rfl) (fun _ _ _ h => h) (Or.inl ⟨by rfl, fun w1 hw => exec_nilCheck rfl (h8)⟩) hHeld ?_
  change wpAnyH _ _ _ _ _ _ _ (a1.put (some 9) (.pointer (some ⟨t, 0, none⟩))) _
  obtain ⟨a2, e2⟩ : ∃ act, act = a1.put (some 9) (.pointer (some ⟨t, 0, none⟩)) := ⟨_, rfl⟩
  rw [← e2] at h ⊢
  have z2 : a2.tmps.size = 17 := by rw [e2, put_size]; exact z1
  replace h3 : a2.tmps.getD 3 undef = .pointer (some ⟨bi, 0, none⟩) := by rw [e2, put_ne _ _ _ _ (by decide)]; exact h3
  clear h8
  have h9 : a2.tmps.getD 9 undef = .pointer (some ⟨t, 0, none⟩) := by rw [e2]; exact put_same _ _ _ (by omega)
  clear e2 z1
  refine wpAnyH_take (i := 2) (oi := { dst := some 10, op := Op.fieldAddr 82 (Operand.tmp 9) 0, type := 0, pos := "tree.go:142", after := #[{ on := 1, ground := Ground.data }], guard := none }) (v := .pointer (some ⟨t, 0, none⟩)) rfl (by kernel_rfl) (by kernel_rfl) (by kernel_rfl) (fun _ _ _ h => h) (Or.inl ⟨by rfl, fun w1 hw => exec_fieldAt rfl (h9) (fa_82_0 _ _)⟩) hHeld ?_
  change wpAnyH _ _ _ _ _ _ _ (a2.put (some 10) (.pointer (some ⟨t, 0, none⟩))) _
  obtain ⟨a3, e3⟩ : ∃ act, act = a2.put (some 10) (.pointer (some ⟨t, 0, none⟩)) := ⟨_, rfl⟩
  rw [← e3] at h ⊢
  have z3 : a3.tmps.size = 17 := by rw [e3, put_size]; exact z2
  replace h3 : a3.tmps.getD 3 undef = .pointer (some ⟨bi, 0, none⟩) := by rw [e3, put_ne _ _ _ _ (by decide)]; exact h3
  clear h9
  have h10 : a3.tmps.getD 10 undef = .pointer (some ⟨t, 0, none⟩) := by rw [e3]; exact put_same _ _ _ (by omega)
  clear e3 z2
  refine wpAnyH_take (i := 3) (oi := { dst := some 11, op := Op.load 79 (Operand.tmp 10), type := 79, pos := "tree.go:142", after := #[{ on := 2, ground := Ground.data }], guard := none }) (v := mv) rfl (by kernel_rfl) (by kernel_rfl) (by kernel_rfl) (fun _ _ _ h => h) (Or.inl ⟨by rfl, fun w1 hw => exec_load rfl (h10) (H3 _ hw)⟩) hHeld ?_
  change wpAnyH _ _ _ _ _ _ _ (a3.put (some 11) (mv)) _
  obtain ⟨a4, e4⟩ : ∃ act, act = a3.put (some 11) (mv) := ⟨_, rfl⟩
  rw [← e4] at h ⊢
  have z4 : a4.tmps.size = 17 := by rw [e4, put_size]; exact z3
  replace h3 : a4.tmps.getD 3 undef = .pointer (some ⟨bi, 0, none⟩) := by rw [e4, put_ne _ _ _ _ (by decide)]; exact h3
  clear h10
  have h11 : a4.tmps.getD 11 undef = mv := by rw [e4]; exact put_same _ _ _ (by omega)
  clear e4 z3
  refine wpAnyH_take (i := 4) (oi := { dst := some 12, op := Op.load 37 (Operand.tmp 3), type := 37, pos := "tree.go:142", after := #[], guard := none }) (v := kv) rfl (by kernel_rfl) (by kernel_rfl) (by kernel_rfl) (fun _ _ _ h => h) (Or.inl ⟨by rfl, fun w1 hw => exec_load rfl (h3) (H4 _ hw)⟩) hHeld ?_
  change wpAnyH _ _ _ _ _ _ _ (a4.put (some 12) (kv)) _
  obtain ⟨a5, e5⟩ : ∃ act, act = a4.put (some 12) (kv) := ⟨_, rfl⟩
  rw [← e5] at h ⊢
  have z5 : a5.tmps.size = 17 := by rw [e5, put_size]; exact z4
  clear h3
  replace h11 : a5.tmps.getD 11 undef = mv := by rw [e5, put_ne _ _ _ _ (by decide)]; exact h11
  have h12 : a5.tmps.getD 12 undef = kv := by rw [e5]; exact put_same _ _ _ (by omega)
  clear e5 z4
  refine wpAnyH_take (i := 5) (oi := { dst := some 13, op := Op.lookup 79 (Operand.tmp 11) (Operand.tmp 12) true, type := 119, pos := "tree.go:142", after := #[{ on := 3, ground := Ground.data }, { on := 4, ground := Ground.data }], guard := none }) (v := .tuple #[nv, .bool ok]) rfl (by kernel_rfl) (by kernel_rfl) (by kernel_rfl) (fun _ _ _ h => h) (Or.inl ⟨by rfl, fun w1 hw => exec_lookup rfl (h11) (h12) (H5 _ hw)⟩) hHeld ?_
  change wpAnyH _ _ _ _ _ _ _ (a5.put (some 13) (.tuple #[nv, .bool ok])) _
  obtain ⟨a6, e6⟩ : ∃ act, act = a5.put (some 13) (.tuple #[nv, .bool ok]) := ⟨_, rfl⟩
  rw [← e6] at h ⊢
  have z6 : a6.tmps.size = 17 := by rw [e6, put_size]; exact z5
  clear h11
  clear h12
  have h13 : a6.tmps.getD 13 undef = .tuple #[nv, .bool ok] := by rw [e6]; exact put_same _ _ _ (by omega)
  clear e6 z5
  refine wpAnyH_take (i := 6) (oi := { dst := some 7, op := Op.move (Operand.tmp 13), type := 119, pos := "tree.go:142", after := #[{ on := 5, ground := Ground.data }], guard := none }) (v := .tuple #[nv, .bool ok]) rfl (by kernel_rfl) (by kernel_rfl) (by kernel_rfl) (fun _ _ _ h => h) (Or.inl ⟨by rfl, fun w1 hw => exec_move rfl (h13)⟩) hHeld ?_
  change wpAnyH _ _ _ _ _ _ _ (a6.put (some 7) (.tuple #[nv, .bool ok])) _
  obtain ⟨a7, e7⟩ : ∃ act, act = a6.put (some 7) (.tuple #[nv, .bool ok]) := ⟨_, rfl⟩
  rw [← e7] at h ⊢
  have z7 : a7.tmps.size = 17 := by rw [e7, put_size]; exact z6
  clear h13
  have h7 : a7.tmps.getD 7 undef = .tuple #[nv, .bool ok] := by rw [e7]; exact put_same _ _ _ (by omega)
  clear e7 z6
  refine wpAnyH_take (i := 7) (oi := { dst := some 14, op := Op.extract (Operand.tmp 7) 0, type := 94, pos := "tree.go:142", after := #[{ on := 6, ground := Ground.data }], guard := none }) (v := nv) rfl (by kernel_rfl) (by kernel_rfl) (by kernel_rfl) (fun _ _ _ h => h) (Or.inl ⟨by rfl, fun w1 hw => exec_extract rfl (h7) rfl⟩) hHeld ?_
  change wpAnyH _ _ _ _ _ _ _ (a7.put (some 14) (nv)) _
  obtain ⟨a8, e8⟩ : ∃ act, act = a7.put (some 14) (nv) := ⟨_, rfl⟩
  rw [← e8] at h ⊢
  have z8 : a8.tmps.size = 17 := by rw [e8, put_size]; exact z7
  replace h7 : a8.tmps.getD 7 undef = .tuple #[nv, .bool ok] := by rw [e8, put_ne _ _ _ _ (by decide)]; exact h7
  have h14 : a8.tmps.getD 14 undef = nv := by rw [e8]; exact put_same _ _ _ (by omega)
  clear e8 z7
  refine wpAnyH_take (i := 8) (oi := { dst := some 15, op := Op.extract (Operand.tmp 7) 1, type := 4, pos := "tree.go:142", after := #[{ on := 6, ground := Ground.data }, { on := 10, ground := Ground.gcOnly Departure.lateStores }], guard := none }) (v := .bool ok) rfl (by kernel_rfl) (by kernel_rfl) (by kernel_rfl) (fun _ _ _ h => h) (Or.inl ⟨by rfl, fun w1 hw => exec_extract rfl (h7) rfl⟩) hHeld ?_
  change wpAnyH _ _ _ _ _ _ _ (a8.put (some 15) (.bool ok)) _
  obtain ⟨a9, e9⟩ : ∃ act, act = a8.put (some 15) (.bool ok) := ⟨_, rfl⟩
  rw [← e9] at h ⊢
  have z9 : a9.tmps.size = 17 := by rw [e9, put_size]; exact z8
  clear h7
  replace h14 : a9.tmps.getD 14 undef = nv := by rw [e9, put_ne _ _ _ _ (by decide)]; exact h14
  have h15 : a9.tmps.getD 15 undef = .bool ok := by rw [e9]; exact put_same _ _ _ (by omega)
  clear e9 z8
  refine wpAnyH_ready (rs := [9]) (by kernel_rfl) (by simp) ?_
  refine AllReadyH.cons (o := { dst := some 5, op := Op.alloc 94, type := 0, pos := "tree.go:142", after := #[], guard := none }) rfl (fun K hK => ?_) AllReadyH.nil
  have X := exec_alloc (P := Try.prog) (a := a9) (o := { dst := some 5, op := Op.alloc 94, type := 0, pos := "tree.go:142", after := #[], guard := none }) rfl H9
  rw [if_pos (show Region.wanted { dst := some 5, op := Op.alloc 94, type := 0, pos := "tree.go:142", after := #[], guard := none } (yielded has1_ops (a9).tmps) = true from rfl), Oper.wp, X]
  show K _ _
  clear X
  refine hK.out _ _ S1 (fun hHeld => ?_)
  clear hK K
  change wpAnyH _ _ _ _ _ _ _ (a9.put (some 5) (.pointer (some ⟨nb, 0, none⟩))) _
  obtain ⟨a10, e10⟩ : ∃ act, act = a9.put (some 5) (.pointer (some ⟨nb, 0, none⟩)) := ⟨_, rfl⟩
  rw [← e10] at h ⊢
  have z10 : a10.tmps.size = 17 := by rw [e10, put_size]; exact z9
  replace h14 : a10.tmps.getD 14 undef = nv := by rw [e10, put_ne _ _ _ _ (by decide)]; exact h14
  replace h15 : a10.tmps.getD 15 undef = .bool ok := by rw [e10, put_ne _ _ _ _ (by decide)]; exact h15
  have h5 : a10.tmps.getD 5 undef = .pointer (some ⟨nb, 0, none⟩) := by rw [e10]; exact put_same _ _ _ (by omega)
  clear e10 z9
  refine wpAnyH_ready (rs := [10]) (by kernel_rfl) (by simp) ?_
  refine AllReadyH.cons (o := { dst := none, op := Op.store 94 (Operand.tmp 5) (Operand.tmp 14), type := 0, pos := "tree.go:142", after := #[{ on := 9, ground := Ground.data }, { on := 7, ground := Ground.data }, { on := 0, ground := Ground.phase }, { on := 1, ground := Ground.phase }, { on := 2, ground := Ground.phase }, { on := 3, ground := Ground.phase }, { on := 4, ground := Ground.phase }, { on := 5, ground := Ground.phase }, { on := 6, ground := Ground.phase }, { on := 7, ground := Ground.phase }, { on := 8, ground := Ground.textOnly Departure.lateStores }, { on := 9, ground := Ground.phase }], guard := none }) rfl (fun K hK => ?_) AllReadyH.nil
  have X := exec_store (P := Try.prog) (a := a10) (o := { dst := none, op := Op.store 94 (Operand.tmp 5) (Operand.tmp 14), type := 0, pos := "tree.go:142", after := #[{ on := 9, ground := Ground.data }, { on := 7, ground := Ground.data }, { on := 0, ground := Ground.phase }, { on := 1, ground := Ground.phase }, { on := 2, ground := Ground.phase }, { on := 3, ground := Ground.phase }, { on := 4, ground := Ground.phase }, { on := 5, ground := Ground.phase }, { on := 6, ground := Ground.phase }, { on := 7, ground := Ground.phase }, { on := 8, ground := Ground.textOnly Departure.lateStores }, { on := 9, ground := Ground.phase }], guard := none }) rfl (h5) (h14) H10
  rw [if_pos (show Region.wanted { dst := none, op := Op.store 94 (Operand.tmp 5) (Operand.tmp 14), type := 0, pos := "tree.go:142", after := #[{ on := 9, ground := Ground.data }, { on := 7, ground := Ground.data }, { on := 0, ground := Ground.phase }, { on := 1, ground := Ground.phase }, { on := 2, ground := Ground.phase }, { on := 3, ground := Ground.phase }, { on := 4, ground := Ground.phase }, { on := 5, ground := Ground.phase }, { on := 6, ground := Ground.phase }, { on := 7, ground := Ground.phase }, { on := 8, ground := Ground.textOnly Departure.lateStores }, { on := 9, ground := Ground.phase }], guard := none } (yielded has1_ops (a10).tmps) = true from rfl), Oper.wp, X]
  show K a10 w2
  clear X
  refine hK.out _ _ S2 (fun hHeld => ?_)
  clear hK K
  clear h14
  clear h5
  refine wpAnyH_take (i := 11) (oi := { dst := some 6, op := Op.assign (Operand.tmp 15), type := 4, pos := "tree.go:142", after := #[{ on := 8, ground := Ground.data }, { on := 10, ground := Ground.chain }, { on := 0, ground := Ground.phase }, { on := 1, ground := Ground.phase }, { on := 2, ground := Ground.phase }, { on := 3, ground := Ground.phase }, { on := 4, ground := Ground.phase }, { on := 5, ground := Ground.phase }, { on := 6, ground := Ground.phase }, { on := 7, ground := Ground.phase }, { on := 8, ground := Ground.phase }, { on := 9, ground := Ground.phase }, { on := 10, ground := Ground.phase }], guard := none }) (v := .bool ok) rfl (by kernel_rfl) (by kernel_rfl) (by kernel_rfl) (fun _ _ _ h => h) (Or.inl ⟨by rfl, fun w1 hw => exec_assign rfl (h15)⟩) hHeld ?_
  change wpAnyH _ _ _ _ _ _ _ (a10.put (some 6) (.bool ok)) _
  obtain ⟨a11, e11⟩ : ∃ act, act = a10.put (some 6) (.bool ok) := ⟨_, rfl⟩
  rw [← e11] at h ⊢
  have z11 : a11.tmps.size = 17 := by rw [e11, put_size]; exact z10
  clear h15
  clear e11 z10
  exact wpAnyH_done (by kernel_rfl) (NoPanic.normal (h _ rfl)) _
def leave1_ops : Array Oper := #[{ dst := some 7, op := Op.move (Operand.tmp 0), type := 25, pos := "tree.go:131", after := #[], guard := none }, { dst := some 8, op := Op.nilCheck (Operand.tmp 7), type := 0, pos := "tree.go:131", after := #[{ on := 0, ground := Ground.data }], guard := none }, { dst := some 9, op := Op.fieldAddr 82 (Operand.tmp 8) 0, type := 0, pos := "tree.go:131", after := #[{ on := 1, ground := Ground.data }], guard := none }, { dst := some 10, op := Op.load 79 (Operand.tmp 9), type := 79, pos := "tree.go:131", after := #[{ on := 2, ground := Ground.data }], guard := none }, { dst := some 11, op := Op.load 37 (Operand.tmp 3), type := 37, pos := "tree.go:131", after := #[], guard := none }, { dst := some 12, op := Op.lookup 79 (Operand.tmp 10) (Operand.tmp 11) true, type := 119, pos := "tree.go:131", after := #[{ on := 3, ground := Ground.data }, { on := 4, ground := Ground.data }], guard := none }, { dst := some 6, op := Op.move (Operand.tmp 12), type := 119, pos := "tree.go:131", after := #[{ on := 5, ground := Ground.data }], guard := none }, { dst := some 13, op := Op.extract (Operand.tmp 6) 0, type := 94, pos := "tree.go:131", after := #[{ on := 6, ground := Ground.data }], guard := none }, { dst := some 14, op := Op.extract (Operand.tmp 6) 1, type := 4, pos := "tree.go:131", after := #[{ on := 6, ground := Ground.data }, { on := 10, ground := Ground.gcOnly Departure.lateStores }], guard := none }, { dst := some 4, op := Op.alloc 94, type := 0, pos := "tree.go:131", after := #[], guard := none }, { dst := none, op := Op.store 94 (Operand.tmp 4) (Operand.tmp 13), type := 0, pos := "tree.go:131", after := #[{ on := 9, ground := Ground.data }, { on := 7, ground := Ground.data }, { on := 0, ground := Ground.phase }, { on := 1, ground := Ground.phase }, { on := 2, ground := Ground.phase }, { on := 3, ground := Ground.phase }, { on := 4, ground := Ground.phase }, { on := 5, ground := Ground.phase }, { on := 6, ground := Ground.phase }, { on := 7, ground := Ground.phase }, { on := 8, ground := Ground.textOnly Departure.lateStores }, { on := 9, ground := Ground.phase }], guard := none }, { dst := some 5, op := Op.assign (Operand.tmp 14), type := 4, pos := "tree.go:131", after := #[{ on := 8, ground := Ground.data }, { on := 10, ground := Ground.chain }, { on := 0, ground := Ground.phase }, { on := 1, ground := Ground.phase }, { on := 2, ground := Ground.phase }, { on := 3, ground := Ground.phase }, { on := 4, ground := Ground.phase }, { on := 5, ground := Ground.phase }, { on := 6, ground := Ground.phase }, { on := 7, ground := Ground.phase }, { on := 8, ground := Ground.phase }, { on := 9, ground := Ground.phase }, { on := 10, ground := Ground.phase }], guard := none }]
theorem leave1 (t bi nb : Nat) (mv kv nv : Value) (ok : Bool) (w1 w2 : World) (S : World → Prop) (a : Act) (w : World) (Q : Exit → Act → World → Prop) (hsz : a.tmps.size = 44)
    (h0 : a.tmps.getD 0 undef = .pointer (some ⟨t, 0, none⟩))
    (h3 : a.tmps.getD 3 undef = .pointer (some ⟨bi, 0, none⟩))
    (hS0 : S w.drew)
    (H3 : ∀ wx, S wx → (Instr.loadAt 79 (.pointer (some ⟨t, 0, none⟩))).run Try.prog wx = .ok (mv) wx)
    (H4 : ∀ wx, S wx → (Instr.loadAt 37 (.pointer (some ⟨bi, 0, none⟩))).run Try.prog wx = .ok (kv) wx)
    (H5 : ∀ wx, S wx → (Instr.lookup 79 (mv) (kv) true).run Try.prog wx = .ok (.tuple #[nv, .bool ok]) wx)
    (H9 : (Instr.alloc 94 true (.tuple #[])).run Try.prog (w.drew) = .ok (.pointer (some ⟨nb, 0, none⟩)) w1) (S1 : S w1)
    (H10 : (Instr.storeAt 94 (.pointer (some ⟨nb, 0, none⟩)) (nv)).run Try.prog (w1) = .ok () w2) (S2 : S w2)
    (h : ∀ (a' : Act), a' = (((((((((((a).put (some 7) (.pointer (some ⟨t, 0, none⟩))).put (some 8) (.pointer (some ⟨t, 0, none⟩))).put (some 9) (.pointer (some ⟨t, 0, none⟩))).put (some 10) (mv)).put (some 11) (kv)).put (some 12) (.tuple #[nv, .bool ok])).put (some 6) (.tuple #[nv, .bool ok])).put (some 13) (nv)).put (some 14) (.bool ok)).put (some 4) (.pointer (some ⟨nb, 0, none⟩))).put (some 5) (.bool ok) → Q .normal a' w2) :
    (Code.region 1 leave1_ops true).wp Try.prog Q a w := by
  refine wp_region_noPanic ?_
  refine wp_region_held_drew (S := S) (by kernel_rfl) hS0 (fun hHeld => ?_)
  refine wpAnyH_take (i := 0) (oi := { dst := some 7, op := Op.move (Operand.tmp 0), type := 25, pos := "tree.go:131", after := #[], guard := none }) (v := .pointer (some ⟨t, 0, none⟩)) rfl (by kernel_rfl) (by kernel_rfl) (by kernel_rfl) (fun _ _ _ h => h) (Or.inl ⟨by rfl, fun w1 hw => exec_move rfl (h0)⟩) hHeld ?_
  change wpAnyH _ _ _ _ _ _ _ (a.put (some 7) (.pointer (some ⟨t, 0, none⟩))) _
  obtain ⟨a1, e1⟩ : ∃ act, act = a.put (some 7) (.pointer (some ⟨t, 0, none⟩)) := ⟨_, rfl⟩
  rw [← e1] at h ⊢
  have z1 : a1.tmps.size = 44 := by rw [e1, put_size]; exact hsz
  clear h0
  replace h3 : a1.tmps.getD 3 undef = .pointer (some ⟨bi, 0, none⟩) := by rw [e1, put_ne _ _ _ _ (by decide)]; exact h3
  have h7 : a1.tmps.getD 7 undef = .pointer (some ⟨t, 0, none⟩) := by rw [e1]; exact put_same _ _ _ (by omega)
  clear e1 hsz
  refine wpAnyH_take (i := 1) (oi := { dst := some 8, op := Op.nilCheck (Operand.tmp 7), type := 0, pos := "tree.go:131", after := #[{ on := 0, ground := Ground.data }], guard := none }) (v := .pointer (some ⟨t, 0, none⟩)) rfl (by kernel_rfl) (by kernel_rfl) (by kernel_rfl) (fun _ _ _ h => h) (Or.inl ⟨by rfl, fun w1 hw => exec_nilCheck rfl (h7)⟩) hHeld ?_
  change wpAnyH _ _ _ _ _ _ _ (a1.put (some 8) (.pointer (some ⟨t, 0, none⟩))) _
  obtain ⟨a2, e2⟩ : ∃ act, act = a1.put (some 8) (.pointer (some ⟨t, 0, none⟩)) := ⟨_, rfl⟩
  rw [← e2] at h ⊢
  have z2 : a2.tmps.size = 44 := by rw [e2, put_size]; exact z1
  replace h3 : a2.tmps.getD 3 undef = .pointer (some ⟨bi, 0, none⟩) := by rw [e2, put_ne _ _ _ _ (by decide)]; exact h3
  clear h7
  have h8 : a2.tmps.getD 8 undef = .pointer (some ⟨t, 0, none⟩) := by rw [e2]; exact put_same _ _ _ (by omega)
  clear e2 z1
  refine wpAnyH_take (i := 2) (oi := { dst := some 9, op := Op.fieldAddr 82 (Operand.tmp 8) 0, type := 0, pos := "tree.go:131", after := #[{ on := 1, ground := Ground.data }], guard := none }) (v := .pointer (some ⟨t, 0, none⟩)) rfl (by kernel_rfl) (by kernel_rfl) (by kernel_rfl) (fun _ _ _ h => h) (Or.inl ⟨by rfl, fun w1 hw => exec_fieldAt rfl (h8) (fa_82_0 _ _)⟩) hHeld ?_
  change wpAnyH _ _ _ _ _ _ _ (a2.put (some 9) (.pointer (some ⟨t, 0, none⟩))) _
  obtain ⟨a3, e3⟩ : ∃ act, act = a2.put (some 9) (.pointer (some ⟨t, 0, none⟩)) := ⟨_, rfl⟩
  rw [← e3] at h ⊢
  have z3 : a3.tmps.size = 44 := by rw [e3, put_size]; exact z2
  replace h3 : a3.tmps.getD 3 undef = .pointer (some ⟨bi, 0, none⟩) := by rw [e3, put_ne _ _ _ _ (by decide)]; exact h3
  clear h8
  have h9 : a3.tmps.getD 9 undef = .pointer (some ⟨t, 0, none⟩) := by rw [e3]; exact put_same _ _ _ (by omega)
  clear e3 z2
  refine wpAnyH_take (i := 3) (oi := { dst := some 10, op := Op.load 79 (Operand.tmp 9), type := 79, pos := "tree.go:131", after := #[{ on := 2, ground := Ground.data }], guard := none }) (v := mv) rfl (by kernel_rfl) (by kernel_rfl) (by kernel_rfl) (fun _ _ _ h => h) (Or.inl ⟨by rfl, fun w1 hw => exec_load rfl (h9) (H3 _ hw)⟩) hHeld ?_
  change wpAnyH _ _ _ _ _ _ _ (a3.put (some 10) (mv)) _
  obtain ⟨a4, e4⟩ : ∃ act, act = a3.put (some 10) (mv) := ⟨_, rfl⟩
  rw [← e4] at h ⊢
  have z4 : a4.tmps.size = 44 := by rw [e4, put_size]; exact z3
  replace h3 : a4.tmps.getD 3 undef = .pointer (some ⟨bi, 0, none⟩) := by rw [e4, put_ne _ _ _ _ (by decide)]; exact h3
  clear h9
  have h10 : a4.tmps.getD 10 undef = mv := by rw [e4]; exact put_same _ _ _ (by omega)
  clear e4 z3
  refine wpAnyH_take (i := 4) (oi := { dst := some 11, op := Op.load 37 (Operand.tmp 3), type := 37, pos := "tree.go:131", after := #[], guard := none }) (v := kv) rfl (by kernel_rfl) (by kernel_rfl) (by kernel_rfl) (fun _ _ _ h => h) (Or.inl ⟨by rfl, fun w1 hw => exec_load rfl (h3) (H4 _ hw)⟩) hHeld ?_
  change wpAnyH _ _ _ _ _ _ _ (a4.put (some 11) (kv)) _
  obtain ⟨a5, e5⟩ : ∃ act, act = a4.put (some 11) (kv) := ⟨_, rfl⟩
  rw [← e5] at h ⊢
  have z5 : a5.tmps.size = 44 := by rw [e5, put_size]; exact z4
  clear h3
  replace h10 : a5.tmps.getD 10 undef = mv := by rw [e5, put_ne _ _ _ _ (by decide)]; exact h10
  have h11 : a5.tmps.getD 11 undef = kv := by rw [e5]; exact put_same _ _ _ (by omega)
  clear e5 z4
  refine wpAnyH_take (i := 5) (oi := { dst := some 12, op := Op.lookup 79 (Operand.tmp 10) (Operand.tmp 11) true, type := 119, pos := "tree.go:131", after := #[{ on := 3, ground := Ground.data }, { on := 4, ground := Ground.data }], guard := none }) (v := .tuple #[nv, .bool ok]) rfl (by kernel_rfl) (by kernel_rfl) (by kernel_rfl) (fun _ _ _ h => h) (Or.inl ⟨by rfl, fun w1 hw => exec_lookup rfl (h10) (h11) (H5 _ hw)⟩) hHeld ?_
  change wpAnyH _ _ _ _ _ _ _ (a5.put (some 12) (.tuple #[nv, .bool ok])) _
  obtain ⟨a6, e6⟩ : ∃ act, act = a5.put (some 12) (.tuple #[nv, .bool ok]) := ⟨_, rfl⟩
  rw [← e6] at h ⊢
  have z6 : a6.tmps.size = 44 := by rw [e6, put_size]; exact z5
  clear h10
  clear h11
  have h12 : a6.tmps.getD 12 undef = .tuple #[nv, .bool ok] := by rw [e6]; exact put_same _ _ _ (by omega)
  clear e6 z5
  refine wpAnyH_take (i := 6) (oi := { dst := some 6, op := Op.move (Operand.tmp 12), type := 119, pos := "tree.go:131", after := #[{ on := 5, ground := Ground.data }], guard := none }) (v := .tuple #[nv, .bool ok]) rfl (by kernel_rfl) (by kernel_rfl) (by kernel_rfl) (fun _ _ _ h => h) (Or.inl ⟨by rfl, fun w1 hw => exec_move rfl (h12)⟩) hHeld ?_
  change wpAnyH _ _ _ _ _ _ _ (a6.put (some 6) (.tuple #[nv, .bool ok])) _
  obtain ⟨a7, e7⟩ : ∃ act, act = a6.put (some 6) (.tuple #[nv, .bool ok]) := ⟨_, rfl⟩
  rw [← e7] at h ⊢
  have z7 : a7.tmps.size = 44 := by rw [e7, put_size]; exact z6
  clear h12
  have h6 : a7.tmps.getD 6 undef = .tuple #[nv, .bool ok] := by rw [e7]; exact put_same _ _ _ (by omega)
  clear e7 z6
  refine wpAnyH_take (i := 7) (oi := { dst := some 13, op := Op.extract (Operand.tmp 6) 0, type := 94, pos := "tree.go:131", after := #[{ on := 6, ground := Ground.data }], guard := none }) (v := nv) rfl (by kernel_rfl) (by kernel_rfl) (by kernel_rfl) (fun _ _ _ h => h) (Or.inl ⟨by rfl, fun w1 hw => exec_extract rfl (h6) rfl⟩) hHeld ?_
  change wpAnyH _ _ _ _ _ _ _ (a7.put (some 13) (nv)) _
  obtain ⟨a8, e8⟩ : ∃ act, act = a7.put (some 13) (nv) := ⟨_, rfl⟩
  rw [← e8] at h ⊢
  have z8 : a8.tmps.size = 44 := by rw [e8, put_size]; exact z7
  replace h6 : a8.tmps.getD 6 undef = .tuple #[nv, .bool ok] := by rw [e8, put_ne _ _ _ _ (by decide)]; exact h6
  have h13 : a8.tmps.getD 13 undef = nv := by rw [e8]; exact put_same _ _ _ (by omega)
  clear e8 z7
  refine wpAnyH_take (i := 8) (oi := { dst := some 14, op := Op.extract (Operand.tmp 6) 1, type := 4, pos := "tree.go:131", after := #[{ on := 6, ground := Ground.data }, { on := 10, ground := Ground.gcOnly Departure.lateStores }], guard := none }) (v := .bool ok) rfl (by kernel_rfl) (by kernel_rfl) (by kernel_rfl) (fun _ _ _ h => h) (Or.inl ⟨by rfl, fun w1 hw => exec_extract rfl (h6) rfl⟩) hHeld ?_
  change wpAnyH _ _ _ _ _ _ _ (a8.put (some 14) (.bool ok)) _
  obtain ⟨a9, e9⟩ : ∃ act, act = a8.put (some 14) (.bool ok) := ⟨_, rfl⟩
  rw [← e9] at h ⊢
  have z9 : a9.tmps.size = 44 := by rw [e9, put_size]; exact z8
  clear h6
  replace h13 : a9.tmps.getD 13 undef = nv := by rw [e9, put_ne _ _ _ _ (by decide)]; exact h13
  have h14 : a9.tmps.getD 14 undef = .bool ok := by rw [e9]; exact put_same _ _ _ (by omega)
  clear e9 z8
  refine wpAnyH_ready (rs := [9]) (by kernel_rfl) (by simp) ?_
  refine AllReadyH.cons (o := { dst := some 4, op := Op.alloc 94, type := 0, pos := "tree.go:131", after := #[], guard := none }) rfl (fun K hK => ?_) AllReadyH.nil
  have X := exec_alloc (P := Try.prog) (a := a9) (o := { dst := some 4, op := Op.alloc 94, type := 0, pos := "tree.go:131", after := #[], guard := none }) rfl H9
  rw [if_pos (show Region.wanted { dst := some 4, op := Op.alloc 94, type := 0, pos := "tree.go:131", after := #[], guard := none } (yielded leave1_ops (a9).tmps) = true from rfl), Oper.wp, X]
  show K _ _
  clear X
  refine hK.out _ _ S1 (fun hHeld => ?_)
  clear hK K
  change wpAnyH _ _ _ _ _ _ _ (a9.put (some 4) (.pointer (some ⟨nb, 0, none⟩))) _
  obtain ⟨a10, e10⟩ : ∃ act, act = a9.put (some 4) (.pointer (some ⟨nb, 0, none⟩)) := ⟨_, rfl⟩
  rw [← e10] at h ⊢
  have z10 : a10.tmps.size = 44 := by rw [e10, put_size]; exact z9
  replace h13 : a10.tmps.getD 13 undef = nv := by rw [e10, put_ne _ _ _ _ (by decide)]; exact h13
  replace h14 : a10.tmps.getD 14 undef = .bool ok := by rw [e10, put_ne _ _ _ _ (by decide)]; exact h14
  have h4 : a10.tmps.getD 4 undef = .pointer (some ⟨nb, 0, none⟩) := by rw [e10]; exact put_same _ _ _ (by omega)
  clear e10 z9
  refine wpAnyH_ready (rs := [10]) (by kernel_rfl) (by simp) ?_
  refine AllReadyH.cons (o := { dst := none, op := Op.store 94 (Operand.tmp 4) (Operand.tmp 13), type := 0, pos := "tree.go:131", after := #[{ on := 9, ground := Ground.data }, { on := 7, ground := Ground.data }, { on := 0, ground := Ground.phase }, { on := 1, ground := Ground.phase }, { on := 2, ground := Ground.phase }, { on := 3, ground := Ground.phase }, { on := 4, ground := Ground.phase }, { on := 5, ground := Ground.phase }, { on := 6, ground := Ground.phase }, { on := 7, ground := Ground.phase }, { on := 8, ground := Ground.textOnly Departure.lateStores }, { on := 9, ground := Ground.phase }], guard := none }) rfl (fun K hK => ?_) AllReadyH.nil
  have X := exec_store (P := Try.prog) (a := a10) (o := { dst := none, op := Op.store 94 (Operand.tmp 4) (Operand.tmp 13), type := 0, pos := "tree.go:131", after := #[{ on := 9, ground := Ground.data }, { on := 7, ground := Ground.data }, { on := 0, ground := Ground.phase }, { on := 1, ground := Ground.phase }, { on := 2, ground := Ground.phase }, { on := 3, ground := Ground.phase }, { on := 4, ground := Ground.phase }, { on := 5, ground := Ground.phase }, { on := 6, ground := Ground.phase }, { on := 7, ground := Ground.phase }, { on := 8, ground := Ground.textOnly Departure.lateStores }, { on := 9, ground := Ground.phase }], guard := none }) rfl (h4) (h13) H10
  rw [if_pos (show Region.wanted { dst := none, op := Op.store 94 (Operand.tmp 4) (Operand.tmp 13), type := 0, pos := "tree.go:131", after := #[{ on := 9, ground := Ground.data }, { on := 7, ground := Ground.data }, { on := 0, ground := Ground.phase }, { on := 1, ground := Ground.phase }, { on := 2, ground := Ground.phase }, { on := 3, ground := Ground.phase }, { on := 4, ground := Ground.phase }, { on := 5, ground := Ground.phase }, { on := 6, ground := Ground.phase }, { on := 7, ground := Ground.phase }, { on := 8, ground := Ground.textOnly Departure.lateStores }, { on := 9, ground := Ground.phase }], guard := none } (yielded leave1_ops (a10).tmps) = true from rfl), Oper.wp, X]
  show K a10 w2
  clear X
  refine hK.out _ _ S2 (fun hHeld => ?_)
  clear hK K
  clear h13
  clear h4
  refine wpAnyH_take (i := 11) (oi := { dst := some 5, op := Op.assign (Operand.tmp 14), type := 4, pos := "tree.go:131", after := #[{ on := 8, ground := Ground.data }, { on := 10, ground := Ground.chain }, { on := 0, ground := Ground.phase }, { on := 1, ground := Ground.phase }, { on := 2, ground := Ground.phase }, { on := 3, ground := Ground.phase }, { on := 4, ground := Ground.phase }, { on := 5, ground := Ground.phase }, { on := 6, ground := Ground.phase }, { on := 7, ground := Ground.phase }, { on := 8, ground := Ground.phase }, { on := 9, ground := Ground.phase }, { on := 10, ground := Ground.phase }], guard := none }) (v := .bool ok) rfl (by kernel_rfl) (by kernel_rfl) (by kernel_rfl) (fun _ _ _ h => h) (Or.inl ⟨by rfl, fun w1 hw => exec_assign rfl (h14)⟩) hHeld ?_
  change wpAnyH _ _ _ _ _ _ _ (a10.put (some 5) (.bool ok)) _
  obtain ⟨a11, e11⟩ : ∃ act, act = a10.put (some 5) (.bool ok) := ⟨_, rfl⟩
  rw [← e11] at h ⊢
  have z11 : a11.tmps.size = 44 := by rw [e11, put_size]; exact z10
  clear h14
  clear e11 z10
  exact wpAnyH_done (by kernel_rfl) (NoPanic.normal (h _ rfl)) _
def leave3_ops : Array Oper := #[{ dst := some 21, op := Op.move (Operand.tmp 0), type := 25, pos := "tree.go:135", after := #[], guard := none }, { dst := some 22, op := Op.nilCheck (Operand.tmp 21), type := 0, pos := "tree.go:135", after := #[{ on := 0, ground := Ground.data }], guard := none }, { dst := some 23, op := Op.fieldAddr 82 (Operand.tmp 22) 1, type := 0, pos := "tree.go:135", after := #[{ on := 1, ground := Ground.data }], guard := none }, { dst := some 24, op := Op.load 80 (Operand.tmp 23), type := 80, pos := "tree.go:135", after := #[{ on := 2, ground := Ground.data }], guard := none }, { dst := some 25, op := Op.fieldAddr 94 (Operand.tmp 4) 0, type := 0, pos := "tree.go:135", after := #[], guard := none }, { dst := some 26, op := Op.load 37 (Operand.tmp 25), type := 37, pos := "tree.go:135", after := #[{ on := 4, ground := Ground.data }], guard := none }, { dst := some 27, op := Op.lookup 80 (Operand.tmp 24) (Operand.tmp 26) false, type := 95, pos := "tree.go:135", after := #[{ on := 3, ground := Ground.data }, { on := 5, ground := Ground.data }], guard := none }, { dst := some 28, op := Op.load 37 (Operand.tmp 3), type := 37, pos := "tree.go:135", after := #[], guard := none }, { dst := none, op := Op.call { callee := Callee.builtin Builtin.delete, args := #[Operand.tmp 27, Operand.tmp 28], argTypes := #[95, 37] }, type := 0, pos := "tree.go:135", after := #[{ on := 6, ground := Ground.data }, { on := 7, ground := Ground.data }], guard := none }]
theorem leave3 (t bi nb : Nat) (mv uv rv kv : Value) (w1 : World) (S : World → Prop) (a : Act) (w : World) (Q : Exit → Act → World → Prop) (hsz : a.tmps.size = 44)
    (h0 : a.tmps.getD 0 undef = .pointer (some ⟨t, 0, none⟩))
    (h3 : a.tmps.getD 3 undef = .pointer (some ⟨bi, 0, none⟩))
    (h4 : a.tmps.getD 4 undef = .pointer (some ⟨nb, 0, none⟩))
    (hS0 : S w.drew)
    (H3 : ∀ wx, S wx → (Instr.loadAt 80 (.pointer (some ⟨t, 1, none⟩))).run Try.prog wx = .ok (mv) wx)
    (H5 : ∀ wx, S wx → (Instr.loadAt 37 (.pointer (some ⟨nb, 0, none⟩))).run Try.prog wx = .ok (uv) wx)
    (H6 : ∀ wx, S wx → (Instr.lookup 80 (mv) (uv) false).run Try.prog wx = .ok (rv) wx)
    (H7 : ∀ wx, S wx → (Instr.loadAt 37 (.pointer (some ⟨bi, 0, none⟩))).run Try.prog wx = .ok (kv) wx)
    (H8 : (Builtin.delete_ #[95, 37] 0 #[rv, kv]).run Try.prog (w.drew) = .ok (.tuple #[]) w1) (S1 : S w1)
    (h : ∀ (a' : Act), a' = ((((((((a).put (some 21) (.pointer (some ⟨t, 0, none⟩))).put (some 22) (.pointer (some ⟨t, 0, none⟩))).put (some 23) (.pointer (some ⟨t, 1, none⟩))).put (some 24) (mv)).put (some 25) (.pointer (some ⟨nb, 0, none⟩))).put (some 26) (uv)).put (some 27) (rv)).put (some 28) (kv) → Q .normal a' w1) :
    (Code.region 3 leave3_ops true).wp Try.prog Q a w := by
  refine wp_region_noPanic ?_
  refine wp_region_held_drew (S := S) (by kernel_rfl) hS0 (fun hHeld => ?_)
  refine wpAnyH_take (i := 0) (oi := { dst := some 21, op := Op.move (Operand.tmp 0), type := 25, pos := "tree.go:135", after := #[], guard := none }) (v := .pointer (some ⟨t, 0, none⟩)) rfl (by kernel_rfl) (by kernel_rfl) (by kernel_rfl) (fun _ _ _ h => h) (Or.inl ⟨by rfl, fun w1 hw => exec_move rfl (h0)⟩) hHeld ?_
  change wpAnyH _ _ _ _ _ _ _ (a.put (some 21) (.pointer (some ⟨t, 0, none⟩))) _
  obtain ⟨a1, e1⟩ : ∃ act, act = a.put (some 21) (.pointer (some ⟨t, 0, none⟩)) := ⟨_, rfl⟩
  rw [← e1] at h ⊢
  have z1 : a1.tmps.size = 44 := by rw [e1, put_size]; exact hsz
  clear h0
  replace h3 : a1.tmps.getD 3 undef = .pointer (some ⟨bi, 0, none⟩) := by rw [e1, put_ne _ _ _ _ (by decide)]; exact h3
  replace h4 : a1.tmps.getD 4 undef = .pointer (some ⟨nb, 0, none⟩) := by rw [e1, put_ne _ _ _ _ (by decide)]; exact h4
  have h21 : a1.tmps.getD 21 undef = .pointer (some ⟨t, 0, none⟩) := by rw [e1]; exact put_same _ _ _ (by omega)
  clear e1 hsz
  refine wpAnyH_take (i := 1) (oi := { dst := some 22, op := Op.nilCheck (Operand.tmp 21), type := 0, pos := "tree.go:135", after := #[{ on := 0, ground := Ground.data }], guard := none }) (v := .pointer (some ⟨t, 0, none⟩)) rfl (by kernel_rfl) (by kernel_rfl) (by kernel_rfl) (fun _ _ _ h => h) (Or.inl ⟨by rfl, fun w1 hw => exec_nilCheck rfl (h21)⟩) hHeld ?_
  change wpAnyH _ _ _ _ _ _ _ (a1.put (some 22) (.pointer (some ⟨t, 0, none⟩))) _
  obtain ⟨a2, e2⟩ : ∃ act, act = a1.put (some 22) (.pointer (some ⟨t, 0, none⟩)) := ⟨_, rfl⟩
  rw [← e2] at h ⊢
  have z2 : a2.tmps.size = 44 := by rw [e2, put_size]; exact z1
  replace h3 : a2.tmps.getD 3 undef = .pointer (some ⟨bi, 0, none⟩) := by rw [e2, put_ne _ _ _ _ (by decide)]; exact h3
  replace h4 : a2.tmps.getD 4 undef = .pointer (some ⟨nb, 0, none⟩) := by rw [e2, put_ne _ _ _ _ (by decide)]; exact h4
  clear h21
  have h22 : a2.tmps.getD 22 undef = .pointer (some ⟨t, 0, none⟩) := by rw [e2]; exact put_same _ _ _ (by omega)
  clear e2 z1
  refine wpAnyH_take (i := 2) (oi := { dst := some 23, op := Op.fieldAddr 82 (Operand.tmp 22) 1, type := 0, pos := "tree.go:135", after := #[{ on := 1, ground := Ground.data }], guard := none }) (v := .pointer (some ⟨t, 1, none⟩)) rfl (by kernel_rfl) (by kernel_rfl) (by kernel_rfl) (fun _ _ _ h => h) (Or.inl ⟨by rfl, fun w1 hw => exec_fieldAt rfl (h22) (fa_82_1 _ _)⟩) hHeld ?_
  change wpAnyH _ _ _ _ _ _ _ (a2.put (some 23) (.pointer (some ⟨t, 1, none⟩))) _
  obtain ⟨a3, e3⟩ : ∃ act, act = a2.put (some 23) (.pointer (some ⟨t, 1, none⟩)) := ⟨_, rfl⟩
  rw [← e3] at h ⊢
  have z3 : a3.tmps.size = 44 := by rw [e3, put_size]; exact z2
  replace h3 : a3.tmps.getD 3 undef = .pointer (some ⟨bi, 0, none⟩) := by rw [e3, put_ne _ _ _ _ (by decide)]; exact h3
  replace h4 : a3.tmps.getD 4 undef = .pointer (some ⟨nb, 0, none⟩) := by rw [e3, put_ne _ _ _ _ (by decide)]; exact h4
  clear h22
  have h23 : a3.tmps.getD 23 undef = .pointer (some ⟨t, 1, none⟩) := by rw [e3]; exact put_same _ _ _ (by omega)
  clear e3 z2
  refine wpAnyH_take (i := 3) (oi := { dst := some 24, op := Op.load 80 (Operand.tmp 23), type := 80, pos := "tree.go:135", after := #[{ on := 2, ground := Ground.data }], guard := none }) (v := mv) rfl (by kernel_rfl) (by kernel_rfl) (by kernel_rfl) (fun _ _ _ h => h) (Or.inl ⟨by rfl, fun w1 hw => exec_load rfl (h23) (H3 _ hw)⟩) hHeld ?_
  change wpAnyH _ _ _ _ _ _ _ (a3.put (some 24) (mv)) _
  obtain ⟨a4, e4⟩ : ∃ act, act = a3.put (some 24) (mv) := ⟨_, rfl⟩
  rw [← e4] at h ⊢
  have z4 : a4.tmps.size = 44 := by rw [e4, put_size]; exact z3
  replace h3 : a4.tmps.getD 3 undef = .pointer (some ⟨bi, 0, none⟩) := by rw [e4, put_ne _ _ _ _ (by decide)]; exact h3
  replace h4 : a4.tmps.getD 4 undef = .pointer (some ⟨nb, 0, none⟩) := by rw [e4, put_ne _ _ _ _ (by decide)]; exact h4
  clear h23
  have h24 : a4.tmps.getD 24 undef = mv := by rw [e4]; exact put_same _ _ _ (by omega)
  clear e4 z3
  refine wpAnyH_take (i := 4) (oi := { dst := some 25, op := Op.fieldAddr 94 (Operand.tmp 4) 0, type := 0, pos := "tree.go:135", after := #[], guard := none }) (v := .pointer (some ⟨nb, 0, none⟩)) rfl (by kernel_rfl) (by kernel_rfl) (by kernel_rfl) (fun _ _ _ h => h) (Or.inl ⟨by rfl, fun w1 hw => exec_fieldAt rfl (h4) (fa_94_0 _ _)⟩) hHeld ?_
  change wpAnyH _ _ _ _ _ _ _ (a4.put (some 25) (.pointer (some ⟨nb, 0, none⟩))) _
  obtain ⟨a5, e5⟩ : ∃ act, act = a4.put (some 25) (.pointer (some ⟨nb, 0, none⟩)) := ⟨_, rfl⟩
  rw [← e5] at h ⊢
  have z5 : a5.tmps.size = 44 := by rw [e5, put_size]; exact z4
  replace h3 : a5.tmps.getD 3 undef = .pointer (some ⟨bi, 0, none⟩) := by rw [e5, put_ne _ _ _ _ (by decide)]; exact h3
  clear h4
  replace h24 : a5.tmps.getD 24 undef = mv := by rw [e5, put_ne _ _ _ _ (by decide)]; exact h24
  have h25 : a5.tmps.getD 25 undef = .pointer (some ⟨nb, 0, none⟩) := by rw [e5]; exact put_same _ _ _ (by omega)
  clear e5 z4
  refine wpAnyH_take (i := 5) (oi := { dst := some 26, op := Op.load 37 (Operand.tmp 25), type := 37, pos := "tree.go:135", after := #[{ on := 4, ground := Ground.data }], guard := none }) (v := uv) rfl (by kernel_rfl) (by kernel_rfl) (by kernel_rfl) (fun _ _ _ h => h) (Or.inl ⟨by rfl, fun w1 hw => exec_load rfl (h25) (H5 _ hw)⟩) hHeld ?_
  change wpAnyH _ _ _ _ _ _ _ (a5.put (some 26) (uv)) _
  obtain ⟨a6, e6⟩ : ∃ act, act = a5.put (some 26) (uv) := ⟨_, rfl⟩
  rw [← e6] at h ⊢
  have z6 : a6.tmps.size = 44 := by rw [e6, put_size]; exact z5
  replace h3 : a6.tmps.getD 3 undef = .pointer (some ⟨bi, 0, none⟩) := by rw [e6, put_ne _ _ _ _ (by decide)]; exact h3
  replace h24 : a6.tmps.getD 24 undef = mv := by rw [e6, put_ne _ _ _ _ (by decide)]; exact h24
  clear h25
  have h26 : a6.tmps.getD 26 undef = uv := by rw [e6]; exact put_same _ _ _ (by omega)
  clear e6 z5
  refine wpAnyH_take (i := 6) (oi := { dst := some 27, op := Op.lookup 80 (Operand.tmp 24) (Operand.tmp 26) false, type := 95, pos := "tree.go:135", after := #[{ on := 3, ground := Ground.data }, { on := 5, ground := Ground.data }], guard := none }) (v := rv) rfl (by kernel_rfl) (by kernel_rfl) (by kernel_rfl) (fun _ _ _ h => h) (Or.inl ⟨by rfl, fun w1 hw => exec_lookup rfl (h24) (h26) (H6 _ hw)⟩) hHeld ?_
  change wpAnyH _ _ _ _ _ _ _ (a6.put (some 27) (rv)) _
  obtain ⟨a7, e7⟩ : ∃ act, act = a6.put (some 27) (rv) := ⟨_, rfl⟩
  rw [← e7] at h ⊢
  have z7 : a7.tmps.size = 44 := by rw [e7, put_size]; exact z6
  replace h3 : a7.tmps.getD 3 undef = .pointer (some ⟨bi, 0, none⟩) := by rw [e7, put_ne _ _ _ _ (by decide)]; exact h3
  clear h24
  clear h26
  have h27 : a7.tmps.getD 27 undef = rv := by rw [e7]; exact put_same _ _ _ (by omega)
  clear e7 z6
  refine wpAnyH_take (i := 7) (oi := { dst := some 28, op := Op.load 37 (Operand.tmp 3), type := 37, pos := "tree.go:135", after := #[], guard := none }) (v := kv) rfl (by kernel_rfl) (by kernel_rfl) (by kernel_rfl) (fun _ _ _ h => h) (Or.inl ⟨by rfl, fun w1 hw => exec_load rfl (h3) (H7 _ hw)⟩) hHeld ?_
  change wpAnyH _ _ _ _ _ _ _ (a7.put (some 28) (kv)) _
  obtain ⟨a8, e8⟩ : ∃ act, act = a7.put (some 28) (kv) := ⟨_, rfl⟩
  rw [← e8] at h ⊢
  have z8 : a8.tmps.size = 44 := by rw [e8, put_size]; exact z7
  clear h3
  replace h27 : a8.tmps.getD 27 undef = rv := by rw [e8, put_ne _ _ _ _ (by decide)]; exact h27
  have h28 : a8.tmps.getD 28 undef = kv := by rw [e8]; exact put_same _ _ _ (by omega)
  clear e8 z7
  refine wpAnyH_ready (rs := [8]) (by kernel_rfl) (by simp) ?_
  refine AllReadyH.cons (o := { dst := none, op := Op.call { callee := Callee.builtin Builtin.delete, args := #[Operand.tmp 27, Operand.tmp 28], argTypes := #[95, 37] }, type := 0, pos := "tree.go:135", after := #[{ on := 6, ground := Ground.data }, { on := 7, ground := Ground.data }], guard := none }) rfl (fun K hK => ?_) AllReadyH.nil
  have X := exec_delete (P := Try.prog) (a := a8) (o := { dst := none, op := Op.call { callee := Callee.builtin Builtin.delete, args := #[Operand.tmp 27, Operand.tmp 28], argTypes := #[95, 37] }, type := 0, pos := "tree.go:135", after := #[{ on := 6, ground := Ground.data }, { on := 7, ground := Ground.data }], guard := none }) rfl (h27) (h28) H8
  rw [if_pos (show Region.wanted { dst := none, op := Op.call { callee := Callee.builtin Builtin.delete, args := #[Operand.tmp 27, Operand.tmp 28], argTypes := #[95, 37] }, type := 0, pos := "tree.go:135", after := #[{ on := 6, ground := Ground.data }, { on := 7, ground := Ground.data }], guard := none } (yielded leave3_ops (a8).tmps) = true from rfl), Oper.wp, X]
  show K a8 w1
  clear X
  refine hK.out _ _ S1 (fun hHeld => ?_)
  clear hK K
  clear h27
  clear h28
  exact wpAnyH_done (by kernel_rfl) (NoPanic.normal (h _ rfl)) _
def leave4_ops : Array Oper := #[{ dst := some 29, op := Op.move (Operand.tmp 0), type := 25, pos := "tree.go:136", after := #[], guard := none }, { dst := some 30, op := Op.nilCheck (Operand.tmp 29), type := 0, pos := "tree.go:136", after := #[{ on := 0, ground := Ground.data }], guard := none }, { dst := some 31, op := Op.fieldAddr 82 (Operand.tmp 30) 1, type := 0, pos := "tree.go:136", after := #[{ on := 1, ground := Ground.data }], guard := none }, { dst := some 32, op := Op.load 80 (Operand.tmp 31), type := 80, pos := "tree.go:136", after := #[{ on := 2, ground := Ground.data }], guard := none }, { dst := some 33, op := Op.fieldAddr 94 (Operand.tmp 4) 0, type := 0, pos := "tree.go:136", after := #[], guard := none }, { dst := some 34, op := Op.load 37 (Operand.tmp 33), type := 37, pos := "tree.go:136", after := #[{ on := 4, ground := Ground.data }], guard := none }, { dst := some 35, op := Op.lookup 80 (Operand.tmp 32) (Operand.tmp 34) false, type := 95, pos := "tree.go:136", after := #[{ on := 3, ground := Ground.data }, { on := 5, ground := Ground.data }], guard := none }, { dst := some 36, op := Op.call { callee := Callee.builtin Builtin.len, args := #[Operand.tmp 35], argTypes := #[95] }, type := 3, pos := "tree.go:136", after := #[{ on := 6, ground := Ground.data }], guard := none }, { dst := some 37, op := Op.binOp BinOp.eql 3 (Operand.tmp 36) (Operand.const (Value.int IntKind.i64 0)) 3, type := 4, pos := "tree.go:136", after := #[{ on := 7, ground := Ground.data }], guard := none }]
theorem leave4 (t nb : Nat) (mv uv rv : Value) (n : Int) (q : Bool) (S : World → Prop) (a : Act) (w : World) (Q : Exit → Act → World → Prop) (hsz : a.tmps.size = 44)
    (h0 : a.tmps.getD 0 undef = .pointer (some ⟨t, 0, none⟩))
    (h4 : a.tmps.getD 4 undef = .pointer (some ⟨nb, 0, none⟩))
    (hS0 : S w.drew)
    (H3 : ∀ wx, S wx → (Instr.loadAt 80 (.pointer (some ⟨t, 1, none⟩))).run Try.prog wx = .ok (mv) wx)
    (H5 : ∀ wx, S wx → (Instr.loadAt 37 (.pointer (some ⟨nb, 0, none⟩))).run Try.prog wx = .ok (uv) wx)
    (H6 : ∀ wx, S wx → (Instr.lookup 80 (mv) (uv) false).run Try.prog wx = .ok (rv) wx)
    (H7 : ∀ wx, S wx → (Builtin.len_ #[95] 3 #[rv]).run Try.prog wx = .ok (.int .i64 n) wx)
    (H8 : ∀ wx, (eqGuard BinOp.eql 3 (Operand.tmp 36) (Operand.const (Value.int IntKind.i64 0)) (.int .i64 n) (.int .i64 0)).run Try.prog wx = .ok () wx) (I8 : ∀ wx, S wx → (binOp BinOp.eql 3 (.int .i64 n) (.int .i64 0)).run Try.prog wx = .ok (.bool q) wx)
    (h : ∀ (a' : Act), a' = (((((((((a).put (some 29) (.pointer (some ⟨t, 0, none⟩))).put (some 30) (.pointer (some ⟨t, 0, none⟩))).put (some 31) (.pointer (some ⟨t, 1, none⟩))).put (some 32) (mv)).put (some 33) (.pointer (some ⟨nb, 0, none⟩))).put (some 34) (uv)).put (some 35) (rv)).put (some 36) (.int .i64 n)).put (some 37) (.bool q) → Q .normal a' w.drew) :
    (Code.region 4 leave4_ops true).wp Try.prog Q a w := by
  refine wp_region_noPanic ?_
  refine wp_region_held_drew (S := S) (by kernel_rfl) hS0 (fun hHeld => ?_)
  refine wpAnyH_take (i := 0) (oi := { dst := some 29, op := Op.move (Operand.tmp 0), type := 25, pos := "tree.go:136", after := #[], guard := none }) (v := .pointer (some ⟨t, 0, none⟩)) rfl (by kernel_rfl) (by kernel_rfl) (by kernel_rfl) (fun _ _ _ h => h) (Or.inl ⟨by rfl, fun w1 hw => exec_move rfl (h0)⟩) hHeld ?_
  change wpAnyH _ _ _ _ _ _ _ (a.put (some 29) (.pointer (some ⟨t, 0, none⟩))) _
  obtain ⟨a1, e1⟩ : ∃ act, act = a.put (some 29) (.pointer (some ⟨t, 0, none⟩)) := ⟨_, rfl⟩
  rw [← e1] at h ⊢
  have z1 : a1.tmps.size = 44 := by rw [e1, put_size]; exact hsz
  clear h0
  replace h4 : a1.tmps.getD 4 undef = .pointer (some ⟨nb, 0, none⟩) := by rw [e1, put_ne _ _ _ _ (by decide)]; exact h4
  have h29 : a1.tmps.getD 29 undef = .pointer (some ⟨t, 0, none⟩) := by rw [e1]; exact put_same _ _ _ (by omega)
  clear e1 hsz
  refine wpAnyH_take (i := 1) (oi := { dst := some 30, op := Op.nilCheck (Operand.tmp 29), type := 0, pos := "tree.go:136", after := #[{ on := 0, ground := Ground.data }], guard := none }) (v := .pointer (some ⟨t, 0, none⟩)) rfl (by kernel_rfl) (by kernel_rfl) (by kernel_rfl) (fun _ _ _ h => h) (Or.inl ⟨by rfl, fun w1 hw => exec_nilCheck rfl (h29)⟩) hHeld ?_
  change wpAnyH _ _ _ _ _ _ _ (a1.put (some 30) (.pointer (some ⟨t, 0, none⟩))) _
  obtain ⟨a2, e2⟩ : ∃ act, act = a1.put (some 30) (.pointer (some ⟨t, 0, none⟩)) := ⟨_, rfl⟩
  rw [← e2] at h ⊢
  have z2 : a2.tmps.size = 44 := by rw [e2, put_size]; exact z1
  replace h4 : a2.tmps.getD 4 undef = .pointer (some ⟨nb, 0, none⟩) := by rw [e2, put_ne _ _ _ _ (by decide)]; exact h4
  clear h29
  have h30 : a2.tmps.getD 30 undef = .pointer (some ⟨t, 0, none⟩) := by rw [e2]; exact put_same _ _ _ (by omega)
  clear e2 z1
  refine wpAnyH_take (i := 2) (oi := { dst := some 31, op := Op.fieldAddr 82 (Operand.tmp 30) 1, type := 0, pos := "tree.go:136", after := #[{ on := 1, ground := Ground.data }], guard := none }) (v := .pointer (some ⟨t, 1, none⟩)) rfl (by kernel_rfl) (by kernel_rfl) (by kernel_rfl) (fun _ _ _ h => h) (Or.inl ⟨by rfl, fun w1 hw => exec_fieldAt rfl (h30) (fa_82_1 _ _)⟩) hHeld ?_
  change wpAnyH _ _ _ _ _ _ _ (a2.put (some 31) (.pointer (some ⟨t, 1, none⟩))) _
  obtain ⟨a3, e3⟩ : ∃ act, act = a2.put (some 31) (.pointer (some ⟨t, 1, none⟩)) := ⟨_, rfl⟩
  rw [← e3] at h ⊢
  have z3 : a3.tmps.size = 44 := by rw [e3, put_size]; exact z2
  replace h4 : a3.tmps.getD 4 undef = .pointer (some ⟨nb, 0, none⟩) := by rw [e3, put_ne _ _ _ _ (by decide)]; exact h4
  clear h30
  have h31 : a3.tmps.getD 31 undef = .pointer (some ⟨t, 1, none⟩) := by rw [e3]; exact put_same _ _ _ (by omega)
  clear e3 z2
  refine wpAnyH_take (i := 3) (oi := { dst := some 32, op := Op.load 80 (Operand.tmp 31), type := 80, pos := "tree.go:136", after := #[{ on := 2, ground := Ground.data }], guard := none }) (v := mv) rfl (by kernel_rfl) (by kernel_rfl) (by kernel_rfl) (fun _ _ _ h => h) (Or.inl ⟨by rfl, fun w1 hw => exec_load rfl (h31) (H3 _ hw)⟩) hHeld ?_
  change wpAnyH _ _ _ _ _ _ _ (a3.put (some 32) (mv)) _
  obtain ⟨a4, e4⟩ : ∃ act, act = a3.put (some 32) (mv) := ⟨_, rfl⟩
  rw [← e4] at h ⊢
  have z4 : a4.tmps.size = 44 := by rw [e4, put_size]; exact z3
  replace h4 : a4.tmps.getD 4 undef = .pointer (some ⟨nb, 0, none⟩) := by rw [e4, put_ne _ _ _ _ (by decide)]; exact h4
  clear h31
  have h32 : a4.tmps.getD 32 undef = mv := by rw [e4]; exact put_same _ _ _ (by omega)
  clear e4 z3
  refine wpAnyH_take (i := 4) (oi := { dst := some 33, op := Op.fieldAddr 94 (Operand.tmp 4) 0, type := 0, pos := "tree.go:136", after := #[], guard := none }) (v := .pointer (some ⟨nb, 0, none⟩)) rfl (by kernel_rfl) (by kernel_rfl) (by kernel_rfl) (fun _ _ _ h => h) (Or.inl ⟨by rfl, fun w1 hw => exec_fieldAt rfl (h4) (fa_94_0 _ _)⟩) hHeld ?_
  change wpAnyH _ _ _ _ _ _ _ (a4.put (some 33) (.pointer (some ⟨nb, 0, none⟩))) _
  obtain ⟨a5, e5⟩ : ∃ act, act = a4.put (some 33) (.pointer (some ⟨nb, 0, none⟩)) := ⟨_, rfl⟩
  rw [← e5] at h ⊢
  have z5 : a5.tmps.size = 44 := by rw [e5, put_size]; exact z4
  clear h4
  replace h32 : a5.tmps.getD 32 undef = mv := by rw [e5, put_ne _ _ _ _ (by decide)]; exact h32
  have h33 : a5.tmps.getD 33 undef = .pointer (some ⟨nb, 0, none⟩) := by rw [e5]; exact put_same _ _ _ (by omega)
  clear e5 z4
  refine wpAnyH_take (i := 5) (oi := { dst := some 34, op := Op.load 37 (Operand.tmp 33), type := 37, pos := "tree.go:136", after := #[{ on := 4, ground := Ground.data }], guard := none }) (v := uv) rfl (by kernel_rfl) (by kernel_rfl) (by kernel_rfl) (fun _ _ _ h => h) (Or.inl ⟨by rfl, fun w1 hw => exec_load rfl (h33) (H5 _ hw)⟩) hHeld ?_
  change wpAnyH _ _ _ _ _ _ _ (a5.put (some 34) (uv)) _
  obtain ⟨a6, e6⟩ : ∃ act, act = a5.put (some 34) (uv) := ⟨_, rfl⟩
  rw [← e6] at h ⊢
  have z6 : a6.tmps.size = 44 := by rw [e6, put_size]; exact z5
  replace h32 : a6.tmps.getD 32 undef = mv := by rw [e6, put_ne _ _ _ _ (by decide)]; exact h32
  clear h33
  have h34 : a6.tmps.getD 34 undef = uv := by rw [e6]; exact put_same _ _ _ (by omega)
  clear e6 z5
  refine wpAnyH_take (i := 6) (oi := { dst := some 35, op := Op.lookup 80 (Operand.tmp 32) (Operand.tmp 34) false, type := 95, pos := "tree.go:136", after := #[{ on := 3, ground := Ground.data }, { on := 5, ground := Ground.data }], guard := none }) (v := rv) rfl (by kernel_rfl) (by kernel_rfl) (by kernel_rfl) (fun _ _ _ h => h) (Or.inl ⟨by rfl, fun w1 hw => exec_lookup rfl (h32) (h34) (H6 _ hw)⟩) hHeld ?_
  change wpAnyH _ _ _ _ _ _ _ (a6.put (some 35) (rv)) _
  obtain ⟨a7, e7⟩ : ∃ act, act = a6.put (some 35) (rv) := ⟨_, rfl⟩
  rw [← e7] at h ⊢
  have z7 : a7.tmps.size = 44 := by rw [e7, put_size]; exact z6
  clear h32
  clear h34
  have h35 : a7.tmps.getD 35 undef = rv := by rw [e7]; exact put_same _ _ _ (by omega)
  clear e7 z6
  refine wpAnyH_take (i := 7) (oi := { dst := some 36, op := Op.call { callee := Callee.builtin Builtin.len, args := #[Operand.tmp 35], argTypes := #[95] }, type := 3, pos := "tree.go:136", after := #[{ on := 6, ground := Ground.data }], guard := none }) (v := .int .i64 n) rfl (by kernel_rfl) (by kernel_rfl) (by kernel_rfl) (fun _ _ _ h => h) (Or.inl ⟨by rfl, fun w1 hw => exec_len rfl (h35) (H7 _ hw)⟩) hHeld ?_
  change wpAnyH _ _ _ _ _ _ _ (a7.put (some 36) (.int .i64 n)) _
  obtain ⟨a8, e8⟩ : ∃ act, act = a7.put (some 36) (.int .i64 n) := ⟨_, rfl⟩
  rw [← e8] at h ⊢
  have z8 : a8.tmps.size = 44 := by rw [e8, put_size]; exact z7
  clear h35
  have h36 : a8.tmps.getD 36 undef = .int .i64 n := by rw [e8]; exact put_same _ _ _ (by omega)
  clear e8 z7
  refine wpAnyH_take (i := 8) (oi := { dst := some 37, op := Op.binOp BinOp.eql 3 (Operand.tmp 36) (Operand.const (Value.int IntKind.i64 0)) 3, type := 4, pos := "tree.go:136", after := #[{ on := 7, ground := Ground.data }], guard := none }) (v := .bool q) rfl (by kernel_rfl) (by kernel_rfl) (by kernel_rfl) (fun _ _ _ h => h) (Or.inl ⟨by rfl, fun w1 hw => exec_binOp rfl (h36) (rfl) (H8 _) (I8 _ hw)⟩) hHeld ?_
  change wpAnyH _ _ _ _ _ _ _ (a8.put (some 37) (.bool q)) _
  obtain ⟨a9, e9⟩ : ∃ act, act = a8.put (some 37) (.bool q) := ⟨_, rfl⟩
  rw [← e9] at h ⊢
  have z9 : a9.tmps.size = 44 := by rw [e9, put_size]; exact z8
  clear h36
  clear e9 z8
  exact wpAnyH_done (by kernel_rfl) (NoPanic.normal (h _ rfl)) _
def leave5_ops : Array Oper := #[{ dst := some 38, op := Op.move (Operand.tmp 0), type := 25, pos := "tree.go:137", after := #[], guard := none }, { dst := some 39, op := Op.nilCheck (Operand.tmp 38), type := 0, pos := "tree.go:137", after := #[{ on := 0, ground := Ground.data }], guard := none }, { dst := some 40, op := Op.fieldAddr 82 (Operand.tmp 39) 1, type := 0, pos := "tree.go:137", after := #[{ on := 1, ground := Ground.data }], guard := none }, { dst := some 41, op := Op.load 80 (Operand.tmp 40), type := 80, pos := "tree.go:137", after := #[{ on := 2, ground := Ground.data }], guard := none }, { dst := some 42, op := Op.fieldAddr 94 (Operand.tmp 4) 0, type := 0, pos := "tree.go:137", after := #[], guard := none }, { dst := some 43, op := Op.load 37 (Operand.tmp 42), type := 37, pos := "tree.go:137", after := #[{ on := 4, ground := Ground.data }], guard := none }, { dst := none, op := Op.call { callee := Callee.builtin Builtin.delete, args := #[Operand.tmp 41, Operand.tmp 43], argTypes := #[80, 37] }, type := 0, pos := "tree.go:137", after := #[{ on := 3, ground := Ground.data }, { on := 5, ground := Ground.data }], guard := none }]
theorem leave5 (t nb : Nat) (mv uv : Value) (w1 : World) (S : World → Prop) (a : Act) (w : World) (Q : Exit → Act → World → Prop) (hsz : a.tmps.size = 44)
    (h0 : a.tmps.getD 0 undef = .pointer (some ⟨t, 0, none⟩))
    (h4 : a.tmps.getD 4 undef = .pointer (some ⟨nb, 0, none⟩))
    (hS0 : S w.drew)
    (H3 : ∀ wx, S wx → (Instr.loadAt 80 (.pointer (some ⟨t, 1, none⟩))).run Try.prog wx = .ok (mv) wx)
    (H5 : ∀ wx, S wx → (Instr.loadAt 37 (.pointer (some ⟨nb, 0, none⟩))).run Try.prog wx = .ok (uv) wx)
    (H6 : (Builtin.delete_ #[80, 37] 0 #[mv, uv]).run Try.prog (w.drew) = .ok (.tuple #[]) w1) (S1 : S w1)
    (h : ∀ (a' : Act), a' = ((((((a).put (some 38) (.pointer (some ⟨t, 0, none⟩))).put (some 39) (.pointer (some ⟨t, 0, none⟩))).put (some 40) (.pointer (some ⟨t, 1, none⟩))).put (some 41) (mv)).put (some 42) (.pointer (some ⟨nb, 0, none⟩))).put (some 43) (uv) → Q .normal a' w1) :
    (Code.region 5 leave5_ops true).wp Try.prog Q a w := by
  refine wp_region_noPanic ?_
  refine wp_region_held_drew (S := S) (by kernel_rfl) hS0 (fun hHeld => ?_)
  refine wpAnyH_take (i := 0) (oi := { dst := some 38, op := Op.move (Operand.tmp 0), type := 25, pos := "tree.go:137", after := #[], guard := none }) (v := .pointer (some ⟨t, 0, none⟩)) rfl (by kernel_rfl) (by kernel_rfl) (by kernel_rfl) (fun _ _ _ h => h) (Or.inl ⟨by rfl, fun w1 hw => exec_move rfl (h0)⟩) hHeld ?_
  change wpAnyH _ _ _ _ _ _ _ (a.put (some 38) (.pointer (some ⟨t, 0, none⟩))) _
  obtain ⟨a1, e1⟩ : ∃ act, act = a.put (some 38) (.pointer (some ⟨t, 0, none⟩)) := ⟨_, rfl⟩
  rw [← e1] at h ⊢
  have z1 : a1.tmps.size = 44 := by rw [e1, put_size]; exact hsz
  clear h0
  replace h4 : a1.tmps.getD 4 undef = .pointer (some ⟨nb, 0, none⟩) := by rw [e1, put_ne _ _ _ _ (by decide)]; exact h4
  have h38 : a1.tmps.getD 38 undef = .pointer (some ⟨t, 0, none⟩) := by rw [e1]; exact put_same _ _ _ (by omega)
  clear e1 hsz
  refine wpAnyH_take (i := 1) (oi := { dst := some 39, op := Op.nilCheck (Operand.tmp 38), type := 0, pos := "tree.go:137", after := #[{ on := 0, ground := Ground.data }], guard := none }) (v := .pointer (some ⟨t, 0, none⟩)) rfl (by kernel_rfl) (by kernel_rfl) (by kernel_rfl) (fun _ _ _ h => h) (Or.inl ⟨by rfl, fun w1 hw => exec_nilCheck rfl (h38)⟩) hHeld ?_
  change wpAnyH _ _ _ _ _ _ _ (a1.put (some 39) (.pointer (some ⟨t, 0, none⟩))) _
  obtain ⟨a2, e2⟩ : ∃ act, act = a1.put (some 39) (.pointer (some ⟨t, 0, none⟩)) := ⟨_, rfl⟩
  rw [← e2] at h ⊢
  have z2 : a2.tmps.size = 44 := by rw [e2, put_size]; exact z1
  replace h4 : a2.tmps.getD 4 undef = .pointer (some ⟨nb, 0, none⟩) := by rw [e2, put_ne _ _ _ _ (by decide)]; exact h4
  clear h38
  have h39 : a2.tmps.getD 39 undef = .pointer (some ⟨t, 0, none⟩) := by rw [e2]; exact put_same _ _ _ (by omega)
  clear e2 z1
  refine wpAnyH_take (i := 2) (oi := { dst := some 40, op := Op.fieldAddr 82 (Operand.tmp 39) 1, type := 0, pos := "tree.go:137", after := #[{ on := 1, ground := Ground.data }], guard := none }) (v := .pointer (some ⟨t, 1, none⟩)) rfl (by kernel_rfl) (by kernel_rfl) (by kernel_rfl) (fun _ _ _ h => h) (Or.inl ⟨by rfl, fun w1 hw => exec_fieldAt rfl (h39) (fa_82_1 _ _)⟩) hHeld ?_
  change wpAnyH _ _ _ _ _ _ _ (a2.put (some 40) (.pointer (some ⟨t, 1, none⟩))) _
  obtain ⟨a3, e3⟩ : ∃ act, act = a2.put (some 40) (.pointer (some ⟨t, 1, none⟩)) := ⟨_, rfl⟩
  rw [← e3] at h ⊢
  have z3 : a3.tmps.size = 44 := by rw [e3, put_size]; exact z2
  replace h4 : a3.tmps.getD 4 undef = .pointer (some ⟨nb, 0, none⟩) := by rw [e3, put_ne _ _ _ _ (by decide)]; exact h4
  clear h39
  have h40 : a3.tmps.getD 40 undef = .pointer (some ⟨t, 1, none⟩) := by rw [e3]; exact put_same _ _ _ (by omega)
  clear e3 z2
  refine wpAnyH_take (i := 3) (oi := { dst := some 41, op := Op.load 80 (Operand.tmp 40), type := 80, pos := "tree.go:137", after := #[{ on := 2, ground := Ground.data }], guard := none }) (v := mv) rfl (by kernel_rfl) (by kernel_rfl) (by kernel_rfl) (fun _ _ _ h => h) (Or.inl ⟨by rfl, fun w1 hw => exec_load rfl (h40) (H3 _ hw)⟩) hHeld ?_
  change wpAnyH _ _ _ _ _ _ _ (a3.put (some 41) (mv)) _
  obtain ⟨a4, e4⟩ : ∃ act, act = a3.put (some 41) (mv) := ⟨_, rfl⟩
  rw [← e4] at h ⊢
  have z4 : a4.tmps.size = 44 := by rw [e4, put_size]; exact z3
  replace h4 : a4.tmps.getD 4 undef = .pointer (some ⟨nb, 0, none⟩) := by rw [e4, put_ne _ _ _ _ (by decide)]; exact h4
  clear h40
  have h41 : a4.tmps.getD 41 undef = mv := by rw [e4]; exact put_same _ _ _ (by omega)
  clear e4 z3
  refine wpAnyH_take (i := 4) (oi := { dst := some 42, op := Op.fieldAddr 94 (Operand.tmp 4) 0, type := 0, pos := "tree.go:137", after := #[], guard := none }) (v := .pointer (some ⟨nb, 0, none⟩)) rfl (by kernel_rfl) (by kernel_rfl) (by kernel_rfl) (fun _ _ _ h => h) (Or.inl ⟨by rfl, fun w1 hw => exec_fieldAt rfl (h4) (fa_94_0 _ _)⟩) hHeld ?_
  change wpAnyH _ _ _ _ _ _ _ (a4.put (some 42) (.pointer (some ⟨nb, 0, none⟩))) _
  obtain ⟨a5, e5⟩ : ∃ act, act = a4.put (some 42) (.pointer (some ⟨nb, 0, none⟩)) := ⟨_, rfl⟩
  rw [← e5] at h ⊢
  have z5 : a5.tmps.size = 44 := by rw [e5, put_size]; exact z4
  clear h4
  replace h41 : a5.tmps.getD 41 undef = mv := by rw [e5, put_ne _ _ _ _ (by decide)]; exact h41
  have h42 : a5.tmps.getD 42 undef = .pointer (some ⟨nb, 0, none⟩) := by rw [e5]; exact put_same _ _ _ (by omega)
  clear e5 z4
  refine wpAnyH_take (i := 5) (oi := { dst := some 43, op := Op.load 37 (Operand.tmp 42), type := 37, pos := "tree.go:137", after := #[{ on := 4, ground := Ground.data }], guard := none }) (v := uv) rfl (by kernel_rfl) (by kernel_rfl) (by kernel_rfl) (fun _ _ _ h => h) (Or.inl ⟨by rfl, fun w1 hw => exec_load rfl (h42) (H5 _ hw)⟩) hHeld ?_
  change wpAnyH _ _ _ _ _ _ _ (a5.put (some 43) (uv)) _
  obtain ⟨a6, e6⟩ : ∃ act, act = a5.put (some 43) (uv) := ⟨_, rfl⟩
  rw [← e6] at h ⊢
  have z6 : a6.tmps.size = 44 := by rw [e6, put_size]; exact z5
  replace h41 : a6.tmps.getD 41 undef = mv := by rw [e6, put_ne _ _ _ _ (by decide)]; exact h41
  clear h42
  have h43 : a6.tmps.getD 43 undef = uv := by rw [e6]; exact put_same _ _ _ (by omega)
  clear e6 z5
  refine wpAnyH_ready (rs := [6]) (by kernel_rfl) (by simp) ?_
  refine AllReadyH.cons (o := { dst := none, op := Op.call { callee := Callee.builtin Builtin.delete, args := #[Operand.tmp 41, Operand.tmp 43], argTypes := #[80, 37] }, type := 0, pos := "tree.go:137", after := #[{ on := 3, ground := Ground.data }, { on := 5, ground := Ground.data }], guard := none }) rfl (fun K hK => ?_) AllReadyH.nil
  have X := exec_delete (P := Try.prog) (a := a6) (o := { dst := none, op := Op.call { callee := Callee.builtin Builtin.delete, args := #[Operand.tmp 41, Operand.tmp 43], argTypes := #[80, 37] }, type := 0, pos := "tree.go:137", after := #[{ on := 3, ground := Ground.data }, { on := 5, ground := Ground.data }], guard := none }) rfl (h41) (h43) H6
  rw [if_pos (show Region.wanted { dst := none, op := Op.call { callee := Callee.builtin Builtin.delete, args := #[Operand.tmp 41, Operand.tmp 43], argTypes := #[80, 37] }, type := 0, pos := "tree.go:137", after := #[{ on := 3, ground := Ground.data }, { on := 5, ground := Ground.data }], guard := none } (yielded leave5_ops (a6).tmps) = true from rfl), Oper.wp, X]
  show K a6 w1
  clear X
  refine hK.out _ _ S1 (fun hHeld => ?_)
  clear hK K
  clear h41
  clear h43
  exact wpAnyH_done (by kernel_rfl) (NoPanic.normal (h _ rfl)) _
def lay2_ops : Array Oper := #[{ dst := some 9, op := Op.move (Operand.tmp 0), type := 25, pos := "tree.go:119", after := #[], guard := none }, { dst := some 10, op := Op.nilCheck (Operand.tmp 9), type := 0, pos := "tree.go:119", after := #[{ on := 0, ground := Ground.data }], guard := none }, { dst := some 11, op := Op.fieldAddr 82 (Operand.tmp 10) 0, type := 0, pos := "tree.go:119", after := #[{ on := 1, ground := Ground.data }], guard := none }, { dst := some 12, op := Op.load 79 (Operand.tmp 11), type := 79, pos := "tree.go:119", after := #[{ on := 2, ground := Ground.data }], guard := none }, { dst := some 13, op := Op.load 37 (Operand.tmp 4), type := 37, pos := "tree.go:119", after := #[], guard := none }, { dst := some 14, op := Op.load 94 (Operand.tmp 5), type := 94, pos := "tree.go:119", after := #[], guard := none }, { dst := none, op := Op.mapUpdate 79 (Operand.tmp 12) (Operand.tmp 13) (Operand.tmp 14), type := 0, pos := "tree.go:119", after := #[{ on := 3, ground := Ground.data }, { on := 4, ground := Ground.data }, { on := 5, ground := Ground.data }, { on := 0, ground := Ground.phase }, { on := 1, ground := Ground.phase }, { on := 2, ground := Ground.phase }, { on := 3, ground := Ground.phase }, { on := 4, ground := Ground.phase }, { on := 5, ground := Ground.phase }], guard := none }]
theorem lay2 (t bi nb : Nat) (mv kv nv : Value) (w1 : World) (S : World → Prop) (a : Act) (w : World) (Q : Exit → Act → World → Prop) (hsz : a.tmps.size = 41)
    (h0 : a.tmps.getD 0 undef = .pointer (some ⟨t, 0, none⟩))
    (h4 : a.tmps.getD 4 undef = .pointer (some ⟨bi, 0, none⟩))
    (h5 : a.tmps.getD 5 undef = .pointer (some ⟨nb, 0, none⟩))
    (hS0 : S w.drew)
    (H3 : ∀ wx, S wx → (Instr.loadAt 79 (.pointer (some ⟨t, 0, none⟩))).run Try.prog wx = .ok (mv) wx)
    (H4 : ∀ wx, S wx → (Instr.loadAt 37 (.pointer (some ⟨bi, 0, none⟩))).run Try.prog wx = .ok (kv) wx)
    (H5 : ∀ wx, S wx → (Instr.loadAt 94 (.pointer (some ⟨nb, 0, none⟩))).run Try.prog wx = .ok (nv) wx)
    (H6 : (Instr.mapUpdate 79 (mv) (kv) (nv)).run Try.prog (w.drew) = .ok () w1) (S1 : S w1)
    (h : ∀ (a' : Act), a' = ((((((a).put (some 9) (.pointer (some ⟨t, 0, none⟩))).put (some 10) (.pointer (some ⟨t, 0, none⟩))).put (some 11) (.pointer (some ⟨t, 0, none⟩))).put (some 12) (mv)).put (some 13) (kv)).put (some 14) (nv) → Q .normal a' w1) :
    (Code.region 2 lay2_ops true).wp Try.prog Q a w := by
  refine wp_region_noPanic ?_
  refine wp_region_held_drew (S := S) (by kernel_rfl) hS0 (fun hHeld => ?_)
  refine wpAnyH_take (i := 0) (oi := { dst := some 9, op := Op.move (Operand.tmp 0), type := 25, pos := "tree.go:119", after := #[], guard := none }) (v := .pointer (some ⟨t, 0, none⟩)) rfl (by kernel_rfl) (by kernel_rfl) (by kernel_rfl) (fun _ _ _ h => h) (Or.inl ⟨by rfl, fun w1 hw => exec_move rfl (h0)⟩) hHeld ?_
  change wpAnyH _ _ _ _ _ _ _ (a.put (some 9) (.pointer (some ⟨t, 0, none⟩))) _
  obtain ⟨a1, e1⟩ : ∃ act, act = a.put (some 9) (.pointer (some ⟨t, 0, none⟩)) := ⟨_, rfl⟩
  rw [← e1] at h ⊢
  have z1 : a1.tmps.size = 41 := by rw [e1, put_size]; exact hsz
  clear h0
  replace h4 : a1.tmps.getD 4 undef = .pointer (some ⟨bi, 0, none⟩) := by rw [e1, put_ne _ _ _ _ (by decide)]; exact h4
  replace h5 : a1.tmps.getD 5 undef = .pointer (some ⟨nb, 0, none⟩) := by rw [e1, put_ne _ _ _ _ (by decide)]; exact h5
  have h9 : a1.tmps.getD 9 undef = .pointer (some ⟨t, 0, none⟩) := by rw [e1]; exact put_same _ _ _ (by omega)
  clear e1 hsz
  refine wpAnyH_take (i := 1) (oi := { dst := some 10, op := Op.nilCheck (Operand.tmp 9), type := 0, pos := "tree.go:119", after := #[{ on := 0, ground := Ground.data }], guard := none }) (v := .pointer (some ⟨t, 0, none⟩)) rfl (by kernel_rfl) (by kernel_rfl) (by kernel_rfl) (fun _ _ _ h => h) (Or.inl ⟨by rfl, fun w1 hw => exec_nilCheck rfl (h9)⟩) hHeld ?_
  change wpAnyH _ _ _ _ _ _ _ (a1.put (some 10) (.pointer (some ⟨t, 0, none⟩))) _
  obtain ⟨a2, e2⟩ : ∃ act, act = a1.put (some 10) (.pointer (some ⟨t, 0, none⟩)) := ⟨_, rfl⟩
  rw [← e2] at h ⊢
  have z2 : a2.tmps.size = 41 := by rw [e2, put_size]; exact z1
  replace h4 : a2.tmps.getD 4 undef = .pointer (some ⟨bi, 0, none⟩) := by rw [e2, put_ne _ _ _ _ (by decide)]; exact h4
  replace h5 : a2.tmps.getD 5 undef = .pointer (some ⟨nb, 0, none⟩) := by rw [e2, put_ne _ _ _ _ (by decide)]; exact h5
  clear h9
  have h10 : a2.tmps.getD 10 undef = .pointer (some ⟨t, 0, none⟩) := by rw [e2]; exact put_same _ _ _ (by omega)
  clear e2 z1
  refine wpAnyH_take (i := 2) (oi := { dst := some 11, op := Op.fieldAddr 82 (Operand.tmp 10) 0, type := 0, pos := "tree.go:119", after := #[{ on := 1, ground := Ground.data }], guard := none }) (v := .pointer (some ⟨t, 0, none⟩)) rfl (by kernel_rfl) (by kernel_rfl) (by kernel_rfl) (fun _ _ _ h => h) (Or.inl ⟨by rfl, fun w1 hw => exec_fieldAt rfl (h10) (fa_82_0 _ _)⟩) hHeld ?_
  change wpAnyH _ _ _ _ _ _ _ (a2.put (some 11) (.pointer (some ⟨t, 0, none⟩))) _
  obtain ⟨a3, e3⟩ : ∃ act, act = a2.put (some 11) (.pointer (some ⟨t, 0, none⟩)) := ⟨_, rfl⟩
  rw [← e3] at h ⊢
  have z3 : a3.tmps.size = 41 := by rw [e3, put_size]; exact z2
  replace h4 : a3.tmps.getD 4 undef = .pointer (some ⟨bi, 0, none⟩) := by rw [e3, put_ne _ _ _ _ (by decide)]; exact h4
  replace h5 : a3.tmps.getD 5 undef = .pointer (some ⟨nb, 0, none⟩) := by rw [e3, put_ne _ _ _ _ (by decide)]; exact h5
  clear h10
  have h11 : a3.tmps.getD 11 undef = .pointer (some ⟨t, 0, none⟩) := by rw [e3]; exact put_same _ _ _ (by omega)
  clear e3 z2
  refine wpAnyH_take (i := 3) (oi := { dst := some 12, op := Op.load 79 (Operand.tmp 11), type := 79, pos := "tree.go:119", after := #[{ on := 2, ground := Ground.data }], guard := none }) (v := mv) rfl (by kernel_rfl) (by kernel_rfl) (by kernel_rfl) (fun _ _ _ h => h) (Or.inl ⟨by rfl, fun w1 hw => exec_load rfl (h11) (H3 _ hw)⟩) hHeld ?_
  change wpAnyH _ _ _ _ _ _ _ (a3.put (some 12) (mv)) _
  obtain ⟨a4, e4⟩ : ∃ act, act = a3.put (some 12) (mv) := ⟨_, rfl⟩
  rw [← e4] at h ⊢
  have z4 : a4.tmps.size = 41 := by rw [e4, put_size]; exact z3
  replace h4 : a4.tmps.getD 4 undef = .pointer (some ⟨bi, 0, none⟩) := by rw [e4, put_ne _ _ _ _ (by decide)]; exact h4
  replace h5 : a4.tmps.getD 5 undef = .pointer (some ⟨nb, 0, none⟩) := by rw [e4, put_ne _ _ _ _ (by decide)]; exact h5
  clear h11
  have h12 : a4.tmps.getD 12 undef = mv := by rw [e4]; exact put_same _ _ _ (by omega)
  clear e4 z3
  refine wpAnyH_take (i := 4) (oi := { dst := some 13, op := Op.load 37 (Operand.tmp 4), type := 37, pos := "tree.go:119", after := #[], guard := none }) (v := kv) rfl (by kernel_rfl) (by kernel_rfl) (by kernel_rfl) (fun _ _ _ h => h) (Or.inl ⟨by rfl, fun w1 hw => exec_load rfl (h4) (H4 _ hw)⟩) hHeld ?_
  change wpAnyH _ _ _ _ _ _ _ (a4.put (some 13) (kv)) _
  obtain ⟨a5, e5⟩ : ∃ act, act = a4.put (some 13) (kv) := ⟨_, rfl⟩
  rw [← e5] at h ⊢
  have z5 : a5.tmps.size = 41 := by rw [e5, put_size]; exact z4
  clear h4
  replace h5 : a5.tmps.getD 5 undef = .pointer (some ⟨nb, 0, none⟩) := by rw [e5, put_ne _ _ _ _ (by decide)]; exact h5
  replace h12 : a5.tmps.getD 12 undef = mv := by rw [e5, put_ne _ _ _ _ (by decide)]; exact h12
  have h13 : a5.tmps.getD 13 undef = kv := by rw [e5]; exact put_same _ _ _ (by omega)
  clear e5 z4
  refine wpAnyH_take (i := 5) (oi := { dst := some 14, op := Op.load 94 (Operand.tmp 5), type := 94, pos := "tree.go:119", after := #[], guard := none }) (v := nv) rfl (by kernel_rfl) (by kernel_rfl) (by kernel_rfl) (fun _ _ _ h => h) (Or.inl ⟨by rfl, fun w1 hw => exec_load rfl (h5) (H5 _ hw)⟩) hHeld ?_
  change wpAnyH _ _ _ _ _ _ _ (a5.put (some 14) (nv)) _
  obtain ⟨a6, e6⟩ : ∃ act, act = a5.put (some 14) (nv) := ⟨_, rfl⟩
  rw [← e6] at h ⊢
  have z6 : a6.tmps.size = 41 := by rw [e6, put_size]; exact z5
  clear h5
  replace h12 : a6.tmps.getD 12 undef = mv := by rw [e6, put_ne _ _ _ _ (by decide)]; exact h12
  replace h13 : a6.tmps.getD 13 undef = kv := by rw [e6, put_ne _ _ _ _ (by decide)]; exact h13
  have h14 : a6.tmps.getD 14 undef = nv := by rw [e6]; exact put_same _ _ _ (by omega)
  clear e6 z5
  refine wpAnyH_ready (rs := [6]) (by kernel_rfl) (by simp) ?_
  refine AllReadyH.cons (o := { dst := none, op := Op.mapUpdate 79 (Operand.tmp 12) (Operand.tmp 13) (Operand.tmp 14), type := 0, pos := "tree.go:119", after := #[{ on := 3, ground := Ground.data }, { on := 4, ground := Ground.data }, { on := 5, ground := Ground.data }, { on := 0, ground := Ground.phase }, { on := 1, ground := Ground.phase }, { on := 2, ground := Ground.phase }, { on := 3, ground := Ground.phase }, { on := 4, ground := Ground.phase }, { on := 5, ground := Ground.phase }], guard := none }) rfl (fun K hK => ?_) AllReadyH.nil
  have X := exec_mapUpdate (P := Try.prog) (a := a6) (o := { dst := none, op := Op.mapUpdate 79 (Operand.tmp 12) (Operand.tmp 13) (Operand.tmp 14), type := 0, pos := "tree.go:119", after := #[{ on := 3, ground := Ground.data }, { on := 4, ground := Ground.data }, { on := 5, ground := Ground.data }, { on := 0, ground := Ground.phase }, { on := 1, ground := Ground.phase }, { on := 2, ground := Ground.phase }, { on := 3, ground := Ground.phase }, { on := 4, ground := Ground.phase }, { on := 5, ground := Ground.phase }], guard := none }) rfl (h12) (h13) (h14) H6
  rw [if_pos (show Region.wanted { dst := none, op := Op.mapUpdate 79 (Operand.tmp 12) (Operand.tmp 13) (Operand.tmp 14), type := 0, pos := "tree.go:119", after := #[{ on := 3, ground := Ground.data }, { on := 4, ground := Ground.data }, { on := 5, ground := Ground.data }, { on := 0, ground := Ground.phase }, { on := 1, ground := Ground.phase }, { on := 2, ground := Ground.phase }, { on := 3, ground := Ground.phase }, { on := 4, ground := Ground.phase }, { on := 5, ground := Ground.phase }], guard := none } (yielded lay2_ops (a6).tmps) = true from rfl), Oper.wp, X]
  show K a6 w1
  clear X
  refine hK.out _ _ S1 (fun hHeld => ?_)
  clear hK K
  clear h12
  clear h13
  clear h14
  exact wpAnyH_done (by kernel_rfl) (NoPanic.normal (h _ rfl)) _
def lay4_ops : Array Oper := #[{ dst := some 17, op := Op.move (Operand.tmp 0), type := 25, pos := "tree.go:123", after := #[], guard := none }, { dst := some 18, op := Op.nilCheck (Operand.tmp 17), type := 0, pos := "tree.go:123", after := #[{ on := 0, ground := Ground.data }], guard := none }, { dst := some 19, op := Op.fieldAddr 82 (Operand.tmp 18) 1, type := 0, pos := "tree.go:123", after := #[{ on := 1, ground := Ground.data }], guard := none }, { dst := some 20, op := Op.load 80 (Operand.tmp 19), type := 80, pos := "tree.go:123", after := #[{ on := 2, ground := Ground.data }], guard := none }, { dst := some 21, op := Op.fieldAddr 94 (Operand.tmp 5) 0, type := 0, pos := "tree.go:123", after := #[], guard := none }, { dst := some 22, op := Op.load 37 (Operand.tmp 21), type := 37, pos := "tree.go:123", after := #[{ on := 4, ground := Ground.data }], guard := none }, { dst := some 23, op := Op.lookup 80 (Operand.tmp 20) (Operand.tmp 22) false, type := 95, pos := "tree.go:123", after := #[{ on := 3, ground := Ground.data }, { on := 5, ground := Ground.data }], guard := none }, { dst := some 24, op := Op.binOp BinOp.eql 95 (Operand.tmp 23) (Operand.const (Value.map none)) 95, type := 4, pos := "tree.go:123", after := #[{ on := 6, ground := Ground.data }], guard := none }]
theorem lay4 (t nb : Nat) (mv uv rv : Value) (q : Bool) (S : World → Prop) (a : Act) (w : World) (Q : Exit → Act → World → Prop) (hsz : a.tmps.size = 41)
    (h0 : a.tmps.getD 0 undef = .pointer (some ⟨t, 0, none⟩))
    (h5 : a.tmps.getD 5 undef = .pointer (some ⟨nb, 0, none⟩))
    (hS0 : S w.drew)
    (H3 : ∀ wx, S wx → (Instr.loadAt 80 (.pointer (some ⟨t, 1, none⟩))).run Try.prog wx = .ok (mv) wx)
    (H5 : ∀ wx, S wx → (Instr.loadAt 37 (.pointer (some ⟨nb, 0, none⟩))).run Try.prog wx = .ok (uv) wx)
    (H6 : ∀ wx, S wx → (Instr.lookup 80 (mv) (uv) false).run Try.prog wx = .ok (rv) wx)
    (H7 : ∀ wx, (eqGuard BinOp.eql 95 (Operand.tmp 23) (Operand.const (Value.map none)) (rv) (.map none)).run Try.prog wx = .ok () wx) (I7 : ∀ wx, S wx → (binOp BinOp.eql 95 (rv) (.map none)).run Try.prog wx = .ok (.bool q) wx)
    (h : ∀ (a' : Act), a' = ((((((((a).put (some 17) (.pointer (some ⟨t, 0, none⟩))).put (some 18) (.pointer (some ⟨t, 0, none⟩))).put (some 19) (.pointer (some ⟨t, 1, none⟩))).put (some 20) (mv)).put (some 21) (.pointer (some ⟨nb, 0, none⟩))).put (some 22) (uv)).put (some 23) (rv)).put (some 24) (.bool q) → Q .normal a' w.drew) :
    (Code.region 4 lay4_ops true).wp Try.prog Q a w := by
  refine wp_region_noPanic ?_
  refine wp_region_held_drew (S := S) (by kernel_rfl) hS0 (fun hHeld => ?_)
  refine wpAnyH_take (i := 0) (oi := { dst := some 17, op := Op.move (Operand.tmp 0), type := 25, pos := "tree.go:123", after := #[], guard := none }) (v := .pointer (some ⟨t, 0, none⟩)) rfl (by kernel_rfl) (by kernel_rfl) (by kernel_rfl) (fun _ _ _ h => h) (Or.inl ⟨by rfl, fun w1 hw => exec_move rfl (h0)⟩) hHeld ?_
  change wpAnyH _ _ _ _ _ _ _ (a.put (some 17) (.pointer (some ⟨t, 0, none⟩))) _
  obtain ⟨a1, e1⟩ : ∃ act, act = a.put (some 17) (.pointer (some ⟨t, 0, none⟩)) := ⟨_, rfl⟩
  rw [← e1] at h ⊢
  have z1 : a1.tmps.size = 41 := by rw [e1, put_size]; exact hsz
  clear h0
  replace h5 : a1.tmps.getD 5 undef = .pointer (some ⟨nb, 0, none⟩) := by rw [e1, put_ne _ _ _ _ (by decide)]; exact h5
  have h17 : a1.tmps.getD 17 undef = .pointer (some ⟨t, 0, none⟩) := by rw [e1]; exact put_same _ _ _ (by omega)
  clear e1 hsz
  refine wpAnyH_take (i := 1) (oi := { dst := some 18, op := Op.nilCheck (Operand.tmp 17), type := 0, pos := "tree.go:123", after := #[{ on := 0, ground := Ground.data }], guard := none }) (v := .pointer (some ⟨t, 0, none⟩)) rfl (by kernel_rfl) (by kernel_rfl) (by kernel_rfl) (fun _ _ _ h => h) (Or.inl ⟨by rfl, fun w1 hw => exec_nilCheck rfl (h17)⟩) hHeld ?_
  change wpAnyH _ _ _ _ _ _ _ (a1.put (some 18) (.pointer (some ⟨t, 0, none⟩))) _
  obtain ⟨a2, e2⟩ : ∃ act, act = a1.put (some 18) (.pointer (some ⟨t, 0, none⟩)) := ⟨_, rfl⟩
  rw [← e2] at h ⊢
  have z2 : a2.tmps.size = 41 := by rw [e2, put_size]; exact z1
  replace h5 : a2.tmps.getD 5 undef = .pointer (some ⟨nb, 0, none⟩) := by rw [e2, put_ne _ _ _ _ (by decide)]; exact h5
  clear h17
  have h18 : a2.tmps.getD 18 undef = .pointer (some ⟨t, 0, none⟩) := by rw [e2]; exact put_same _ _ _ (by omega)
  clear e2 z1
  refine wpAnyH_take (i := 2) (oi := { dst := some 19, op := Op.fieldAddr 82 (Operand.tmp 18) 1, type := 0, pos := "tree.go:123", after := #[{ on := 1, ground := Ground.data }], guard := none }) (v := .pointer (some ⟨t, 1, none⟩)) rfl (by kernel_rfl) (by kernel_rfl) (by kernel_rfl) (fun _ _ _ h => h) (Or.inl ⟨by rfl, fun w1 hw => exec_fieldAt rfl (h18) (fa_82_1 _ _)⟩) hHeld ?_
  change wpAnyH _ _ _ _ _ _ _ (a2.put (some 19) (.pointer (some ⟨t, 1, none⟩))) _
  obtain ⟨a3, e3⟩ : ∃ act, act = a2.put (some 19) (.pointer (some ⟨t, 1, none⟩)) := ⟨_, rfl⟩
  rw [← e3] at h ⊢
  have z3 : a3.tmps.size = 41 := by rw [e3, put_size]; exact z2
  replace h5 : a3.tmps.getD 5 undef = .pointer (some ⟨nb, 0, none⟩) := by rw [e3, put_ne _ _ _ _ (by decide)]; exact h5
  clear h18
  have h19 : a3.tmps.getD 19 undef = .pointer (some ⟨t, 1, none⟩) := by rw [e3]; exact put_same _ _ _ (by omega)
  clear e3 z2
  refine wpAnyH_take (i := 3) (oi := { dst := some 20, op := Op.load 80 (Operand.tmp 19), type := 80, pos := "tree.go:123", after := #[{ on := 2, ground := Ground.data }], guard := none }) (v := mv) rfl (by kernel_rfl) (by kernel_rfl) (by kernel_rfl) (fun _ _ _ h => h) (Or.inl ⟨by rfl, fun w1 hw => exec_load rfl (h19) (H3 _ hw)⟩) hHeld ?_
  change wpAnyH _ _ _ _ _ _ _ (a3.put (some 20) (mv)) _
  obtain ⟨a4, e4⟩ : ∃ act, act = a3.put (some 20) (mv) := ⟨_, rfl⟩
  rw [← e4] at h ⊢
  have z4 : a4.tmps.size = 41 := by rw [e4, put_size]; exact z3
  replace h5 : a4.tmps.getD 5 undef = .pointer (some ⟨nb, 0, none⟩) := by rw [e4, put_ne _ _ _ _ (by decide)]; exact h5
  clear h19
  have h20 : a4.tmps.getD 20 undef = mv := by rw [e4]; exact put_same _ _ _ (by omega)
  clear e4 z3
  refine wpAnyH_take (i := 4) (oi := { dst := some 21, op := Op.fieldAddr 94 (Operand.tmp 5) 0, type := 0, pos := "tree.go:123", after := #[], guard := none }) (v := .pointer (some ⟨nb, 0, none⟩)) rfl (by kernel_rfl) (by kernel_rfl) (by kernel_rfl) (fun _ _ _ h => h) (Or.inl ⟨by rfl, fun w1 hw => exec_fieldAt rfl (h5) (fa_94_0 _ _)⟩) hHeld ?_
  change wpAnyH _ _ _ _ _ _ _ (a4.put (some 21) (.pointer (some ⟨nb, 0, none⟩))) _
  obtain ⟨a5, e5⟩ : ∃ act, act = a4.put (some 21) (.pointer (some ⟨nb, 0, none⟩)) := ⟨_, rfl⟩
  rw [← e5] at h ⊢
  have z5 : a5.tmps.size = 41 := by rw [e5, put_size]; exact z4
  clear h5
  replace h20 : a5.tmps.getD 20 undef = mv := by rw [e5, put_ne _ _ _ _ (by decide)]; exact h20
  have h21 : a5.tmps.getD 21 undef = .pointer (some ⟨nb, 0, none⟩) := by rw [e5]; exact put_same _ _ _ (by omega)
  clear e5 z4
  refine wpAnyH_take (i := 5) (oi := { dst := some 22, op := Op.load 37 (Operand.tmp 21), type := 37, pos := "tree.go:123", after := #[{ on := 4, ground := Ground.data }], guard := none }) (v := uv) rfl (by kernel_rfl) (by kernel_rfl) (by kernel_rfl) (fun _ _ _ h => h) (Or.inl ⟨by rfl, fun w1 hw => exec_load rfl (h21) (H5 _ hw)⟩) hHeld ?_
  change wpAnyH _ _ _ _ _ _ _ (a5.put (some 22) (uv)) _
  obtain ⟨a6, e6⟩ : ∃ act, act = a5.put (some 22) (uv) := ⟨_, rfl⟩
  rw [← e6] at h ⊢
  have z6 : a6.tmps.size = 41 := by rw [e6, put_size]; exact z5
  replace h20 : a6.tmps.getD 20 undef = mv := by rw [e6, put_ne _ _ _ _ (by decide)]; exact h20
  clear h21
  have h22 : a6.tmps.getD 22 undef = uv := by rw [e6]; exact put_same _ _ _ (by omega)
  clear e6 z5
  refine wpAnyH_take (i := 6) (oi := { dst := some 23, op := Op.lookup 80 (Operand.tmp 20) (Operand.tmp 22) false, type := 95, pos := "tree.go:123", after := #[{ on := 3, ground := Ground.data }, { on := 5, ground := Ground.data }], guard := none }) (v := rv) rfl (by kernel_rfl) (by kernel_rfl) (by kernel_rfl) (fun _ _ _ h => h) (Or.inl ⟨by rfl, fun w1 hw => exec_lookup rfl (h20) (h22) (H6 _ hw)⟩) hHeld ?_
  change wpAnyH _ _ _ _ _ _ _ (a6.put (some 23) (rv)) _
  obtain ⟨a7, e7⟩ : ∃ act, act = a6.put (some 23) (rv) := ⟨_, rfl⟩
  rw [← e7] at h ⊢
  have z7 : a7.tmps.size = 41 := by rw [e7, put_size]; exact z6
  clear h20
  clear h22
  have h23 : a7.tmps.getD 23 undef = rv := by rw [e7]; exact put_same _ _ _ (by omega)
  clear e7 z6
  refine wpAnyH_take (i := 7) (oi := { dst := some 24, op := Op.binOp BinOp.eql 95 (Operand.tmp 23) (Operand.const (Value.map none)) 95, type := 4, pos := "tree.go:123", after := #[{ on := 6, ground := Ground.data }], guard := none }) (v := .bool q) rfl (by kernel_rfl) (by kernel_rfl) (by kernel_rfl) (fun _ _ _ h => h) (Or.inl ⟨by rfl, fun w1 hw => exec_binOp rfl (h23) (rfl) (H7 _) (I7 _ hw)⟩) hHeld ?_
  change wpAnyH _ _ _ _ _ _ _ (a7.put (some 24) (.bool q)) _
  obtain ⟨a8, e8⟩ : ∃ act, act = a7.put (some 24) (.bool q) := ⟨_, rfl⟩
  rw [← e8] at h ⊢
  have z8 : a8.tmps.size = 41 := by rw [e8, put_size]; exact z7
  clear h23
  clear e8 z7
  exact wpAnyH_done (by kernel_rfl) (NoPanic.normal (h _ rfl)) _
def lay5_ops : Array Oper := #[{ dst := some 25, op := Op.move (Operand.tmp 0), type := 25, pos := "tree.go:124", after := #[], guard := none }, { dst := some 26, op := Op.nilCheck (Operand.tmp 25), type := 0, pos := "tree.go:124", after := #[{ on := 0, ground := Ground.data }], guard := none }, { dst := some 27, op := Op.fieldAddr 82 (Operand.tmp 26) 1, type := 0, pos := "tree.go:124", after := #[{ on := 1, ground := Ground.data }], guard := none }, { dst := some 28, op := Op.load 80 (Operand.tmp 27), type := 80, pos := "tree.go:124", after := #[{ on := 2, ground := Ground.data }], guard := none }, { dst := some 29, op := Op.fieldAddr 94 (Operand.tmp 5) 0, type := 0, pos := "tree.go:124", after := #[], guard := none }, { dst := some 30, op := Op.load 37 (Operand.tmp 29), type := 37, pos := "tree.go:124", after := #[{ on := 4, ground := Ground.data }], guard := none }, { dst := some 31, op := Op.makeMap 95 none, type := 95, pos := "tree.go:124", after := #[], guard := none }, { dst := none, op := Op.mapUpdate 80 (Operand.tmp 28) (Operand.tmp 30) (Operand.tmp 31), type := 0, pos := "tree.go:124", after := #[{ on := 3, ground := Ground.data }, { on := 5, ground := Ground.data }, { on := 6, ground := Ground.data }, { on := 0, ground := Ground.phase }, { on := 1, ground := Ground.phase }, { on := 2, ground := Ground.phase }, { on := 3, ground := Ground.phase }, { on := 4, ground := Ground.phase }, { on := 5, ground := Ground.phase }, { on := 6, ground := Ground.phase }], guard := none }]
theorem lay5 (t nb : Nat) (mv uv rv : Value) (w1 w2 : World) (S : World → Prop) (a : Act) (w : World) (Q : Exit → Act → World → Prop) (hsz : a.tmps.size = 41)
    (h0 : a.tmps.getD 0 undef = .pointer (some ⟨t, 0, none⟩))
    (h5 : a.tmps.getD 5 undef = .pointer (some ⟨nb, 0, none⟩))
    (hS0 : S w.drew)
    (H3 : ∀ wx, S wx → (Instr.loadAt 80 (.pointer (some ⟨t, 1, none⟩))).run Try.prog wx = .ok (mv) wx)
    (H5 : ∀ wx, S wx → (Instr.loadAt 37 (.pointer (some ⟨nb, 0, none⟩))).run Try.prog wx = .ok (uv) wx)
    (H6 : (Instr.makeMap 95 none).run Try.prog (w.drew) = .ok (rv) w1) (S1 : S w1)
    (H7 : (Instr.mapUpdate 80 (mv) (uv) (rv)).run Try.prog (w1) = .ok () w2) (S2 : S w2)
    (h : ∀ (a' : Act), a' = (((((((a).put (some 25) (.pointer (some ⟨t, 0, none⟩))).put (some 26) (.pointer (some ⟨t, 0, none⟩))).put (some 27) (.pointer (some ⟨t, 1, none⟩))).put (some 28) (mv)).put (some 29) (.pointer (some ⟨nb, 0, none⟩))).put (some 30) (uv)).put (some 31) (rv) → Q .normal a' w2) :
    (Code.region 5 lay5_ops true).wp Try.prog Q a w := by
  refine wp_region_noPanic ?_
  refine wp_region_held_drew (S := S) (by kernel_rfl) hS0 (fun hHeld => ?_)
  refine wpAnyH_take (i := 0) (oi := { dst := some 25, op := Op.move (Operand.tmp 0), type := 25, pos := "tree.go:124", after := #[], guard := none }) (v := .pointer (some ⟨t, 0, none⟩)) rfl (by kernel_rfl) (by kernel_rfl) (by kernel_rfl) (fun _ _ _ h => h) (Or.inl ⟨by rfl, fun w1 hw => exec_move rfl (h0)⟩) hHeld ?_
  change wpAnyH _ _ _ _ _ _ _ (a.put (some 25) (.pointer (some ⟨t, 0, none⟩))) _
  obtain ⟨a1, e1⟩ : ∃ act, act = a.put (some 25) (.pointer (some ⟨t, 0, none⟩)) := ⟨_, rfl⟩
  rw [← e1] at h ⊢
  have z1 : a1.tmps.size = 41 := by rw [e1, put_size]; exact hsz
  clear h0
  replace h5 : a1.tmps.getD 5 undef = .pointer (some ⟨nb, 0, none⟩) := by rw [e1, put_ne _ _ _ _ (by decide)]; exact h5
  have h25 : a1.tmps.getD 25 undef = .pointer (some ⟨t, 0, none⟩) := by rw [e1]; exact put_same _ _ _ (by omega)
  clear e1 hsz
  refine wpAnyH_take (i := 1) (oi := { dst := some 26, op := Op.nilCheck (Operand.tmp 25), type := 0, pos := "tree.go:124", after := #[{ on := 0, ground := Ground.data }], guard := none }) (v := .pointer (some ⟨t, 0, none⟩)) rfl (by kernel_rfl) (by kernel_rfl) (by kernel_rfl) (fun _ _ _ h => h) (Or.inl ⟨by rfl, fun w1 hw => exec_nilCheck rfl (h25)⟩) hHeld ?_
  change wpAnyH _ _ _ _ _ _ _ (a1.put (some 26) (.pointer (some ⟨t, 0, none⟩))) _
  obtain ⟨a2, e2⟩ : ∃ act, act = a1.put (some 26) (.pointer (some ⟨t, 0, none⟩)) := ⟨_, rfl⟩
  rw [← e2] at h ⊢
  have z2 : a2.tmps.size = 41 := by rw [e2, put_size]; exact z1
  replace h5 : a2.tmps.getD 5 undef = .pointer (some ⟨nb, 0, none⟩) := by rw [e2, put_ne _ _ _ _ (by decide)]; exact h5
  clear h25
  have h26 : a2.tmps.getD 26 undef = .pointer (some ⟨t, 0, none⟩) := by rw [e2]; exact put_same _ _ _ (by omega)
  clear e2 z1
  refine wpAnyH_take (i := 2) (oi := { dst := some 27, op := Op.fieldAddr 82 (Operand.tmp 26) 1, type := 0, pos := "tree.go:124", after := #[{ on := 1, ground := Ground.data }], guard := none }) (v := .pointer (some ⟨t, 1, none⟩)) rfl (by kernel_rfl) (by kernel_rfl) (by kernel_rfl) (fun _ _ _ h => h) (Or.inl ⟨by rfl, fun w1 hw => exec_fieldAt rfl (h26) (fa_82_1 _ _)⟩) hHeld ?_
  change wpAnyH _ _ _ _ _ _ _ (a2.put (some 27) (.pointer (some ⟨t, 1, none⟩))) _
  obtain ⟨a3, e3⟩ : ∃ act, act = a2.put (some 27) (.pointer (some ⟨t, 1, none⟩)) := ⟨_, rfl⟩
  rw [← e3] at h ⊢
  have z3 : a3.tmps.size = 41 := by rw [e3, put_size]; exact z2
  replace h5 : a3.tmps.getD 5 undef = .pointer (some ⟨nb, 0, none⟩) := by rw [e3, put_ne _ _ _ _ (by decide)]; exact h5
  clear h26
  have h27 : a3.tmps.getD 27 undef = .pointer (some ⟨t, 1, none⟩) := by rw [e3]; exact put_same _ _ _ (by omega)
  clear e3 z2
  refine wpAnyH_take (i := 3) (oi := { dst := some 28, op := Op.load 80 (Operand.tmp 27), type := 80, pos := "tree.go:124", after := #[{ on := 2, ground := Ground.data }], guard := none }) (v := mv) rfl (by kernel_rfl) (by kernel_rfl) (by kernel_rfl) (fun _ _ _ h => h) (Or.inl ⟨by rfl, fun w1 hw => exec_load rfl (h27) (H3 _ hw)⟩) hHeld ?_
  change wpAnyH _ _ _ _ _ _ _ (a3.put (some 28) (mv)) _
  obtain ⟨a4, e4⟩ : ∃ act, act = a3.put (some 28) (mv) := ⟨_, rfl⟩
  rw [← e4] at h ⊢
  have z4 : a4.tmps.size = 41 := by rw [e4, put_size]; exact z3
  replace h5 : a4.tmps.getD 5 undef = .pointer (some ⟨nb, 0, none⟩) := by rw [e4, put_ne _ _ _ _ (by decide)]; exact h5
  clear h27
  have h28 : a4.tmps.getD 28 undef = mv := by rw [e4]; exact put_same _ _ _ (by omega)
  clear e4 z3
  refine wpAnyH_take (i := 4) (oi := { dst := some 29, op := Op.fieldAddr 94 (Operand.tmp 5) 0, type := 0, pos := "tree.go:124", after := #[], guard := none }) (v := .pointer (some ⟨nb, 0, none⟩)) rfl (by kernel_rfl) (by kernel_rfl) (by kernel_rfl) (fun _ _ _ h => h) (Or.inl ⟨by rfl, fun w1 hw => exec_fieldAt rfl (h5) (fa_94_0 _ _)⟩) hHeld ?_
  change wpAnyH _ _ _ _ _ _ _ (a4.put (some 29) (.pointer (some ⟨nb, 0, none⟩))) _
  obtain ⟨a5, e5⟩ : ∃ act, act = a4.put (some 29) (.pointer (some ⟨nb, 0, none⟩)) := ⟨_, rfl⟩
  rw [← e5] at h ⊢
  have z5 : a5.tmps.size = 41 := by rw [e5, put_size]; exact z4
  clear h5
  replace h28 : a5.tmps.getD 28 undef = mv := by rw [e5, put_ne _ _ _ _ (by decide)]; exact h28
  have h29 : a5.tmps.getD 29 undef = .pointer (some ⟨nb, 0, none⟩) := by rw [e5]; exact put_same _ _ _ (by omega)
  clear e5 z4
  refine wpAnyH_take (i := 5) (oi := { dst := some 30, op := Op.load 37 (Operand.tmp 29), type := 37, pos := "tree.go:124", after := #[{ on := 4, ground := Ground.data }], guard := none }) (v := uv) rfl (by kernel_rfl) (by kernel_rfl) (by kernel_rfl) (fun _ _ _ h => h) (Or.inl ⟨by rfl, fun w1 hw => exec_load rfl (h29) (H5 _ hw)⟩) hHeld ?_
  change wpAnyH _ _ _ _ _ _ _ (a5.put (some 30) (uv)) _
  obtain ⟨a6, e6⟩ : ∃ act, act = a5.put (some 30) (uv) := ⟨_, rfl⟩
  rw [← e6] at h ⊢
  have z6 : a6.tmps.size = 41 := by rw [e6, put_size]; exact z5
  replace h28 : a6.tmps.getD 28 undef = mv := by rw [e6, put_ne _ _ _ _ (by decide)]; exact h28
  clear h29
  have h30 : a6.tmps.getD 30 undef = uv := by rw [e6]; exact put_same _ _ _ (by omega)
  clear e6 z5
  refine wpAnyH_ready (rs := [6]) (by kernel_rfl) (by simp) ?_
  refine AllReadyH.cons (o := { dst := some 31, op := Op.makeMap 95 none, type := 95, pos := "tree.go:124", after := #[], guard := none }) rfl (fun K hK => ?_) AllReadyH.nil
  have X := exec_makeMap (P := Try.prog) (a := a6) (o := { dst := some 31, op := Op.makeMap 95 none, type := 95, pos := "tree.go:124", after := #[], guard := none }) rfl H6
  rw [if_pos (show Region.wanted { dst := some 31, op := Op.makeMap 95 none, type := 95, pos := "tree.go:124", after := #[], guard := none } (yielded lay5_ops (a6).tmps) = true from rfl), Oper.wp, X]
  show K _ _
  clear X
  refine hK.out _ _ S1 (fun hHeld => ?_)
  clear hK K
  change wpAnyH _ _ _ _ _ _ _ (a6.put (some 31) (rv)) _
  obtain ⟨a7, e7⟩ : ∃ act, act = a6.put (some 31) (rv) := ⟨_, rfl⟩
  rw [← e7] at h ⊢
  have z7 : a7.tmps.size = 41 := by rw [e7, put_size]; exact z6
  replace h28 : a7.tmps.getD 28 undef = mv := by rw [e7, put_ne _ _ _ _ (by decide)]; exact h28
  replace h30 : a7.tmps.getD 30 undef = uv := by rw [e7, put_ne _ _ _ _ (by decide)]; exact h30
  have h31 : a7.tmps.getD 31 undef = rv := by rw [e7]; exact put_same _ _ _ (by omega)
  clear e7 z6
  refine wpAnyH_ready (rs := [7]) (by kernel_rfl) (by simp) ?_
  refine AllReadyH.cons (o := { dst := none, op := Op.mapUpdate 80 (Operand.tmp 28) (Operand.tmp 30) (Operand.tmp 31), type := 0, pos := "tree.go:124", after := #[{ on := 3, ground := Ground.data }, { on := 5, ground := Ground.data }, { on := 6, ground := Ground.data }, { on := 0, ground := Ground.phase }, { on := 1, ground := Ground.phase }, { on := 2, ground := Ground.phase }, { on := 3, ground := Ground.phase }, { on := 4, ground := Ground.phase }, { on := 5, ground := Ground.phase }, { on := 6, ground := Ground.phase }], guard := none }) rfl (fun K hK => ?_) AllReadyH.nil
  have X := exec_mapUpdate (P := Try.prog) (a := a7) (o := { dst := none, op := Op.mapUpdate 80 (Operand.tmp 28) (Operand.tmp 30) (Operand.tmp 31), type := 0, pos := "tree.go:124", after := #[{ on := 3, ground := Ground.data }, { on := 5, ground := Ground.data }, { on := 6, ground := Ground.data }, { on := 0, ground := Ground.phase }, { on := 1, ground := Ground.phase }, { on := 2, ground := Ground.phase }, { on := 3, ground := Ground.phase }, { on := 4, ground := Ground.phase }, { on := 5, ground := Ground.phase }, { on := 6, ground := Ground.phase }], guard := none }) rfl (h28) (h30) (h31) H7
  rw [if_pos (show Region.wanted { dst := none, op := Op.mapUpdate 80 (Operand.tmp 28) (Operand.tmp 30) (Operand.tmp 31), type := 0, pos := "tree.go:124", after := #[{ on := 3, ground := Ground.data }, { on := 5, ground := Ground.data }, { on := 6, ground := Ground.data }, { on := 0, ground := Ground.phase }, { on := 1, ground := Ground.phase }, { on := 2, ground := Ground.phase }, { on := 3, ground := Ground.phase }, { on := 4, ground := Ground.phase }, { on := 5, ground := Ground.phase }, { on := 6, ground := Ground.phase }], guard := none } (yielded lay5_ops (a7).tmps) = true from rfl), Oper.wp, X]
  show K a7 w2
  clear X
  refine hK.out _ _ S2 (fun hHeld => ?_)
  clear hK K
  clear h28
  clear h30
  clear h31
  exact wpAnyH_done (by kernel_rfl) (NoPanic.normal (h _ rfl)) _
def lay6_ops : Array Oper := #[{ dst := some 32, op := Op.move (Operand.tmp 0), type := 25, pos := "tree.go:126", after := #[], guard := none }, { dst := some 33, op := Op.nilCheck (Operand.tmp 32), type := 0, pos := "tree.go:126", after := #[{ on := 0, ground := Ground.data }], guard := none }, { dst := some 34, op := Op.fieldAddr 82 (Operand.tmp 33) 1, type := 0, pos := "tree.go:126", after := #[{ on := 1, ground := Ground.data }], guard := none }, { dst := some 35, op := Op.load 80 (Operand.tmp 34), type := 80, pos := "tree.go:126", after := #[{ on := 2, ground := Ground.data }], guard := none }, { dst := some 36, op := Op.fieldAddr 94 (Operand.tmp 5) 0, type := 0, pos := "tree.go:126", after := #[], guard := none }, { dst := some 37, op := Op.load 37 (Operand.tmp 36), type := 37, pos := "tree.go:126", after := #[{ on := 4, ground := Ground.data }], guard := none }, { dst := some 38, op := Op.lookup 80 (Operand.tmp 35) (Operand.tmp 37) false, type := 95, pos := "tree.go:126", after := #[{ on := 3, ground := Ground.data }, { on := 5, ground := Ground.data }], guard := none }, { dst := some 39, op := Op.load 37 (Operand.tmp 4), type := 37, pos := "tree.go:126", after := #[], guard := none }, { dst := some 40, op := Op.build 97 #[], type := 97, pos := "tree.go:126", after := #[], guard := none }, { dst := none, op := Op.mapUpdate 95 (Operand.tmp 38) (Operand.tmp 39) (Operand.tmp 40), type := 0, pos := "tree.go:126", after := #[{ on := 6, ground := Ground.data }, { on := 7, ground := Ground.data }, { on := 8, ground := Ground.data }, { on := 0, ground := Ground.phase }, { on := 1, ground := Ground.phase }, { on := 2, ground := Ground.phase }, { on := 3, ground := Ground.phase }, { on := 4, ground := Ground.phase }, { on := 5, ground := Ground.phase }, { on := 6, ground := Ground.phase }, { on := 7, ground := Ground.phase }, { on := 8, ground := Ground.phase }], guard := none }]
theorem lay6 (t bi nb : Nat) (mv uv rv kv ev : Value) (w1 : World) (S : World → Prop) (a : Act) (w : World) (Q : Exit → Act → World → Prop) (hsz : a.tmps.size = 41)
    (h0 : a.tmps.getD 0 undef = .pointer (some ⟨t, 0, none⟩))
    (h4 : a.tmps.getD 4 undef = .pointer (some ⟨bi, 0, none⟩))
    (h5 : a.tmps.getD 5 undef = .pointer (some ⟨nb, 0, none⟩))
    (hS0 : S w.drew)
    (H3 : ∀ wx, S wx → (Instr.loadAt 80 (.pointer (some ⟨t, 1, none⟩))).run Try.prog wx = .ok (mv) wx)
    (H5 : ∀ wx, S wx → (Instr.loadAt 37 (.pointer (some ⟨nb, 0, none⟩))).run Try.prog wx = .ok (uv) wx)
    (H6 : ∀ wx, S wx → (Instr.lookup 80 (mv) (uv) false).run Try.prog wx = .ok (rv) wx)
    (H7 : ∀ wx, S wx → (Instr.loadAt 37 (.pointer (some ⟨bi, 0, none⟩))).run Try.prog wx = .ok (kv) wx)
    (H8 : ∀ wx, (Instr.build 97 #[]).run Try.prog wx = .ok (ev) wx)
    (H9 : (Instr.mapUpdate 95 (rv) (kv) (ev)).run Try.prog (w.drew) = .ok () w1) (S1 : S w1)
    (h : ∀ (a' : Act), a' = (((((((((a).put (some 32) (.pointer (some ⟨t, 0, none⟩))).put (some 33) (.pointer (some ⟨t, 0, none⟩))).put (some 34) (.pointer (some ⟨t, 1, none⟩))).put (some 35) (mv)).put (some 36) (.pointer (some ⟨nb, 0, none⟩))).put (some 37) (uv)).put (some 38) (rv)).put (some 39) (kv)).put (some 40) (ev) → Q .normal a' w1) :
    (Code.region 6 lay6_ops true).wp Try.prog Q a w := by
  refine wp_region_noPanic ?_
  refine wp_region_held_drew (S := S) (by kernel_rfl) hS0 (fun hHeld => ?_)
  refine wpAnyH_take (i := 0) (oi := { dst := some 32, op := Op.move (Operand.tmp 0), type := 25, pos := "tree.go:126", after := #[], guard := none }) (v := .pointer (some ⟨t, 0, none⟩)) rfl (by kernel_rfl) (by kernel_rfl) (by kernel_rfl) (fun _ _ _ h => h) (Or.inl ⟨by rfl, fun w1 hw => exec_move rfl (h0)⟩) hHeld ?_
  change wpAnyH _ _ _ _ _ _ _ (a.put (some 32) (.pointer (some ⟨t, 0, none⟩))) _
  obtain ⟨a1, e1⟩ : ∃ act, act = a.put (some 32) (.pointer (some ⟨t, 0, none⟩)) := ⟨_, rfl⟩
  rw [← e1] at h ⊢
  have z1 : a1.tmps.size = 41 := by rw [e1, put_size]; exact hsz
  clear h0
  replace h4 : a1.tmps.getD 4 undef = .pointer (some ⟨bi, 0, none⟩) := by rw [e1, put_ne _ _ _ _ (by decide)]; exact h4
  replace h5 : a1.tmps.getD 5 undef = .pointer (some ⟨nb, 0, none⟩) := by rw [e1, put_ne _ _ _ _ (by decide)]; exact h5
  have h32 : a1.tmps.getD 32 undef = .pointer (some ⟨t, 0, none⟩) := by rw [e1]; exact put_same _ _ _ (by omega)
  clear e1 hsz
  refine wpAnyH_take (i := 1) (oi := { dst := some 33, op := Op.nilCheck (Operand.tmp 32), type := 0, pos := "tree.go:126", after := #[{ on := 0, ground := Ground.data }], guard := none }) (v := .pointer (some ⟨t, 0, none⟩)) rfl (by kernel_rfl) (by kernel_rfl) (by kernel_rfl) (fun _ _ _ h => h) (Or.inl ⟨by rfl, fun w1 hw => exec_nilCheck rfl (h32)⟩) hHeld ?_
  change wpAnyH _ _ _ _ _ _ _ (a1.put (some 33) (.pointer (some ⟨t, 0, none⟩))) _
  obtain ⟨a2, e2⟩ : ∃ act, act = a1.put (some 33) (.pointer (some ⟨t, 0, none⟩)) := ⟨_, rfl⟩
  rw [← e2] at h ⊢
  have z2 : a2.tmps.size = 41 := by rw [e2, put_size]; exact z1
  replace h4 : a2.tmps.getD 4 undef = .pointer (some ⟨bi, 0, none⟩) := by rw [e2, put_ne _ _ _ _ (by decide)]; exact h4
  replace h5 : a2.tmps.getD 5 undef = .pointer (some ⟨nb, 0, none⟩) := by rw [e2, put_ne _ _ _ _ (by decide)]; exact h5
  clear h32
  have h33 : a2.tmps.getD 33 undef = .pointer (some ⟨t, 0, none⟩) := by rw [e2]; exact put_same _ _ _ (by omega)
  clear e2 z1
  refine wpAnyH_take (i := 2) (oi := { dst := some 34, op := Op.fieldAddr 82 (Operand.tmp 33) 1, type := 0, pos := "tree.go:126", after := #[{ on := 1, ground := Ground.data }], guard := none }) (v := .pointer (some ⟨t, 1, none⟩)) rfl (by kernel_rfl) (by kernel_rfl) (by kernel_rfl) (fun _ _ _ h => h) (Or.inl ⟨by rfl, fun w1 hw => exec_fieldAt rfl (h33) (fa_82_1 _ _)⟩) hHeld ?_
  change wpAnyH _ _ _ _ _ _ _ (a2.put (some 34) (.pointer (some ⟨t, 1, none⟩))) _
  obtain ⟨a3, e3⟩ : ∃ act, act = a2.put (some 34) (.pointer (some ⟨t, 1, none⟩)) := ⟨_, rfl⟩
  rw [← e3] at h ⊢
  have z3 : a3.tmps.size = 41 := by rw [e3, put_size]; exact z2
  replace h4 : a3.tmps.getD 4 undef = .pointer (some ⟨bi, 0, none⟩) := by rw [e3, put_ne _ _ _ _ (by decide)]; exact h4
  replace h5 : a3.tmps.getD 5 undef = .pointer (some ⟨nb, 0, none⟩) := by rw [e3, put_ne _ _ _ _ (by decide)]; exact h5
  clear h33
  have h34 : a3.tmps.getD 34 undef = .pointer (some ⟨t, 1, none⟩) := by rw [e3]; exact put_same _ _ _ (by omega)
  clear e3 z2
  refine wpAnyH_take (i := 3) (oi := { dst := some 35, op := Op.load 80 (Operand.tmp 34), type := 80, pos := "tree.go:126", after := #[{ on := 2, ground := Ground.data }], guard := none }) (v := mv) rfl (by kernel_rfl) (by kernel_rfl) (by kernel_rfl) (fun _ _ _ h => h) (Or.inl ⟨by rfl, fun w1 hw => exec_load rfl (h34) (H3 _ hw)⟩) hHeld ?_
  change wpAnyH _ _ _ _ _ _ _ (a3.put (some 35) (mv)) _
  obtain ⟨a4, e4⟩ : ∃ act, act = a3.put (some 35) (mv) := ⟨_, rfl⟩
  rw [← e4] at h ⊢
  have z4 : a4.tmps.size = 41 := by rw [e4, put_size]; exact z3
  replace h4 : a4.tmps.getD 4 undef = .pointer (some ⟨bi, 0, none⟩) := by rw [e4, put_ne _ _ _ _ (by decide)]; exact h4
  replace h5 : a4.tmps.getD 5 undef = .pointer (some ⟨nb, 0, none⟩) := by rw [e4, put_ne _ _ _ _ (by decide)]; exact h5
  clear h34
  have h35 : a4.tmps.getD 35 undef = mv := by rw [e4]; exact put_same _ _ _ (by omega)
  clear e4 z3
  refine wpAnyH_take (i := 4) (oi := { dst := some 36, op := Op.fieldAddr 94 (Operand.tmp 5) 0, type := 0, pos := "tree.go:126", after := #[], guard := none }) (v := .pointer (some ⟨nb, 0, none⟩)) rfl (by kernel_rfl) (by kernel_rfl) (by kernel_rfl) (fun _ _ _ h => h) (Or.inl ⟨by rfl, fun w1 hw => exec_fieldAt rfl (h5) (fa_94_0 _ _)⟩) hHeld ?_
  change wpAnyH _ _ _ _ _ _ _ (a4.put (some 36) (.pointer (some ⟨nb, 0, none⟩))) _
  obtain ⟨a5, e5⟩ : ∃ act, act = a4.put (some 36) (.pointer (some ⟨nb, 0, none⟩)) := ⟨_, rfl⟩
  rw [← e5] at h ⊢
  have z5 : a5.tmps.size = 41 := by rw [e5, put_size]; exact z4
  replace h4 : a5.tmps.getD 4 undef = .pointer (some ⟨bi, 0, none⟩) := by rw [e5, put_ne _ _ _ _ (by decide)]; exact h4
  clear h5
  replace h35 : a5.tmps.getD 35 undef = mv := by rw [e5, put_ne _ _ _ _ (by decide)]; exact h35
  have h36 : a5.tmps.getD 36 undef = .pointer (some ⟨nb, 0, none⟩) := by rw [e5]; exact put_same _ _ _ (by omega)
  clear e5 z4
  refine wpAnyH_take (i := 5) (oi := { dst := some 37, op := Op.load 37 (Operand.tmp 36), type := 37, pos := "tree.go:126", after := #[{ on := 4, ground := Ground.data }], guard := none }) (v := uv) rfl (by kernel_rfl) (by kernel_rfl) (by kernel_rfl) (fun _ _ _ h => h) (Or.inl ⟨by rfl, fun w1 hw => exec_load rfl (h36) (H5 _ hw)⟩) hHeld ?_
  change wpAnyH _ _ _ _ _ _ _ (a5.put (some 37) (uv)) _
  obtain ⟨a6, e6⟩ : ∃ act, act = a5.put (some 37) (uv) := ⟨_, rfl⟩
  rw [← e6] at h ⊢
  have z6 : a6.tmps.size = 41 := by rw [e6, put_size]; exact z5
  replace h4 : a6.tmps.getD 4 undef = .pointer (some ⟨bi, 0, none⟩) := by rw [e6, put_ne _ _ _ _ (by decide)]; exact h4
  replace h35 : a6.tmps.getD 35 undef = mv := by rw [e6, put_ne _ _ _ _ (by decide)]; exact h35
  clear h36
  have h37 : a6.tmps.getD 37 undef = uv := by rw [e6]; exact put_same _ _ _ (by omega)
  clear e6 z5
  refine wpAnyH_take (i := 6) (oi := { dst := some 38, op := Op.lookup 80 (Operand.tmp 35) (Operand.tmp 37) false, type := 95, pos := "tree.go:126", after := #[{ on := 3, ground := Ground.data }, { on := 5, ground := Ground.data }], guard := none }) (v := rv) rfl (by kernel_rfl) (by kernel_rfl) (by kernel_rfl) (fun _ _ _ h => h) (Or.inl ⟨by rfl, fun w1 hw => exec_lookup rfl (h35) (h37) (H6 _ hw)⟩) hHeld ?_
  change wpAnyH _ _ _ _ _ _ _ (a6.put (some 38) (rv)) _
  obtain ⟨a7, e7⟩ : ∃ act, act = a6.put (some 38) (rv) := ⟨_, rfl⟩
  rw [← e7] at h ⊢
  have z7 : a7.tmps.size = 41 := by rw [e7, put_size]; exact z6
  replace h4 : a7.tmps.getD 4 undef = .pointer (some ⟨bi, 0, none⟩) := by rw [e7, put_ne _ _ _ _ (by decide)]; exact h4
  clear h35
  clear h37
  have h38 : a7.tmps.getD 38 undef = rv := by rw [e7]; exact put_same _ _ _ (by omega)
  clear e7 z6
  refine wpAnyH_take (i := 7) (oi := { dst := some 39, op := Op.load 37 (Operand.tmp 4), type := 37, pos := "tree.go:126", after := #[], guard := none }) (v := kv) rfl (by kernel_rfl) (by kernel_rfl) (by kernel_rfl) (fun _ _ _ h => h) (Or.inl ⟨by rfl, fun w1 hw => exec_load rfl (h4) (H7 _ hw)⟩) hHeld ?_
  change wpAnyH _ _ _ _ _ _ _ (a7.put (some 39) (kv)) _
  obtain ⟨a8, e8⟩ : ∃ act, act = a7.put (some 39) (kv) := ⟨_, rfl⟩
  rw [← e8] at h ⊢
  have z8 : a8.tmps.size = 41 := by rw [e8, put_size]; exact z7
  clear h4
  replace h38 : a8.tmps.getD 38 undef = rv := by rw [e8, put_ne _ _ _ _ (by decide)]; exact h38
  have h39 : a8.tmps.getD 39 undef = kv := by rw [e8]; exact put_same _ _ _ (by omega)
  clear e8 z7
  refine wpAnyH_take (i := 8) (oi := { dst := some 40, op := Op.build 97 #[], type := 97, pos := "tree.go:126", after := #[], guard := none }) (v := ev) rfl (by kernel_rfl) (by kernel_rfl) (by kernel_rfl) (fun _ _ _ h => h) (Or.inl ⟨by rfl, fun w1 hw => exec_build0 rfl (H8 _)⟩) hHeld ?_
  change wpAnyH _ _ _ _ _ _ _ (a8.put (some 40) (ev)) _
  obtain ⟨a9, e9⟩ : ∃ act, act = a8.put (some 40) (ev) := ⟨_, rfl⟩
  rw [← e9] at h ⊢
  have z9 : a9.tmps.size = 41 := by rw [e9, put_size]; exact z8
  replace h38 : a9.tmps.getD 38 undef = rv := by rw [e9, put_ne _ _ _ _ (by decide)]; exact h38
  replace h39 : a9.tmps.getD 39 undef = kv := by rw [e9, put_ne _ _ _ _ (by decide)]; exact h39
  have h40 : a9.tmps.getD 40 undef = ev := by rw [e9]; exact put_same _ _ _ (by omega)
  clear e9 z8
  refine wpAnyH_ready (rs := [9]) (by kernel_rfl) (by simp) ?_
  refine AllReadyH.cons (o := { dst := none, op := Op.mapUpdate 95 (Operand.tmp 38) (Operand.tmp 39) (Operand.tmp 40), type := 0, pos := "tree.go:126", after := #[{ on := 6, ground := Ground.data }, { on := 7, ground := Ground.data }, { on := 8, ground := Ground.data }, { on := 0, ground := Ground.phase }, { on := 1, ground := Ground.phase }, { on := 2, ground := Ground.phase }, { on := 3, ground := Ground.phase }, { on := 4, ground := Ground.phase }, { on := 5, ground := Ground.phase }, { on := 6, ground := Ground.phase }, { on := 7, ground := Ground.phase }, { on := 8, ground := Ground.phase }], guard := none }) rfl (fun K hK => ?_) AllReadyH.nil
  have X := exec_mapUpdate (P := Try.prog) (a := a9) (o := { dst := none, op := Op.mapUpdate 95 (Operand.tmp 38) (Operand.tmp 39) (Operand.tmp 40), type := 0, pos := "tree.go:126", after := #[{ on := 6, ground := Ground.data }, { on := 7, ground := Ground.data }, { on := 8, ground := Ground.data }, { on := 0, ground := Ground.phase }, { on := 1, ground := Ground.phase }, { on := 2, ground := Ground.phase }, { on := 3, ground := Ground.phase }, { on := 4, ground := Ground.phase }, { on := 5, ground := Ground.phase }, { on := 6, ground := Ground.phase }, { on := 7, ground := Ground.phase }, { on := 8, ground := Ground.phase }], guard := none }) rfl (h38) (h39) (h40) H9
  rw [if_pos (show Region.wanted { dst := none, op := Op.mapUpdate 95 (Operand.tmp 38) (Operand.tmp 39) (Operand.tmp 40), type := 0, pos := "tree.go:126", after := #[{ on := 6, ground := Ground.data }, { on := 7, ground := Ground.data }, { on := 8, ground := Ground.data }, { on := 0, ground := Ground.phase }, { on := 1, ground := Ground.phase }, { on := 2, ground := Ground.phase }, { on := 3, ground := Ground.phase }, { on := 4, ground := Ground.phase }, { on := 5, ground := Ground.phase }, { on := 6, ground := Ground.phase }, { on := 7, ground := Ground.phase }, { on := 8, ground := Ground.phase }], guard := none } (yielded lay6_ops (a9).tmps) = true from rfl), Oper.wp, X]
  show K a9 w1
  clear X
  refine hK.out _ _ S1 (fun hHeld => ?_)
  clear hK K
  clear h38
  clear h39
  clear h40
  exact wpAnyH_done (by kernel_rfl) (NoPanic.normal (h _ rfl)) _
end Go.Proofs.Ytoofljkgdjjllaa
