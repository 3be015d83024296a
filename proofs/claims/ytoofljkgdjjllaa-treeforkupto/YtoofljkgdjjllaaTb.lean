import Derived.Test.YtoofljkgdjjllaaRg
import Derived.Test.YtoofljkgdjjllaaTa
namespace Go.Proofs.Ytoofljkgdjjllaa
open Go.RowKit
set_option linter.unusedVariables false
set_option linter.unusedSimpArgs false

theorem fa_82_0 (b : Nat) (w : World) : (Instr.fieldAt 82 (.pointer (some ⟨b, 0, none⟩)) 0).run Try.prog w = .ok (.pointer (some ⟨b, 0, none⟩)) w := by go_simp
theorem fa_82_1 (b : Nat) (w : World) : (Instr.fieldAt 82 (.pointer (some ⟨b, 0, none⟩)) 1).run Try.prog w = .ok (.pointer (some ⟨b, 1, none⟩)) w := by go_simp
theorem fa_82_2 (b : Nat) (w : World) : (Instr.fieldAt 82 (.pointer (some ⟨b, 0, none⟩)) 2).run Try.prog w = .ok (.pointer (some ⟨b, 2, none⟩)) w := by go_simp
theorem fa_94_0 (b : Nat) (w : World) : (Instr.fieldAt 94 (.pointer (some ⟨b, 0, none⟩)) 0).run Try.prog w = .ok (.pointer (some ⟨b, 0, none⟩)) w := by go_simp
theorem fa_94_1 (b : Nat) (w : World) : (Instr.fieldAt 94 (.pointer (some ⟨b, 0, none⟩)) 1).run Try.prog w = .ok (.pointer (some ⟨b, 33, none⟩)) w := by go_simp
theorem fa_94_2 (b : Nat) (w : World) : (Instr.fieldAt 94 (.pointer (some ⟨b, 0, none⟩)) 2).run Try.prog w = .ok (.pointer (some ⟨b, 34, none⟩)) w := by go_simp
def has1_o0 : Oper := { dst := some 8, op := Op.move (Operand.tmp 0), type := 25, pos := "tree.go:142", after := #[], guard := none }
def has1_o1 : Oper := { dst := some 9, op := Op.nilCheck (Operand.tmp 8), type := 0, pos := "tree.go:142", after := #[{ on := 0, ground := Ground.data }], guard := none }
def has1_o2 : Oper := { dst := some 10, op := Op.fieldAddr 82 (Operand.tmp 9) 0, type := 0, pos := "tree.go:142", after := #[{ on := 1, ground := Ground.data }], guard := none }
def has1_o3 : Oper := { dst := some 11, op := Op.load 79 (Operand.tmp 10), type := 79, pos := "tree.go:142", after := #[{ on := 2, ground := Ground.data }], guard := none }
def has1_o4 : Oper := { dst := some 12, op := Op.load 37 (Operand.tmp 3), type := 37, pos := "tree.go:142", after := #[], guard := none }
def has1_o5 : Oper := { dst := some 13, op := Op.lookup 79 (Operand.tmp 11) (Operand.tmp 12) true, type := 119, pos := "tree.go:142", after := #[{ on := 3, ground := Ground.data }, { on := 4, ground := Ground.data }], guard := none }
def has1_o6 : Oper := { dst := some 7, op := Op.move (Operand.tmp 13), type := 119, pos := "tree.go:142", after := #[{ on := 5, ground := Ground.data }], guard := none }
def has1_o7 : Oper := { dst := some 14, op := Op.extract (Operand.tmp 7) 0, type := 94, pos := "tree.go:142", after := #[{ on := 6, ground := Ground.data }], guard := none }
def has1_o8 : Oper := { dst := some 15, op := Op.extract (Operand.tmp 7) 1, type := 4, pos := "tree.go:142", after := #[{ on := 6, ground := Ground.data }, { on := 10, ground := Ground.gcOnly Departure.lateStores }], guard := none }
def has1_o9 : Oper := { dst := some 5, op := Op.alloc 94, type := 0, pos := "tree.go:142", after := #[], guard := none }
def has1_o10 : Oper := { dst := none, op := Op.store 94 (Operand.tmp 5) (Operand.tmp 14), type := 0, pos := "tree.go:142", after := #[{ on := 9, ground := Ground.data }, { on := 7, ground := Ground.data }, { on := 0, ground := Ground.phase }, { on := 1, ground := Ground.phase }, { on := 2, ground := Ground.phase }, { on := 3, ground := Ground.phase }, { on := 4, ground := Ground.phase }, { on := 5, ground := Ground.phase }, { on := 6, ground := Ground.phase }, { on := 7, ground := Ground.phase }, { on := 8, ground := Ground.textOnly Departure.lateStores }, { on := 9, ground := Ground.phase }], guard := none }
def has1_o11 : Oper := { dst := some 6, op := Op.assign (Operand.tmp 15), type := 4, pos := "tree.go:142", after := #[{ on := 8, ground := Ground.data }, { on := 10, ground := Ground.chain }, { on := 0, ground := Ground.phase }, { on := 1, ground := Ground.phase }, { on := 2, ground := Ground.phase }, { on := 3, ground := Ground.phase }, { on := 4, ground := Ground.phase }, { on := 5, ground := Ground.phase }, { on := 6, ground := Ground.phase }, { on := 7, ground := Ground.phase }, { on := 8, ground := Ground.phase }, { on := 9, ground := Ground.phase }, { on := 10, ground := Ground.phase }], guard := none }
def has1_ops : Array Oper := #[has1_o0, has1_o1, has1_o2, has1_o3, has1_o4, has1_o5, has1_o6, has1_o7, has1_o8, has1_o9, has1_o10, has1_o11]
theorem has1 (t bi nb : Nat) (mv kv nv : Value) (ok : Bool) (w1 w2 : World) (S : World → Prop) (a : Act) (w : World) (Q : Exit → Act → World → Prop) (hsz : a.tmps.size = 17)
    (h0 : a.tmps.getD 0 undef = .pointer (some ⟨t, 0, none⟩))
    (h3 : a.tmps.getD 3 undef = .pointer (some ⟨bi, 0, none⟩))
    (hS0 : S w.drew)
    (H3 : ∀ wx, S wx → (Instr.loadAt 79 (.pointer (some ⟨t, 0, none⟩))).run Try.prog wx = .ok (mv) wx)
    (H4 : ∀ wx, S wx → (Instr.loadAt 37 (.pointer (some ⟨bi, 0, none⟩))).run Try.prog wx = .ok (kv) wx)
    (H5 : ∀ wx, S wx → (Instr.lookup 79 (mv) (kv) true).run Try.prog wx = .ok (.tuple #[nv, .bool ok]) wx)
    (H9 : (Instr.alloc 94 true (.tuple #[])).run Try.prog (w.drew) = .ok (.pointer (some ⟨nb, 0, none⟩)) w1) (S1 : S w1)
    (H10 : (Instr.storeAt 94 (.pointer (some ⟨nb, 0, none⟩)) (nv)).run Try.prog (w1) = .ok () w2) (S2 : S w2)
    (h : ∀ (a' : Act), a' = (((((((((((a).put (some 8) (.pointer (some ⟨t, 0, none⟩))).put (some 9) (.pointer (some ⟨t, 0, none⟩))).put (some 10) (.pointer (some ⟨t, 0, none⟩))).put (some 11) (mv)).put (some 12) (kv)).put (some 13) (.tuple #[nv, .bool ok])).put (some 7) (.tuple #[nv, .bool ok])).put (some 14) (nv)).put (some 15) (.bool ok)).put (some 5) (.pointer (some ⟨nb, 0, none⟩))).put (some 6) (.bool ok) → Q .normal a' w2) :
    (Code.region 1 has1_ops true).wp Try.prog Q a w := by
  refine wp_region_noPanic ?_
  refine wp_region_held_drew (S := S) (by kernel_rfl) hS0 (fun hHeld => ?_)
  refine tk 0 has1_o0 (.pointer (some ⟨t, 0, none⟩)) (by rfl) (fun w1 hw => exec_move rfl (h0)) hHeld (fun a1 e1 => ?_)
  rw [← e1] at h
  have z1 := pz e1 hsz
  clear h0
  replace h3 := pk e1 h3
  have h8 := pq e1 hsz
  clear e1 hsz
  refine tk 1 has1_o1 (.pointer (some ⟨t, 0, none⟩)) (by rfl) (fun w1 hw => exec_nilCheck rfl (h8)) hHeld (fun a2 e2 => ?_)
  rw [← e2] at h
  have z2 := pz e2 z1
  replace h3 := pk e2 h3
  clear h8
  have h9 := pq e2 z1
  clear e2 z1
  refine tk 2 has1_o2 (.pointer (some ⟨t, 0, none⟩)) (by rfl) (fun w1 hw => exec_fieldAt rfl (h9) (fa_82_0 _ _)) hHeld (fun a3 e3 => ?_)
  rw [← e3] at h
  have z3 := pz e3 z2
  replace h3 := pk e3 h3
  clear h9
  have h10 := pq e3 z2
  clear e3 z2
  refine tk 3 has1_o3 (mv) (by rfl) (fun w1 hw => exec_load rfl (h10) (H3 _ hw)) hHeld (fun a4 e4 => ?_)
  rw [← e4] at h
  have z4 := pz e4 z3
  replace h3 := pk e4 h3
  clear h10
  have h11 := pq e4 z3
  clear e4 z3
  refine tk 4 has1_o4 (kv) (by rfl) (fun w1 hw => exec_load rfl (h3) (H4 _ hw)) hHeld (fun a5 e5 => ?_)
  rw [← e5] at h
  have z5 := pz e5 z4
  clear h3
  replace h11 := pk e5 h11
  have h12 := pq e5 z4
  clear e5 z4
  refine tk 5 has1_o5 (.tuple #[nv, .bool ok]) (by rfl) (fun w1 hw => exec_lookup rfl (h11) (h12) (H5 _ hw)) hHeld (fun a6 e6 => ?_)
  rw [← e6] at h
  have z6 := pz e6 z5
  clear h11
  clear h12
  have h13 := pq e6 z5
  clear e6 z5
  refine tk 6 has1_o6 (.tuple #[nv, .bool ok]) (by rfl) (fun w1 hw => exec_move rfl (h13)) hHeld (fun a7 e7 => ?_)
  rw [← e7] at h
  have z7 := pz e7 z6
  clear h13
  have h7 := pq e7 z6
  clear e7 z6
  refine tk 7 has1_o7 (nv) (by rfl) (fun w1 hw => exec_extract rfl (h7) rfl) hHeld (fun a8 e8 => ?_)
  rw [← e8] at h
  have z8 := pz e8 z7
  replace h7 := pk e8 h7
  have h14 := pq e8 z7
  clear e8 z7
  refine tk 8 has1_o8 (.bool ok) (by rfl) (fun w1 hw => exec_extract rfl (h7) rfl) hHeld (fun a9 e9 => ?_)
  rw [← e9] at h
  have z9 := pz e9 z8
  clear h7
  replace h14 := pk e9 h14
  have h15 := pq e9 z8
  clear e9 z8
  refine wpAnyH_ready (rs := [9]) (by kernel_rfl) (by simp) ?_
  refine AllReadyH.cons (o := has1_o9) rfl (fun K hK => ?_) AllReadyH.nil
  have X := exec_alloc (P := Try.prog) (a := a9) (o := has1_o9) rfl H9
  rw [if_pos (show Region.wanted has1_o9 (yielded has1_ops (a9).tmps) = true from rfl), Oper.wp, X]
  show K _ _
  clear X
  refine hK.out _ _ S1 (fun hHeld => ?_)
  clear hK K
  change wpAnyH _ _ _ _ _ _ _ (a9.put (some 5) (.pointer (some ⟨nb, 0, none⟩))) _
  obtain ⟨a10, e10⟩ : ∃ act, act = a9.put (some 5) (.pointer (some ⟨nb, 0, none⟩)) := ⟨_, rfl⟩
  rw [← e10] at h ⊢
  have z10 := pz e10 z9
  replace h14 := pk e10 h14
  replace h15 := pk e10 h15
  have h5 := pq e10 z9
  clear e10 z9
  refine wpAnyH_ready (rs := [10]) (by kernel_rfl) (by simp) ?_
  refine AllReadyH.cons (o := has1_o10) rfl (fun K hK => ?_) AllReadyH.nil
  have X := exec_store (P := Try.prog) (a := a10) (o := has1_o10) rfl (h5) (h14) H10
  rw [if_pos (show Region.wanted has1_o10 (yielded has1_ops (a10).tmps) = true from rfl), Oper.wp, X]
  show K a10 w2
  clear X
  refine hK.out _ _ S2 (fun hHeld => ?_)
  clear hK K
  clear h14
  clear h5
  change wpAnyH _ _ _ _ _ _ _ a10 _
  refine tk 11 has1_o11 (.bool ok) (by rfl) (fun w1 hw => exec_assign rfl (h15)) hHeld (fun a11 e11 => ?_)
  rw [← e11] at h
  have z11 := pz e11 z10
  clear h15
  clear e11 z10
  exact wpAnyH_done (by kernel_rfl) (NoPanic.normal (h _ rfl)) _
def leave1_o0 : Oper := { dst := some 7, op := Op.move (Operand.tmp 0), type := 25, pos := "tree.go:131", after := #[], guard := none }
def leave1_o1 : Oper := { dst := some 8, op := Op.nilCheck (Operand.tmp 7), type := 0, pos := "tree.go:131", after := #[{ on := 0, ground := Ground.data }], guard := none }
def leave1_o2 : Oper := { dst := some 9, op := Op.fieldAddr 82 (Operand.tmp 8) 0, type := 0, pos := "tree.go:131", after := #[{ on := 1, ground := Ground.data }], guard := none }
def leave1_o3 : Oper := { dst := some 10, op := Op.load 79 (Operand.tmp 9), type := 79, pos := "tree.go:131", after := #[{ on := 2, ground := Ground.data }], guard := none }
def leave1_o4 : Oper := { dst := some 11, op := Op.load 37 (Operand.tmp 3), type := 37, pos := "tree.go:131", after := #[], guard := none }
def leave1_o5 : Oper := { dst := some 12, op := Op.lookup 79 (Operand.tmp 10) (Operand.tmp 11) true, type := 119, pos := "tree.go:131", after := #[{ on := 3, ground := Ground.data }, { on := 4, ground := Ground.data }], guard := none }
def leave1_o6 : Oper := { dst := some 6, op := Op.move (Operand.tmp 12), type := 119, pos := "tree.go:131", after := #[{ on := 5, ground := Ground.data }], guard := none }
def leave1_o7 : Oper := { dst := some 13, op := Op.extract (Operand.tmp 6) 0, type := 94, pos := "tree.go:131", after := #[{ on := 6, ground := Ground.data }], guard := none }
def leave1_o8 : Oper := { dst := some 14, op := Op.extract (Operand.tmp 6) 1, type := 4, pos := "tree.go:131", after := #[{ on := 6, ground := Ground.data }, { on := 10, ground := Ground.gcOnly Departure.lateStores }], guard := none }
def leave1_o9 : Oper := { dst := some 4, op := Op.alloc 94, type := 0, pos := "tree.go:131", after := #[], guard := none }
def leave1_o10 : Oper := { dst := none, op := Op.store 94 (Operand.tmp 4) (Operand.tmp 13), type := 0, pos := "tree.go:131", after := #[{ on := 9, ground := Ground.data }, { on := 7, ground := Ground.data }, { on := 0, ground := Ground.phase }, { on := 1, ground := Ground.phase }, { on := 2, ground := Ground.phase }, { on := 3, ground := Ground.phase }, { on := 4, ground := Ground.phase }, { on := 5, ground := Ground.phase }, { on := 6, ground := Ground.phase }, { on := 7, ground := Ground.phase }, { on := 8, ground := Ground.textOnly Departure.lateStores }, { on := 9, ground := Ground.phase }], guard := none }
def leave1_o11 : Oper := { dst := some 5, op := Op.assign (Operand.tmp 14), type := 4, pos := "tree.go:131", after := #[{ on := 8, ground := Ground.data }, { on := 10, ground := Ground.chain }, { on := 0, ground := Ground.phase }, { on := 1, ground := Ground.phase }, { on := 2, ground := Ground.phase }, { on := 3, ground := Ground.phase }, { on := 4, ground := Ground.phase }, { on := 5, ground := Ground.phase }, { on := 6, ground := Ground.phase }, { on := 7, ground := Ground.phase }, { on := 8, ground := Ground.phase }, { on := 9, ground := Ground.phase }, { on := 10, ground := Ground.phase }], guard := none }
def leave1_ops : Array Oper := #[leave1_o0, leave1_o1, leave1_o2, leave1_o3, leave1_o4, leave1_o5, leave1_o6, leave1_o7, leave1_o8, leave1_o9, leave1_o10, leave1_o11]
theorem leave1 (t bi nb : Nat) (mv kv nv : Value) (ok : Bool) (w1 w2 : World) (S : World → Prop) (a : Act) (w : World) (Q : Exit → Act → World → Prop) (hsz : a.tmps.size = 44)
    (h0 : a.tmps.getD 0 undef = .pointer (some ⟨t, 0, none⟩))
    (h3 : a.tmps.getD 3 undef = .pointer (some ⟨bi, 0, none⟩))
    (hS0 : S w.drew)
    (H3 : ∀ wx, S wx → (Instr.loadAt 79 (.pointer (some ⟨t, 0, none⟩))).run Try.prog wx = .ok (mv) wx)
    (H4 : ∀ wx, S wx → (Instr.loadAt 37 (.pointer (some ⟨bi, 0, none⟩))).run Try.prog wx = .ok (kv) wx)
    (H5 : ∀ wx, S wx → (Instr.lookup 79 (mv) (kv) true).run Try.prog wx = .ok (.tuple #[nv, .bool ok]) wx)
    (H9 : (Instr.alloc 94 true (.tuple #[])).run Try.prog (w.drew) = .ok (.pointer (some ⟨nb, 0, none⟩)) w1) (S1 : S w1)
    (H10 : (Instr.storeAt 94 (.pointer (some ⟨nb, 0, none⟩)) (nv)).run Try.prog (w1) = .ok () w2) (S2 : S w2)
    (h : ∀ (a' : Act), a' = (((((((((((a).put (some 7) (.pointer (some ⟨t, 0, none⟩))).put (some 8) (.pointer (some ⟨t, 0, none⟩))).put (some 9) (.pointer (some ⟨t, 0, none⟩))).put (some 10) (mv)).put (some 11) (kv)).put (some 12) (.tuple #[nv, .bool ok])).put (some 6) (.tuple #[nv, .bool ok])).put (some 13) (nv)).put (some 14) (.bool ok)).put (some 4) (.pointer (some ⟨nb, 0, none⟩))).put (some 5) (.bool ok) → Q .normal a' w2) :
    (Code.region 1 leave1_ops true).wp Try.prog Q a w := by
  refine wp_region_noPanic ?_
  refine wp_region_held_drew (S := S) (by kernel_rfl) hS0 (fun hHeld => ?_)
  refine tk 0 leave1_o0 (.pointer (some ⟨t, 0, none⟩)) (by rfl) (fun w1 hw => exec_move rfl (h0)) hHeld (fun a1 e1 => ?_)
  rw [← e1] at h
  have z1 := pz e1 hsz
  clear h0
  replace h3 := pk e1 h3
  have h7 := pq e1 hsz
  clear e1 hsz
  refine tk 1 leave1_o1 (.pointer (some ⟨t, 0, none⟩)) (by rfl) (fun w1 hw => exec_nilCheck rfl (h7)) hHeld (fun a2 e2 => ?_)
  rw [← e2] at h
  have z2 := pz e2 z1
  replace h3 := pk e2 h3
  clear h7
  have h8 := pq e2 z1
  clear e2 z1
  refine tk 2 leave1_o2 (.pointer (some ⟨t, 0, none⟩)) (by rfl) (fun w1 hw => exec_fieldAt rfl (h8) (fa_82_0 _ _)) hHeld (fun a3 e3 => ?_)
  rw [← e3] at h
  have z3 := pz e3 z2
  replace h3 := pk e3 h3
  clear h8
  have h9 := pq e3 z2
  clear e3 z2
  refine tk 3 leave1_o3 (mv) (by rfl) (fun w1 hw => exec_load rfl (h9) (H3 _ hw)) hHeld (fun a4 e4 => ?_)
  rw [← e4] at h
  have z4 := pz e4 z3
  replace h3 := pk e4 h3
  clear h9
  have h10 := pq e4 z3
  clear e4 z3
  refine tk 4 leave1_o4 (kv) (by rfl) (fun w1 hw => exec_load rfl (h3) (H4 _ hw)) hHeld (fun a5 e5 => ?_)
  rw [← e5] at h
  have z5 := pz e5 z4
  clear h3
  replace h10 := pk e5 h10
  have h11 := pq e5 z4
  clear e5 z4
  refine tk 5 leave1_o5 (.tuple #[nv, .bool ok]) (by rfl) (fun w1 hw => exec_lookup rfl (h10) (h11) (H5 _ hw)) hHeld (fun a6 e6 => ?_)
  rw [← e6] at h
  have z6 := pz e6 z5
  clear h10
  clear h11
  have h12 := pq e6 z5
  clear e6 z5
  refine tk 6 leave1_o6 (.tuple #[nv, .bool ok]) (by rfl) (fun w1 hw => exec_move rfl (h12)) hHeld (fun a7 e7 => ?_)
  rw [← e7] at h
  have z7 := pz e7 z6
  clear h12
  have h6 := pq e7 z6
  clear e7 z6
  refine tk 7 leave1_o7 (nv) (by rfl) (fun w1 hw => exec_extract rfl (h6) rfl) hHeld (fun a8 e8 => ?_)
  rw [← e8] at h
  have z8 := pz e8 z7
  replace h6 := pk e8 h6
  have h13 := pq e8 z7
  clear e8 z7
  refine tk 8 leave1_o8 (.bool ok) (by rfl) (fun w1 hw => exec_extract rfl (h6) rfl) hHeld (fun a9 e9 => ?_)
  rw [← e9] at h
  have z9 := pz e9 z8
  clear h6
  replace h13 := pk e9 h13
  have h14 := pq e9 z8
  clear e9 z8
  refine wpAnyH_ready (rs := [9]) (by kernel_rfl) (by simp) ?_
  refine AllReadyH.cons (o := leave1_o9) rfl (fun K hK => ?_) AllReadyH.nil
  have X := exec_alloc (P := Try.prog) (a := a9) (o := leave1_o9) rfl H9
  rw [if_pos (show Region.wanted leave1_o9 (yielded leave1_ops (a9).tmps) = true from rfl), Oper.wp, X]
  show K _ _
  clear X
  refine hK.out _ _ S1 (fun hHeld => ?_)
  clear hK K
  change wpAnyH _ _ _ _ _ _ _ (a9.put (some 4) (.pointer (some ⟨nb, 0, none⟩))) _
  obtain ⟨a10, e10⟩ : ∃ act, act = a9.put (some 4) (.pointer (some ⟨nb, 0, none⟩)) := ⟨_, rfl⟩
  rw [← e10] at h ⊢
  have z10 := pz e10 z9
  replace h13 := pk e10 h13
  replace h14 := pk e10 h14
  have h4 := pq e10 z9
  clear e10 z9
  refine wpAnyH_ready (rs := [10]) (by kernel_rfl) (by simp) ?_
  refine AllReadyH.cons (o := leave1_o10) rfl (fun K hK => ?_) AllReadyH.nil
  have X := exec_store (P := Try.prog) (a := a10) (o := leave1_o10) rfl (h4) (h13) H10
  rw [if_pos (show Region.wanted leave1_o10 (yielded leave1_ops (a10).tmps) = true from rfl), Oper.wp, X]
  show K a10 w2
  clear X
  refine hK.out _ _ S2 (fun hHeld => ?_)
  clear hK K
  clear h13
  clear h4
  change wpAnyH _ _ _ _ _ _ _ a10 _
  refine tk 11 leave1_o11 (.bool ok) (by rfl) (fun w1 hw => exec_assign rfl (h14)) hHeld (fun a11 e11 => ?_)
  rw [← e11] at h
  have z11 := pz e11 z10
  clear h14
  clear e11 z10
  exact wpAnyH_done (by kernel_rfl) (NoPanic.normal (h _ rfl)) _
def leave3_o0 : Oper := { dst := some 21, op := Op.move (Operand.tmp 0), type := 25, pos := "tree.go:135", after := #[], guard := none }
def leave3_o1 : Oper := { dst := some 22, op := Op.nilCheck (Operand.tmp 21), type := 0, pos := "tree.go:135", after := #[{ on := 0, ground := Ground.data }], guard := none }
def leave3_o2 : Oper := { dst := some 23, op := Op.fieldAddr 82 (Operand.tmp 22) 1, type := 0, pos := "tree.go:135", after := #[{ on := 1, ground := Ground.data }], guard := none }
def leave3_o3 : Oper := { dst := some 24, op := Op.load 80 (Operand.tmp 23), type := 80, pos := "tree.go:135", after := #[{ on := 2, ground := Ground.data }], guard := none }
def leave3_o4 : Oper := { dst := some 25, op := Op.fieldAddr 94 (Operand.tmp 4) 0, type := 0, pos := "tree.go:135", after := #[], guard := none }
def leave3_o5 : Oper := { dst := some 26, op := Op.load 37 (Operand.tmp 25), type := 37, pos := "tree.go:135", after := #[{ on := 4, ground := Ground.data }], guard := none }
def leave3_o6 : Oper := { dst := some 27, op := Op.lookup 80 (Operand.tmp 24) (Operand.tmp 26) false, type := 95, pos := "tree.go:135", after := #[{ on := 3, ground := Ground.data }, { on := 5, ground := Ground.data }], guard := none }
def leave3_o7 : Oper := { dst := some 28, op := Op.load 37 (Operand.tmp 3), type := 37, pos := "tree.go:135", after := #[], guard := none }
def leave3_o8 : Oper := { dst := none, op := Op.call { callee := Callee.builtin Builtin.delete, args := #[Operand.tmp 27, Operand.tmp 28], argTypes := #[95, 37] }, type := 0, pos := "tree.go:135", after := #[{ on := 6, ground := Ground.data }, { on := 7, ground := Ground.data }], guard := none }
def leave3_ops : Array Oper := #[leave3_o0, leave3_o1, leave3_o2, leave3_o3, leave3_o4, leave3_o5, leave3_o6, leave3_o7, leave3_o8]
theorem leave3 (t bi nb : Nat) (mv uv rv kv : Value) (w1 : World) (S : World → Prop) (a : Act) (w : World) (Q : Exit → Act → World → Prop) (hsz : a.tmps.size = 44)
    (h0 : a.tmps.getD 0 undef = .pointer (some ⟨t, 0, none⟩))
    (h3 : a.tmps.getD 3 undef = .pointer (some ⟨bi, 0, none⟩))
    (h4 : a.tmps.getD 4 undef = .pointer (some ⟨nb, 0, none⟩))
    (hS0 : S w.drew)
    (H3 : ∀ wx, S wx → (Instr.loadAt 80 (.pointer (some ⟨t, 1, none⟩))).run Try.prog wx = .ok (mv) wx)
    (H5 : ∀ wx, S wx → (Instr.loadAt 37 (.pointer (some ⟨nb, 0, none⟩))).run Try.prog wx = .ok (uv) wx)
    (H6 : ∀ wx, S wx → (Instr.lookup 80 (mv) (uv) false).run Try.prog wx = .ok (rv) wx)
    (H7 : ∀ wx, S wx → (Instr.loadAt 37 (.pointer (some ⟨bi, 0, none⟩))).run Try.prog wx = .ok (kv) wx)
    (H8 : (Builtin.delete_ #[95, 37] 0 #[rv, kv]).run Try.prog (w.drew) = .ok (.tuple #[]) w1) (S1 : S w1)
    (h : ∀ (a' : Act), a' = ((((((((a).put (some 21) (.pointer (some ⟨t, 0, none⟩))).put (some 22) (.pointer (some ⟨t, 0, none⟩))).put (some 23) (.pointer (some ⟨t, 1, none⟩))).put (some 24) (mv)).put (some 25) (.pointer (some ⟨nb, 0, none⟩))).put (some 26) (uv)).put (some 27) (rv)).put (some 28) (kv) → Q .normal a' w1) :
    (Code.region 3 leave3_ops true).wp Try.prog Q a w := by
  refine wp_region_noPanic ?_
  refine wp_region_held_drew (S := S) (by kernel_rfl) hS0 (fun hHeld => ?_)
  refine tk 0 leave3_o0 (.pointer (some ⟨t, 0, none⟩)) (by rfl) (fun w1 hw => exec_move rfl (h0)) hHeld (fun a1 e1 => ?_)
  rw [← e1] at h
  have z1 := pz e1 hsz
  clear h0
  replace h3 := pk e1 h3
  replace h4 := pk e1 h4
  have h21 := pq e1 hsz
  clear e1 hsz
  refine tk 1 leave3_o1 (.pointer (some ⟨t, 0, none⟩)) (by rfl) (fun w1 hw => exec_nilCheck rfl (h21)) hHeld (fun a2 e2 => ?_)
  rw [← e2] at h
  have z2 := pz e2 z1
  replace h3 := pk e2 h3
  replace h4 := pk e2 h4
  clear h21
  have h22 := pq e2 z1
  clear e2 z1
  refine tk 2 leave3_o2 (.pointer (some ⟨t, 1, none⟩)) (by rfl) (fun w1 hw => exec_fieldAt rfl (h22) (fa_82_1 _ _)) hHeld (fun a3 e3 => ?_)
  rw [← e3] at h
  have z3 := pz e3 z2
  replace h3 := pk e3 h3
  replace h4 := pk e3 h4
  clear h22
  have h23 := pq e3 z2
  clear e3 z2
  refine tk 3 leave3_o3 (mv) (by rfl) (fun w1 hw => exec_load rfl (h23) (H3 _ hw)) hHeld (fun a4 e4 => ?_)
  rw [← e4] at h
  have z4 := pz e4 z3
  replace h3 := pk e4 h3
  replace h4 := pk e4 h4
  clear h23
  have h24 := pq e4 z3
  clear e4 z3
  refine tk 4 leave3_o4 (.pointer (some ⟨nb, 0, none⟩)) (by rfl) (fun w1 hw => exec_fieldAt rfl (h4) (fa_94_0 _ _)) hHeld (fun a5 e5 => ?_)
  rw [← e5] at h
  have z5 := pz e5 z4
  replace h3 := pk e5 h3
  clear h4
  replace h24 := pk e5 h24
  have h25 := pq e5 z4
  clear e5 z4
  refine tk 5 leave3_o5 (uv) (by rfl) (fun w1 hw => exec_load rfl (h25) (H5 _ hw)) hHeld (fun a6 e6 => ?_)
  rw [← e6] at h
  have z6 := pz e6 z5
  replace h3 := pk e6 h3
  replace h24 := pk e6 h24
  clear h25
  have h26 := pq e6 z5
  clear e6 z5
  refine tk 6 leave3_o6 (rv) (by rfl) (fun w1 hw => exec_lookup rfl (h24) (h26) (H6 _ hw)) hHeld (fun a7 e7 => ?_)
  rw [← e7] at h
  have z7 := pz e7 z6
  replace h3 := pk e7 h3
  clear h24
  clear h26
  have h27 := pq e7 z6
  clear e7 z6
  refine tk 7 leave3_o7 (kv) (by rfl) (fun w1 hw => exec_load rfl (h3) (H7 _ hw)) hHeld (fun a8 e8 => ?_)
  rw [← e8] at h
  have z8 := pz e8 z7
  clear h3
  replace h27 := pk e8 h27
  have h28 := pq e8 z7
  clear e8 z7
  refine wpAnyH_ready (rs := [8]) (by kernel_rfl) (by simp) ?_
  refine AllReadyH.cons (o := leave3_o8) rfl (fun K hK => ?_) AllReadyH.nil
  have X := exec_delete (P := Try.prog) (a := a8) (o := leave3_o8) rfl (h27) (h28) H8
  rw [if_pos (show Region.wanted leave3_o8 (yielded leave3_ops (a8).tmps) = true from rfl), Oper.wp, X]
  show K a8 w1
  clear X
  refine hK.out _ _ S1 (fun hHeld => ?_)
  clear hK K
  clear h27
  clear h28
  exact wpAnyH_done (by kernel_rfl) (NoPanic.normal (h _ rfl)) _
def leave4_o0 : Oper := { dst := some 29, op := Op.move (Operand.tmp 0), type := 25, pos := "tree.go:136", after := #[], guard := none }
def leave4_o1 : Oper := { dst := some 30, op := Op.nilCheck (Operand.tmp 29), type := 0, pos := "tree.go:136", after := #[{ on := 0, ground := Ground.data }], guard := none }
def leave4_o2 : Oper := { dst := some 31, op := Op.fieldAddr 82 (Operand.tmp 30) 1, type := 0, pos := "tree.go:136", after := #[{ on := 1, ground := Ground.data }], guard := none }
def leave4_o3 : Oper := { dst := some 32, op := Op.load 80 (Operand.tmp 31), type := 80, pos := "tree.go:136", after := #[{ on := 2, ground := Ground.data }], guard := none }
def leave4_o4 : Oper := { dst := some 33, op := Op.fieldAddr 94 (Operand.tmp 4) 0, type := 0, pos := "tree.go:136", after := #[], guard := none }
def leave4_o5 : Oper := { dst := some 34, op := Op.load 37 (Operand.tmp 33), type := 37, pos := "tree.go:136", after := #[{ on := 4, ground := Ground.data }], guard := none }
def leave4_o6 : Oper := { dst := some 35, op := Op.lookup 80 (Operand.tmp 32) (Operand.tmp 34) false, type := 95, pos := "tree.go:136", after := #[{ on := 3, ground := Ground.data }, { on := 5, ground := Ground.data }], guard := none }
def leave4_o7 : Oper := { dst := some 36, op := Op.call { callee := Callee.builtin Builtin.len, args := #[Operand.tmp 35], argTypes := #[95] }, type := 3, pos := "tree.go:136", after := #[{ on := 6, ground := Ground.data }], guard := none }
def leave4_o8 : Oper := { dst := some 37, op := Op.binOp BinOp.eql 3 (Operand.tmp 36) (Operand.const (Value.int IntKind.i64 0)) 3, type := 4, pos := "tree.go:136", after := #[{ on := 7, ground := Ground.data }], guard := none }
def leave4_ops : Array Oper := #[leave4_o0, leave4_o1, leave4_o2, leave4_o3, leave4_o4, leave4_o5, leave4_o6, leave4_o7, leave4_o8]
theorem leave4 (t nb : Nat) (mv uv rv : Value) (n : Int) (q : Bool) (S : World → Prop) (a : Act) (w : World) (Q : Exit → Act → World → Prop) (hsz : a.tmps.size = 44)
    (h0 : a.tmps.getD 0 undef = .pointer (some ⟨t, 0, none⟩))
    (h4 : a.tmps.getD 4 undef = .pointer (some ⟨nb, 0, none⟩))
    (hS0 : S w.drew)
    (H3 : ∀ wx, S wx → (Instr.loadAt 80 (.pointer (some ⟨t, 1, none⟩))).run Try.prog wx = .ok (mv) wx)
    (H5 : ∀ wx, S wx → (Instr.loadAt 37 (.pointer (some ⟨nb, 0, none⟩))).run Try.prog wx = .ok (uv) wx)
    (H6 : ∀ wx, S wx → (Instr.lookup 80 (mv) (uv) false).run Try.prog wx = .ok (rv) wx)
    (H7 : ∀ wx, S wx → (Builtin.len_ #[95] 3 #[rv]).run Try.prog wx = .ok (.int .i64 n) wx)
    (H8 : ∀ wx, (eqGuard BinOp.eql 3 (Operand.tmp 36) (Operand.const (Value.int IntKind.i64 0)) (.int .i64 n) (.int .i64 0)).run Try.prog wx = .ok () wx) (I8 : ∀ wx, S wx → (binOp BinOp.eql 3 (.int .i64 n) (.int .i64 0)).run Try.prog wx = .ok (.bool q) wx)
    (h : ∀ (a' : Act), a' = (((((((((a).put (some 29) (.pointer (some ⟨t, 0, none⟩))).put (some 30) (.pointer (some ⟨t, 0, none⟩))).put (some 31) (.pointer (some ⟨t, 1, none⟩))).put (some 32) (mv)).put (some 33) (.pointer (some ⟨nb, 0, none⟩))).put (some 34) (uv)).put (some 35) (rv)).put (some 36) (.int .i64 n)).put (some 37) (.bool q) → Q .normal a' w.drew) :
    (Code.region 4 leave4_ops true).wp Try.prog Q a w := by
  refine wp_region_noPanic ?_
  refine wp_region_held_drew (S := S) (by kernel_rfl) hS0 (fun hHeld => ?_)
  change wpAnyH _ _ _ _ _ _ _ a _
  refine tk 0 leave4_o0 (.pointer (some ⟨t, 0, none⟩)) (by rfl) (fun w1 hw => exec_move rfl (h0)) hHeld (fun a1 e1 => ?_)
  rw [← e1] at h
  have z1 := pz e1 hsz
  clear h0
  replace h4 := pk e1 h4
  have h29 := pq e1 hsz
  clear e1 hsz
  refine tk 1 leave4_o1 (.pointer (some ⟨t, 0, none⟩)) (by rfl) (fun w1 hw => exec_nilCheck rfl (h29)) hHeld (fun a2 e2 => ?_)
  rw [← e2] at h
  have z2 := pz e2 z1
  replace h4 := pk e2 h4
  clear h29
  have h30 := pq e2 z1
  clear e2 z1
  refine tk 2 leave4_o2 (.pointer (some ⟨t, 1, none⟩)) (by rfl) (fun w1 hw => exec_fieldAt rfl (h30) (fa_82_1 _ _)) hHeld (fun a3 e3 => ?_)
  rw [← e3] at h
  have z3 := pz e3 z2
  replace h4 := pk e3 h4
  clear h30
  have h31 := pq e3 z2
  clear e3 z2
  refine tk 3 leave4_o3 (mv) (by rfl) (fun w1 hw => exec_load rfl (h31) (H3 _ hw)) hHeld (fun a4 e4 => ?_)
  rw [← e4] at h
  have z4 := pz e4 z3
  replace h4 := pk e4 h4
  clear h31
  have h32 := pq e4 z3
  clear e4 z3
  refine tk 4 leave4_o4 (.pointer (some ⟨nb, 0, none⟩)) (by rfl) (fun w1 hw => exec_fieldAt rfl (h4) (fa_94_0 _ _)) hHeld (fun a5 e5 => ?_)
  rw [← e5] at h
  have z5 := pz e5 z4
  clear h4
  replace h32 := pk e5 h32
  have h33 := pq e5 z4
  clear e5 z4
  refine tk 5 leave4_o5 (uv) (by rfl) (fun w1 hw => exec_load rfl (h33) (H5 _ hw)) hHeld (fun a6 e6 => ?_)
  rw [← e6] at h
  have z6 := pz e6 z5
  replace h32 := pk e6 h32
  clear h33
  have h34 := pq e6 z5
  clear e6 z5
  refine tk 6 leave4_o6 (rv) (by rfl) (fun w1 hw => exec_lookup rfl (h32) (h34) (H6 _ hw)) hHeld (fun a7 e7 => ?_)
  rw [← e7] at h
  have z7 := pz e7 z6
  clear h32
  clear h34
  have h35 := pq e7 z6
  clear e7 z6
  refine tk 7 leave4_o7 (.int .i64 n) (by rfl) (fun w1 hw => exec_len rfl (h35) (H7 _ hw)) hHeld (fun a8 e8 => ?_)
  rw [← e8] at h
  have z8 := pz e8 z7
  clear h35
  have h36 := pq e8 z7
  clear e8 z7
  refine tk 8 leave4_o8 (.bool q) (by rfl) (fun w1 hw => exec_binOp rfl (h36) (rfl) (H8 _) (I8 _ hw)) hHeld (fun a9 e9 => ?_)
  rw [← e9] at h
  have z9 := pz e9 z8
  clear h36
  clear e9 z8
  exact wpAnyH_done (by kernel_rfl) (NoPanic.normal (h _ rfl)) _
def leave5_o0 : Oper := { dst := some 38, op := Op.move (Operand.tmp 0), type := 25, pos := "tree.go:137", after := #[], guard := none }
def leave5_o1 : Oper := { dst := some 39, op := Op.nilCheck (Operand.tmp 38), type := 0, pos := "tree.go:137", after := #[{ on := 0, ground := Ground.data }], guard := none }
def leave5_o2 : Oper := { dst := some 40, op := Op.fieldAddr 82 (Operand.tmp 39) 1, type := 0, pos := "tree.go:137", after := #[{ on := 1, ground := Ground.data }], guard := none }
def leave5_o3 : Oper := { dst := some 41, op := Op.load 80 (Operand.tmp 40), type := 80, pos := "tree.go:137", after := #[{ on := 2, ground := Ground.data }], guard := none }
def leave5_o4 : Oper := { dst := some 42, op := Op.fieldAddr 94 (Operand.tmp 4) 0, type := 0, pos := "tree.go:137", after := #[], guard := none }
def leave5_o5 : Oper := { dst := some 43, op := Op.load 37 (Operand.tmp 42), type := 37, pos := "tree.go:137", after := #[{ on := 4, ground := Ground.data }], guard := none }
def leave5_o6 : Oper := { dst := none, op := Op.call { callee := Callee.builtin Builtin.delete, args := #[Operand.tmp 41, Operand.tmp 43], argTypes := #[80, 37] }, type := 0, pos := "tree.go:137", after := #[{ on := 3, ground := Ground.data }, { on := 5, ground := Ground.data }], guard := none }
def leave5_ops : Array Oper := #[leave5_o0, leave5_o1, leave5_o2, leave5_o3, leave5_o4, leave5_o5, leave5_o6]
theorem leave5 (t nb : Nat) (mv uv : Value) (w1 : World) (S : World → Prop) (a : Act) (w : World) (Q : Exit → Act → World → Prop) (hsz : a.tmps.size = 44)
    (h0 : a.tmps.getD 0 undef = .pointer (some ⟨t, 0, none⟩))
    (h4 : a.tmps.getD 4 undef = .pointer (some ⟨nb, 0, none⟩))
    (hS0 : S w.drew)
    (H3 : ∀ wx, S wx → (Instr.loadAt 80 (.pointer (some ⟨t, 1, none⟩))).run Try.prog wx = .ok (mv) wx)
    (H5 : ∀ wx, S wx → (Instr.loadAt 37 (.pointer (some ⟨nb, 0, none⟩))).run Try.prog wx = .ok (uv) wx)
    (H6 : (Builtin.delete_ #[80, 37] 0 #[mv, uv]).run Try.prog (w.drew) = .ok (.tuple #[]) w1) (S1 : S w1)
    (h : ∀ (a' : Act), a' = ((((((a).put (some 38) (.pointer (some ⟨t, 0, none⟩))).put (some 39) (.pointer (some ⟨t, 0, none⟩))).put (some 40) (.pointer (some ⟨t, 1, none⟩))).put (some 41) (mv)).put (some 42) (.pointer (some ⟨nb, 0, none⟩))).put (some 43) (uv) → Q .normal a' w1) :
    (Code.region 5 leave5_ops true).wp Try.prog Q a w := by
  refine wp_region_noPanic ?_
  refine wp_region_held_drew (S := S) (by kernel_rfl) hS0 (fun hHeld => ?_)
  refine tk 0 leave5_o0 (.pointer (some ⟨t, 0, none⟩)) (by rfl) (fun w1 hw => exec_move rfl (h0)) hHeld (fun a1 e1 => ?_)
  rw [← e1] at h
  have z1 := pz e1 hsz
  clear h0
  replace h4 := pk e1 h4
  have h38 := pq e1 hsz
  clear e1 hsz
  refine tk 1 leave5_o1 (.pointer (some ⟨t, 0, none⟩)) (by rfl) (fun w1 hw => exec_nilCheck rfl (h38)) hHeld (fun a2 e2 => ?_)
  rw [← e2] at h
  have z2 := pz e2 z1
  replace h4 := pk e2 h4
  clear h38
  have h39 := pq e2 z1
  clear e2 z1
  refine tk 2 leave5_o2 (.pointer (some ⟨t, 1, none⟩)) (by rfl) (fun w1 hw => exec_fieldAt rfl (h39) (fa_82_1 _ _)) hHeld (fun a3 e3 => ?_)
  rw [← e3] at h
  have z3 := pz e3 z2
  replace h4 := pk e3 h4
  clear h39
  have h40 := pq e3 z2
  clear e3 z2
  refine tk 3 leave5_o3 (mv) (by rfl) (fun w1 hw => exec_load rfl (h40) (H3 _ hw)) hHeld (fun a4 e4 => ?_)
  rw [← e4] at h
  have z4 := pz e4 z3
  replace h4 := pk e4 h4
  clear h40
  have h41 := pq e4 z3
  clear e4 z3
  refine tk 4 leave5_o4 (.pointer (some ⟨nb, 0, none⟩)) (by rfl) (fun w1 hw => exec_fieldAt rfl (h4) (fa_94_0 _ _)) hHeld (fun a5 e5 => ?_)
  rw [← e5] at h
  have z5 := pz e5 z4
  clear h4
  replace h41 := pk e5 h41
  have h42 := pq e5 z4
  clear e5 z4
  refine tk 5 leave5_o5 (uv) (by rfl) (fun w1 hw => exec_load rfl (h42) (H5 _ hw)) hHeld (fun a6 e6 => ?_)
  rw [← e6] at h
  have z6 := pz e6 z5
  replace h41 := pk e6 h41
  clear h42
  have h43 := pq e6 z5
  clear e6 z5
  refine wpAnyH_ready (rs := [6]) (by kernel_rfl) (by simp) ?_
  refine AllReadyH.cons (o := leave5_o6) rfl (fun K hK => ?_) AllReadyH.nil
  have X := exec_delete (P := Try.prog) (a := a6) (o := leave5_o6) rfl (h41) (h43) H6
  rw [if_pos (show Region.wanted leave5_o6 (yielded leave5_ops (a6).tmps) = true from rfl), Oper.wp, X]
  show K a6 w1
  clear X
  refine hK.out _ _ S1 (fun hHeld => ?_)
  clear hK K
  clear h41
  clear h43
  exact wpAnyH_done (by kernel_rfl) (NoPanic.normal (h _ rfl)) _
def lay2_o0 : Oper := { dst := some 9, op := Op.move (Operand.tmp 0), type := 25, pos := "tree.go:119", after := #[], guard := none }
def lay2_o1 : Oper := { dst := some 10, op := Op.nilCheck (Operand.tmp 9), type := 0, pos := "tree.go:119", after := #[{ on := 0, ground := Ground.data }], guard := none }
def lay2_o2 : Oper := { dst := some 11, op := Op.fieldAddr 82 (Operand.tmp 10) 0, type := 0, pos := "tree.go:119", after := #[{ on := 1, ground := Ground.data }], guard := none }
def lay2_o3 : Oper := { dst := some 12, op := Op.load 79 (Operand.tmp 11), type := 79, pos := "tree.go:119", after := #[{ on := 2, ground := Ground.data }], guard := none }
def lay2_o4 : Oper := { dst := some 13, op := Op.load 37 (Operand.tmp 4), type := 37, pos := "tree.go:119", after := #[], guard := none }
def lay2_o5 : Oper := { dst := some 14, op := Op.load 94 (Operand.tmp 5), type := 94, pos := "tree.go:119", after := #[], guard := none }
def lay2_o6 : Oper := { dst := none, op := Op.mapUpdate 79 (Operand.tmp 12) (Operand.tmp 13) (Operand.tmp 14), type := 0, pos := "tree.go:119", after := #[{ on := 3, ground := Ground.data }, { on := 4, ground := Ground.data }, { on := 5, ground := Ground.data }, { on := 0, ground := Ground.phase }, { on := 1, ground := Ground.phase }, { on := 2, ground := Ground.phase }, { on := 3, ground := Ground.phase }, { on := 4, ground := Ground.phase }, { on := 5, ground := Ground.phase }], guard := none }
def lay2_ops : Array Oper := #[lay2_o0, lay2_o1, lay2_o2, lay2_o3, lay2_o4, lay2_o5, lay2_o6]
theorem lay2 (t bi nb : Nat) (mv kv nv : Value) (w1 : World) (S : World → Prop) (a : Act) (w : World) (Q : Exit → Act → World → Prop) (hsz : a.tmps.size = 41)
    (h0 : a.tmps.getD 0 undef = .pointer (some ⟨t, 0, none⟩))
    (h4 : a.tmps.getD 4 undef = .pointer (some ⟨bi, 0, none⟩))
    (h5 : a.tmps.getD 5 undef = .pointer (some ⟨nb, 0, none⟩))
    (hS0 : S w.drew)
    (H3 : ∀ wx, S wx → (Instr.loadAt 79 (.pointer (some ⟨t, 0, none⟩))).run Try.prog wx = .ok (mv) wx)
    (H4 : ∀ wx, S wx → (Instr.loadAt 37 (.pointer (some ⟨bi, 0, none⟩))).run Try.prog wx = .ok (kv) wx)
    (H5 : ∀ wx, S wx → (Instr.loadAt 94 (.pointer (some ⟨nb, 0, none⟩))).run Try.prog wx = .ok (nv) wx)
    (H6 : (Instr.mapUpdate 79 (mv) (kv) (nv)).run Try.prog (w.drew) = .ok () w1) (S1 : S w1)
    (h : ∀ (a' : Act), a' = ((((((a).put (some 9) (.pointer (some ⟨t, 0, none⟩))).put (some 10) (.pointer (some ⟨t, 0, none⟩))).put (some 11) (.pointer (some ⟨t, 0, none⟩))).put (some 12) (mv)).put (some 13) (kv)).put (some 14) (nv) → Q .normal a' w1) :
    (Code.region 2 lay2_ops true).wp Try.prog Q a w := by
  refine wp_region_noPanic ?_
  refine wp_region_held_drew (S := S) (by kernel_rfl) hS0 (fun hHeld => ?_)
  change wpAnyH _ _ _ _ _ _ _ a _
  refine tk 0 lay2_o0 (.pointer (some ⟨t, 0, none⟩)) (by rfl) (fun w1 hw => exec_move rfl (h0)) hHeld (fun a1 e1 => ?_)
  rw [← e1] at h
  have z1 := pz e1 hsz
  clear h0
  replace h4 := pk e1 h4
  replace h5 := pk e1 h5
  have h9 := pq e1 hsz
  clear e1 hsz
  refine tk 1 lay2_o1 (.pointer (some ⟨t, 0, none⟩)) (by rfl) (fun w1 hw => exec_nilCheck rfl (h9)) hHeld (fun a2 e2 => ?_)
  rw [← e2] at h
  have z2 := pz e2 z1
  replace h4 := pk e2 h4
  replace h5 := pk e2 h5
  clear h9
  have h10 := pq e2 z1
  clear e2 z1
  refine tk 2 lay2_o2 (.pointer (some ⟨t, 0, none⟩)) (by rfl) (fun w1 hw => exec_fieldAt rfl (h10) (fa_82_0 _ _)) hHeld (fun a3 e3 => ?_)
  rw [← e3] at h
  have z3 := pz e3 z2
  replace h4 := pk e3 h4
  replace h5 := pk e3 h5
  clear h10
  have h11 := pq e3 z2
  clear e3 z2
  refine tk 3 lay2_o3 (mv) (by rfl) (fun w1 hw => exec_load rfl (h11) (H3 _ hw)) hHeld (fun a4 e4 => ?_)
  rw [← e4] at h
  have z4 := pz e4 z3
  replace h4 := pk e4 h4
  replace h5 := pk e4 h5
  clear h11
  have h12 := pq e4 z3
  clear e4 z3
  refine tk 4 lay2_o4 (kv) (by rfl) (fun w1 hw => exec_load rfl (h4) (H4 _ hw)) hHeld (fun a5 e5 => ?_)
  rw [← e5] at h
  have z5 := pz e5 z4
  clear h4
  replace h5 := pk e5 h5
  replace h12 := pk e5 h12
  have h13 := pq e5 z4
  clear e5 z4
  refine tk 5 lay2_o5 (nv) (by rfl) (fun w1 hw => exec_load rfl (h5) (H5 _ hw)) hHeld (fun a6 e6 => ?_)
  rw [← e6] at h
  have z6 := pz e6 z5
  clear h5
  replace h12 := pk e6 h12
  replace h13 := pk e6 h13
  have h14 := pq e6 z5
  clear e6 z5
  refine wpAnyH_ready (rs := [6]) (by kernel_rfl) (by simp) ?_
  refine AllReadyH.cons (o := lay2_o6) rfl (fun K hK => ?_) AllReadyH.nil
  have X := exec_mapUpdate (P := Try.prog) (a := a6) (o := lay2_o6) rfl (h12) (h13) (h14) H6
  rw [if_pos (show Region.wanted lay2_o6 (yielded lay2_ops (a6).tmps) = true from rfl), Oper.wp, X]
  show K a6 w1
  clear X
  refine hK.out _ _ S1 (fun hHeld => ?_)
  clear hK K
  clear h12
  clear h13
  clear h14
  exact wpAnyH_done (by kernel_rfl) (NoPanic.normal (h _ rfl)) _
def lay4_o0 : Oper := { dst := some 17, op := Op.move (Operand.tmp 0), type := 25, pos := "tree.go:123", after := #[], guard := none }
def lay4_o1 : Oper := { dst := some 18, op := Op.nilCheck (Operand.tmp 17), type := 0, pos := "tree.go:123", after := #[{ on := 0, ground := Ground.data }], guard := none }
def lay4_o2 : Oper := { dst := some 19, op := Op.fieldAddr 82 (Operand.tmp 18) 1, type := 0, pos := "tree.go:123", after := #[{ on := 1, ground := Ground.data }], guard := none }
def lay4_o3 : Oper := { dst := some 20, op := Op.load 80 (Operand.tmp 19), type := 80, pos := "tree.go:123", after := #[{ on := 2, ground := Ground.data }], guard := none }
def lay4_o4 : Oper := { dst := some 21, op := Op.fieldAddr 94 (Operand.tmp 5) 0, type := 0, pos := "tree.go:123", after := #[], guard := none }
def lay4_o5 : Oper := { dst := some 22, op := Op.load 37 (Operand.tmp 21), type := 37, pos := "tree.go:123", after := #[{ on := 4, ground := Ground.data }], guard := none }
def lay4_o6 : Oper := { dst := some 23, op := Op.lookup 80 (Operand.tmp 20) (Operand.tmp 22) false, type := 95, pos := "tree.go:123", after := #[{ on := 3, ground := Ground.data }, { on := 5, ground := Ground.data }], guard := none }
def lay4_o7 : Oper := { dst := some 24, op := Op.binOp BinOp.eql 95 (Operand.tmp 23) (Operand.const (Value.map none)) 95, type := 4, pos := "tree.go:123", after := #[{ on := 6, ground := Ground.data }], guard := none }
def lay4_ops : Array Oper := #[lay4_o0, lay4_o1, lay4_o2, lay4_o3, lay4_o4, lay4_o5, lay4_o6, lay4_o7]
theorem lay4 (t nb : Nat) (mv uv rv : Value) (q : Bool) (S : World → Prop) (a : Act) (w : World) (Q : Exit → Act → World → Prop) (hsz : a.tmps.size = 41)
    (h0 : a.tmps.getD 0 undef = .pointer (some ⟨t, 0, none⟩))
    (h5 : a.tmps.getD 5 undef = .pointer (some ⟨nb, 0, none⟩))
    (hS0 : S w.drew)
    (H3 : ∀ wx, S wx → (Instr.loadAt 80 (.pointer (some ⟨t, 1, none⟩))).run Try.prog wx = .ok (mv) wx)
    (H5 : ∀ wx, S wx → (Instr.loadAt 37 (.pointer (some ⟨nb, 0, none⟩))).run Try.prog wx = .ok (uv) wx)
    (H6 : ∀ wx, S wx → (Instr.lookup 80 (mv) (uv) false).run Try.prog wx = .ok (rv) wx)
    (H7 : ∀ wx, (eqGuard BinOp.eql 95 (Operand.tmp 23) (Operand.const (Value.map none)) (rv) (.map none)).run Try.prog wx = .ok () wx) (I7 : ∀ wx, S wx → (binOp BinOp.eql 95 (rv) (.map none)).run Try.prog wx = .ok (.bool q) wx)
    (h : ∀ (a' : Act), a' = ((((((((a).put (some 17) (.pointer (some ⟨t, 0, none⟩))).put (some 18) (.pointer (some ⟨t, 0, none⟩))).put (some 19) (.pointer (some ⟨t, 1, none⟩))).put (some 20) (mv)).put (some 21) (.pointer (some ⟨nb, 0, none⟩))).put (some 22) (uv)).put (some 23) (rv)).put (some 24) (.bool q) → Q .normal a' w.drew) :
    (Code.region 4 lay4_ops true).wp Try.prog Q a w := by
  refine wp_region_noPanic ?_
  refine wp_region_held_drew (S := S) (by kernel_rfl) hS0 (fun hHeld => ?_)
  change wpAnyH _ _ _ _ _ _ _ a _
  refine tk 0 lay4_o0 (.pointer (some ⟨t, 0, none⟩)) (by rfl) (fun w1 hw => exec_move rfl (h0)) hHeld (fun a1 e1 => ?_)
  rw [← e1] at h
  have z1 := pz e1 hsz
  clear h0
  replace h5 := pk e1 h5
  have h17 := pq e1 hsz
  clear e1 hsz
  refine tk 1 lay4_o1 (.pointer (some ⟨t, 0, none⟩)) (by rfl) (fun w1 hw => exec_nilCheck rfl (h17)) hHeld (fun a2 e2 => ?_)
  rw [← e2] at h
  have z2 := pz e2 z1
  replace h5 := pk e2 h5
  clear h17
  have h18 := pq e2 z1
  clear e2 z1
  refine tk 2 lay4_o2 (.pointer (some ⟨t, 1, none⟩)) (by rfl) (fun w1 hw => exec_fieldAt rfl (h18) (fa_82_1 _ _)) hHeld (fun a3 e3 => ?_)
  rw [← e3] at h
  have z3 := pz e3 z2
  replace h5 := pk e3 h5
  clear h18
  have h19 := pq e3 z2
  clear e3 z2
  refine tk 3 lay4_o3 (mv) (by rfl) (fun w1 hw => exec_load rfl (h19) (H3 _ hw)) hHeld (fun a4 e4 => ?_)
  rw [← e4] at h
  have z4 := pz e4 z3
  replace h5 := pk e4 h5
  clear h19
  have h20 := pq e4 z3
  clear e4 z3
  refine tk 4 lay4_o4 (.pointer (some ⟨nb, 0, none⟩)) (by rfl) (fun w1 hw => exec_fieldAt rfl (h5) (fa_94_0 _ _)) hHeld (fun a5 e5 => ?_)
  rw [← e5] at h
  have z5 := pz e5 z4
  clear h5
  replace h20 := pk e5 h20
  have h21 := pq e5 z4
  clear e5 z4
  refine tk 5 lay4_o5 (uv) (by rfl) (fun w1 hw => exec_load rfl (h21) (H5 _ hw)) hHeld (fun a6 e6 => ?_)
  rw [← e6] at h
  have z6 := pz e6 z5
  replace h20 := pk e6 h20
  clear h21
  have h22 := pq e6 z5
  clear e6 z5
  refine tk 6 lay4_o6 (rv) (by rfl) (fun w1 hw => exec_lookup rfl (h20) (h22) (H6 _ hw)) hHeld (fun a7 e7 => ?_)
  rw [← e7] at h
  have z7 := pz e7 z6
  clear h20
  clear h22
  have h23 := pq e7 z6
  clear e7 z6
  refine tk 7 lay4_o7 (.bool q) (by rfl) (fun w1 hw => exec_binOp rfl (h23) (rfl) (H7 _) (I7 _ hw)) hHeld (fun a8 e8 => ?_)
  rw [← e8] at h
  have z8 := pz e8 z7
  clear h23
  clear e8 z7
  exact wpAnyH_done (by kernel_rfl) (NoPanic.normal (h _ rfl)) _
def lay5_o0 : Oper := { dst := some 25, op := Op.move (Operand.tmp 0), type := 25, pos := "tree.go:124", after := #[], guard := none }
def lay5_o1 : Oper := { dst := some 26, op := Op.nilCheck (Operand.tmp 25), type := 0, pos := "tree.go:124", after := #[{ on := 0, ground := Ground.data }], guard := none }
def lay5_o2 : Oper := { dst := some 27, op := Op.fieldAddr 82 (Operand.tmp 26) 1, type := 0, pos := "tree.go:124", after := #[{ on := 1, ground := Ground.data }], guard := none }
def lay5_o3 : Oper := { dst := some 28, op := Op.load 80 (Operand.tmp 27), type := 80, pos := "tree.go:124", after := #[{ on := 2, ground := Ground.data }], guard := none }
def lay5_o4 : Oper := { dst := some 29, op := Op.fieldAddr 94 (Operand.tmp 5) 0, type := 0, pos := "tree.go:124", after := #[], guard := none }
def lay5_o5 : Oper := { dst := some 30, op := Op.load 37 (Operand.tmp 29), type := 37, pos := "tree.go:124", after := #[{ on := 4, ground := Ground.data }], guard := none }
def lay5_o6 : Oper := { dst := some 31, op := Op.makeMap 95 none, type := 95, pos := "tree.go:124", after := #[], guard := none }
def lay5_o7 : Oper := { dst := none, op := Op.mapUpdate 80 (Operand.tmp 28) (Operand.tmp 30) (Operand.tmp 31), type := 0, pos := "tree.go:124", after := #[{ on := 3, ground := Ground.data }, { on := 5, ground := Ground.data }, { on := 6, ground := Ground.data }, { on := 0, ground := Ground.phase }, { on := 1, ground := Ground.phase }, { on := 2, ground := Ground.phase }, { on := 3, ground := Ground.phase }, { on := 4, ground := Ground.phase }, { on := 5, ground := Ground.phase }, { on := 6, ground := Ground.phase }], guard := none }
def lay5_ops : Array Oper := #[lay5_o0, lay5_o1, lay5_o2, lay5_o3, lay5_o4, lay5_o5, lay5_o6, lay5_o7]
theorem lay5 (t nb : Nat) (mv uv rv : Value) (w1 w2 : World) (S : World → Prop) (a : Act) (w : World) (Q : Exit → Act → World → Prop) (hsz : a.tmps.size = 41)
    (h0 : a.tmps.getD 0 undef = .pointer (some ⟨t, 0, none⟩))
    (h5 : a.tmps.getD 5 undef = .pointer (some ⟨nb, 0, none⟩))
    (hS0 : S w.drew)
    (H3 : ∀ wx, S wx → (Instr.loadAt 80 (.pointer (some ⟨t, 1, none⟩))).run Try.prog wx = .ok (mv) wx)
    (H5 : ∀ wx, S wx → (Instr.loadAt 37 (.pointer (some ⟨nb, 0, none⟩))).run Try.prog wx = .ok (uv) wx)
    (H6 : (Instr.makeMap 95 none).run Try.prog (w.drew) = .ok (rv) w1) (S1 : S w1)
    (H7 : (Instr.mapUpdate 80 (mv) (uv) (rv)).run Try.prog (w1) = .ok () w2) (S2 : S w2)
    (h : ∀ (a' : Act), a' = (((((((a).put (some 25) (.pointer (some ⟨t, 0, none⟩))).put (some 26) (.pointer (some ⟨t, 0, none⟩))).put (some 27) (.pointer (some ⟨t, 1, none⟩))).put (some 28) (mv)).put (some 29) (.pointer (some ⟨nb, 0, none⟩))).put (some 30) (uv)).put (some 31) (rv) → Q .normal a' w2) :
    (Code.region 5 lay5_ops true).wp Try.prog Q a w := by
  refine wp_region_noPanic ?_
  refine wp_region_held_drew (S := S) (by kernel_rfl) hS0 (fun hHeld => ?_)
  refine tk 0 lay5_o0 (.pointer (some ⟨t, 0, none⟩)) (by rfl) (fun w1 hw => exec_move rfl (h0)) hHeld (fun a1 e1 => ?_)
  rw [← e1] at h
  have z1 := pz e1 hsz
  clear h0
  replace h5 := pk e1 h5
  have h25 := pq e1 hsz
  clear e1 hsz
  refine tk 1 lay5_o1 (.pointer (some ⟨t, 0, none⟩)) (by rfl) (fun w1 hw => exec_nilCheck rfl (h25)) hHeld (fun a2 e2 => ?_)
  rw [← e2] at h
  have z2 := pz e2 z1
  replace h5 := pk e2 h5
  clear h25
  have h26 := pq e2 z1
  clear e2 z1
  refine tk 2 lay5_o2 (.pointer (some ⟨t, 1, none⟩)) (by rfl) (fun w1 hw => exec_fieldAt rfl (h26) (fa_82_1 _ _)) hHeld (fun a3 e3 => ?_)
  rw [← e3] at h
  have z3 := pz e3 z2
  replace h5 := pk e3 h5
  clear h26
  have h27 := pq e3 z2
  clear e3 z2
  refine tk 3 lay5_o3 (mv) (by rfl) (fun w1 hw => exec_load rfl (h27) (H3 _ hw)) hHeld (fun a4 e4 => ?_)
  rw [← e4] at h
  have z4 := pz e4 z3
  replace h5 := pk e4 h5
  clear h27
  have h28 := pq e4 z3
  clear e4 z3
  refine tk 4 lay5_o4 (.pointer (some ⟨nb, 0, none⟩)) (by rfl) (fun w1 hw => exec_fieldAt rfl (h5) (fa_94_0 _ _)) hHeld (fun a5 e5 => ?_)
  rw [← e5] at h
  have z5 := pz e5 z4
  clear h5
  replace h28 := pk e5 h28
  have h29 := pq e5 z4
  clear e5 z4
  refine tk 5 lay5_o5 (uv) (by rfl) (fun w1 hw => exec_load rfl (h29) (H5 _ hw)) hHeld (fun a6 e6 => ?_)
  rw [← e6] at h
  have z6 := pz e6 z5
  replace h28 := pk e6 h28
  clear h29
  have h30 := pq e6 z5
  clear e6 z5
  refine wpAnyH_ready (rs := [6]) (by kernel_rfl) (by simp) ?_
  refine AllReadyH.cons (o := lay5_o6) rfl (fun K hK => ?_) AllReadyH.nil
  have X := exec_makeMap (P := Try.prog) (a := a6) (o := lay5_o6) rfl H6
  rw [if_pos (show Region.wanted lay5_o6 (yielded lay5_ops (a6).tmps) = true from rfl), Oper.wp, X]
  show K _ _
  clear X
  refine hK.out _ _ S1 (fun hHeld => ?_)
  clear hK K
  change wpAnyH _ _ _ _ _ _ _ (a6.put (some 31) (rv)) _
  obtain ⟨a7, e7⟩ : ∃ act, act = a6.put (some 31) (rv) := ⟨_, rfl⟩
  rw [← e7] at h ⊢
  have z7 := pz e7 z6
  replace h28 := pk e7 h28
  replace h30 := pk e7 h30
  have h31 := pq e7 z6
  clear e7 z6
  refine wpAnyH_ready (rs := [7]) (by kernel_rfl) (by simp) ?_
  refine AllReadyH.cons (o := lay5_o7) rfl (fun K hK => ?_) AllReadyH.nil
  have X := exec_mapUpdate (P := Try.prog) (a := a7) (o := lay5_o7) rfl (h28) (h30) (h31) H7
  rw [if_pos (show Region.wanted lay5_o7 (yielded lay5_ops (a7).tmps) = true from rfl), Oper.wp, X]
  show K a7 w2
  clear X
  refine hK.out _ _ S2 (fun hHeld => ?_)
  clear hK K
  clear h28
  clear h30
  clear h31
  exact wpAnyH_done (by kernel_rfl) (NoPanic.normal (h _ rfl)) _
def lay6_o0 : Oper := { dst := some 32, op := Op.move (Operand.tmp 0), type := 25, pos := "tree.go:126", after := #[], guard := none }
def lay6_o1 : Oper := { dst := some 33, op := Op.nilCheck (Operand.tmp 32), type := 0, pos := "tree.go:126", after := #[{ on := 0, ground := Ground.data }], guard := none }
def lay6_o2 : Oper := { dst := some 34, op := Op.fieldAddr 82 (Operand.tmp 33) 1, type := 0, pos := "tree.go:126", after := #[{ on := 1, ground := Ground.data }], guard := none }
def lay6_o3 : Oper := { dst := some 35, op := Op.load 80 (Operand.tmp 34), type := 80, pos := "tree.go:126", after := #[{ on := 2, ground := Ground.data }], guard := none }
def lay6_o4 : Oper := { dst := some 36, op := Op.fieldAddr 94 (Operand.tmp 5) 0, type := 0, pos := "tree.go:126", after := #[], guard := none }
def lay6_o5 : Oper := { dst := some 37, op := Op.load 37 (Operand.tmp 36), type := 37, pos := "tree.go:126", after := #[{ on := 4, ground := Ground.data }], guard := none }
def lay6_o6 : Oper := { dst := some 38, op := Op.lookup 80 (Operand.tmp 35) (Operand.tmp 37) false, type := 95, pos := "tree.go:126", after := #[{ on := 3, ground := Ground.data }, { on := 5, ground := Ground.data }], guard := none }
def lay6_o7 : Oper := { dst := some 39, op := Op.load 37 (Operand.tmp 4), type := 37, pos := "tree.go:126", after := #[], guard := none }
def lay6_o8 : Oper := { dst := some 40, op := Op.build 97 #[], type := 97, pos := "tree.go:126", after := #[], guard := none }
def lay6_o9 : Oper := { dst := none, op := Op.mapUpdate 95 (Operand.tmp 38) (Operand.tmp 39) (Operand.tmp 40), type := 0, pos := "tree.go:126", after := #[{ on := 6, ground := Ground.data }, { on := 7, ground := Ground.data }, { on := 8, ground := Ground.data }, { on := 0, ground := Ground.phase }, { on := 1, ground := Ground.phase }, { on := 2, ground := Ground.phase }, { on := 3, ground := Ground.phase }, { on := 4, ground := Ground.phase }, { on := 5, ground := Ground.phase }, { on := 6, ground := Ground.phase }, { on := 7, ground := Ground.phase }, { on := 8, ground := Ground.phase }], guard := none }
def lay6_ops : Array Oper := #[lay6_o0, lay6_o1, lay6_o2, lay6_o3, lay6_o4, lay6_o5, lay6_o6, lay6_o7, lay6_o8, lay6_o9]
theorem lay6 (t bi nb : Nat) (mv uv rv kv ev : Value) (w1 : World) (S : World → Prop) (a : Act) (w : World) (Q : Exit → Act → World → Prop) (hsz : a.tmps.size = 41)
    (h0 : a.tmps.getD 0 undef = .pointer (some ⟨t, 0, none⟩))
    (h4 : a.tmps.getD 4 undef = .pointer (some ⟨bi, 0, none⟩))
    (h5 : a.tmps.getD 5 undef = .pointer (some ⟨nb, 0, none⟩))
    (hS0 : S w.drew)
    (H3 : ∀ wx, S wx → (Instr.loadAt 80 (.pointer (some ⟨t, 1, none⟩))).run Try.prog wx = .ok (mv) wx)
    (H5 : ∀ wx, S wx → (Instr.loadAt 37 (.pointer (some ⟨nb, 0, none⟩))).run Try.prog wx = .ok (uv) wx)
    (H6 : ∀ wx, S wx → (Instr.lookup 80 (mv) (uv) false).run Try.prog wx = .ok (rv) wx)
    (H7 : ∀ wx, S wx → (Instr.loadAt 37 (.pointer (some ⟨bi, 0, none⟩))).run Try.prog wx = .ok (kv) wx)
    (H8 : ∀ wx, (Instr.build 97 #[]).run Try.prog wx = .ok (ev) wx)
    (H9 : (Instr.mapUpdate 95 (rv) (kv) (ev)).run Try.prog (w.drew) = .ok () w1) (S1 : S w1)
    (h : ∀ (a' : Act), a' = (((((((((a).put (some 32) (.pointer (some ⟨t, 0, none⟩))).put (some 33) (.pointer (some ⟨t, 0, none⟩))).put (some 34) (.pointer (some ⟨t, 1, none⟩))).put (some 35) (mv)).put (some 36) (.pointer (some ⟨nb, 0, none⟩))).put (some 37) (uv)).put (some 38) (rv)).put (some 39) (kv)).put (some 40) (ev) → Q .normal a' w1) :
    (Code.region 6 lay6_ops true).wp Try.prog Q a w := by
  refine wp_region_noPanic ?_
  refine wp_region_held_drew (S := S) (by kernel_rfl) hS0 (fun hHeld => ?_)
  change wpAnyH _ _ _ _ _ _ _ a _
  refine tk 0 lay6_o0 (.pointer (some ⟨t, 0, none⟩)) (by rfl) (fun w1 hw => exec_move rfl (h0)) hHeld (fun a1 e1 => ?_)
  rw [← e1] at h
  have z1 := pz e1 hsz
  clear h0
  replace h4 := pk e1 h4
  replace h5 := pk e1 h5
  have h32 := pq e1 hsz
  clear e1 hsz
  refine tk 1 lay6_o1 (.pointer (some ⟨t, 0, none⟩)) (by rfl) (fun w1 hw => exec_nilCheck rfl (h32)) hHeld (fun a2 e2 => ?_)
  rw [← e2] at h
  have z2 := pz e2 z1
  replace h4 := pk e2 h4
  replace h5 := pk e2 h5
  clear h32
  have h33 := pq e2 z1
  clear e2 z1
  refine tk 2 lay6_o2 (.pointer (some ⟨t, 1, none⟩)) (by rfl) (fun w1 hw => exec_fieldAt rfl (h33) (fa_82_1 _ _)) hHeld (fun a3 e3 => ?_)
  rw [← e3] at h
  have z3 := pz e3 z2
  replace h4 := pk e3 h4
  replace h5 := pk e3 h5
  clear h33
  have h34 := pq e3 z2
  clear e3 z2
  refine tk 3 lay6_o3 (mv) (by rfl) (fun w1 hw => exec_load rfl (h34) (H3 _ hw)) hHeld (fun a4 e4 => ?_)
  rw [← e4] at h
  have z4 := pz e4 z3
  replace h4 := pk e4 h4
  replace h5 := pk e4 h5
  clear h34
  have h35 := pq e4 z3
  clear e4 z3
  refine tk 4 lay6_o4 (.pointer (some ⟨nb, 0, none⟩)) (by rfl) (fun w1 hw => exec_fieldAt rfl (h5) (fa_94_0 _ _)) hHeld (fun a5 e5 => ?_)
  rw [← e5] at h
  have z5 := pz e5 z4
  replace h4 := pk e5 h4
  clear h5
  replace h35 := pk e5 h35
  have h36 := pq e5 z4
  clear e5 z4
  refine tk 5 lay6_o5 (uv) (by rfl) (fun w1 hw => exec_load rfl (h36) (H5 _ hw)) hHeld (fun a6 e6 => ?_)
  rw [← e6] at h
  have z6 := pz e6 z5
  replace h4 := pk e6 h4
  replace h35 := pk e6 h35
  clear h36
  have h37 := pq e6 z5
  clear e6 z5
  refine tk 6 lay6_o6 (rv) (by rfl) (fun w1 hw => exec_lookup rfl (h35) (h37) (H6 _ hw)) hHeld (fun a7 e7 => ?_)
  rw [← e7] at h
  have z7 := pz e7 z6
  replace h4 := pk e7 h4
  clear h35
  clear h37
  have h38 := pq e7 z6
  clear e7 z6
  refine tk 7 lay6_o7 (kv) (by rfl) (fun w1 hw => exec_load rfl (h4) (H7 _ hw)) hHeld (fun a8 e8 => ?_)
  rw [← e8] at h
  have z8 := pz e8 z7
  clear h4
  replace h38 := pk e8 h38
  have h39 := pq e8 z7
  clear e8 z7
  refine tk 8 lay6_o8 (ev) (by rfl) (fun w1 hw => exec_build0 rfl (H8 _)) hHeld (fun a9 e9 => ?_)
  rw [← e9] at h
  have z9 := pz e9 z8
  replace h38 := pk e9 h38
  replace h39 := pk e9 h39
  have h40 := pq e9 z8
  clear e9 z8
  refine wpAnyH_ready (rs := [9]) (by kernel_rfl) (by simp) ?_
  refine AllReadyH.cons (o := lay6_o9) rfl (fun K hK => ?_) AllReadyH.nil
  have X := exec_mapUpdate (P := Try.prog) (a := a9) (o := lay6_o9) rfl (h38) (h39) (h40) H9
  rw [if_pos (show Region.wanted lay6_o9 (yielded lay6_ops (a9).tmps) = true from rfl), Oper.wp, X]
  show K a9 w1
  clear X
  refine hK.out _ _ S1 (fun hHeld => ?_)
  clear hK K
  clear h38
  clear h39
  clear h40
  exact wpAnyH_done (by kernel_rfl) (NoPanic.normal (h _ rfl)) _
end Go.Proofs.Ytoofljkgdjjllaa
