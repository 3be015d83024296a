import Derived.Test.YtoofljkgdjjllaaRg
import Derived.Test.YtoofljkgdjjllaaTo
namespace Go.Proofs.Ytoofljkgdjjllaa
open Go.RowKit
set_option linter.unusedVariables false
set_option linter.unusedSimpArgs false

def growb1_o0 : Oper := { dst := some 6, op := Op.move (Operand.tmp 0), type := 25, pos := "tree.go:62", after := #[], guard := none }
def growb1_o1 : Oper := { dst := some 7, op := Op.nilCheck (Operand.tmp 6), type := 0, pos := "tree.go:62", after := #[{ on := 0, ground := Ground.data }], guard := none }
def growb1_o2 : Oper := { dst := some 8, op := Op.fieldAddr 82 (Operand.tmp 7) 0, type := 0, pos := "tree.go:62", after := #[{ on := 1, ground := Ground.data }], guard := none }
def growb1_o3 : Oper := { dst := some 9, op := Op.load 79 (Operand.tmp 8), type := 79, pos := "tree.go:62", after := #[{ on := 2, ground := Ground.data }], guard := none }
def growb1_o4 : Oper := { dst := some 10, op := Op.load 37 (Operand.tmp 1), type := 37, pos := "tree.go:62", after := #[], guard := none }
def growb1_o5 : Oper := { dst := none, op := Op.call { callee := Callee.builtin Builtin.delete, args := #[Operand.tmp 9, Operand.tmp 10], argTypes := #[79, 37] }, type := 0, pos := "tree.go:62", after := #[{ on := 3, ground := Ground.data }, { on := 4, ground := Ground.data }], guard := none }
def growb1_ops : Array Oper := #[growb1_o0, growb1_o1, growb1_o2, growb1_o3, growb1_o4, growb1_o5]
theorem growb1 (t bi : Nat) (mv kv : Value) (w1 : World) (S : World → Prop) (a : Act) (w : World) (Q : Exit → Act → World → Prop) (hsz : a.tmps.size = 11)
    (h0 : a.tmps.getD 0 undef = .pointer (some ⟨t, 0, none⟩))
    (h1 : a.tmps.getD 1 undef = .pointer (some ⟨bi, 0, none⟩))
    (hS0 : S w.drew)
    (H3 : ∀ wx, S wx → (Instr.loadAt 79 (.pointer (some ⟨t, 0, none⟩))).run Try.prog wx = .ok (mv) wx)
    (H4 : ∀ wx, S wx → (Instr.loadAt 37 (.pointer (some ⟨bi, 0, none⟩))).run Try.prog wx = .ok (kv) wx)
    (H5 : (Builtin.delete_ #[79, 37] 0 #[mv, kv]).run Try.prog (w.drew) = .ok (.tuple #[]) w1) (S1 : S w1)
    (h : ∀ (a' : Act), a' = (((((a).put (some 6) (.pointer (some ⟨t, 0, none⟩))).put (some 7) (.pointer (some ⟨t, 0, none⟩))).put (some 8) (.pointer (some ⟨t, 0, none⟩))).put (some 9) (mv)).put (some 10) (kv) → Q .normal a' w1) :
    (Code.region 1 growb1_ops true).wp Try.prog Q a w := by
  refine wp_region_noPanic ?_
  refine wp_region_held_drew (S := S) (by kernel_rfl) hS0 (fun hHeld => ?_)
  refine tk 0 growb1_o0 (.pointer (some ⟨t, 0, none⟩)) (by rfl) (fun w1 hw => exec_move rfl (h0)) hHeld (fun a1 e1 => ?_)
  rw [← e1] at h
  have z1 := pz e1 hsz
  clear h0
  replace h1 := pk e1 h1
  have h6 := pq e1 hsz
  clear e1 hsz
  refine tk 1 growb1_o1 (.pointer (some ⟨t, 0, none⟩)) (by rfl) (fun w1 hw => exec_nilCheck rfl (h6)) hHeld (fun a2 e2 => ?_)
  rw [← e2] at h
  have z2 := pz e2 z1
  replace h1 := pk e2 h1
  clear h6
  have h7 := pq e2 z1
  clear e2 z1
  refine tk 2 growb1_o2 (.pointer (some ⟨t, 0, none⟩)) (by rfl) (fun w1 hw => exec_fieldAt rfl (h7) (fa_82_0 _ _)) hHeld (fun a3 e3 => ?_)
  rw [← e3] at h
  have z3 := pz e3 z2
  replace h1 := pk e3 h1
  clear h7
  have h8 := pq e3 z2
  clear e3 z2
  refine tk 3 growb1_o3 (mv) (by rfl) (fun w1 hw => exec_load rfl (h8) (H3 _ hw)) hHeld (fun a4 e4 => ?_)
  rw [← e4] at h
  have z4 := pz e4 z3
  replace h1 := pk e4 h1
  clear h8
  have h9 := pq e4 z3
  clear e4 z3
  refine tk 4 growb1_o4 (kv) (by rfl) (fun w1 hw => exec_load rfl (h1) (H4 _ hw)) hHeld (fun a5 e5 => ?_)
  rw [← e5] at h
  have z5 := pz e5 z4
  clear h1
  replace h9 := pk e5 h9
  have h10 := pq e5 z4
  clear e5 z4
  refine wpAnyH_ready (rs := [5]) (by kernel_rfl) (by simp) ?_
  refine AllReadyH.cons (o := growb1_o5) rfl (fun K hK => ?_) AllReadyH.nil
  have X := exec_delete (P := Try.prog) (a := a5) (o := growb1_o5) rfl (h9) (h10) H5
  rw [if_pos (show Region.wanted growb1_o5 (yielded growb1_ops (a5).tmps) = true from rfl), Oper.wp, X]
  show K a5 w1
  clear X
  refine hK.out _ _ S1 (fun hHeld => ?_)
  clear hK K
  clear h9
  clear h10
  exact wpAnyH_done (by kernel_rfl) (NoPanic.normal (h _ rfl)) _
def put1_o0 : Oper := { dst := some 9, op := Op.move (Operand.tmp 0), type := 25, pos := "tree.go:105", after := #[], guard := none }
def put1_o1 : Oper := { dst := some 10, op := Op.nilCheck (Operand.tmp 9), type := 0, pos := "tree.go:105", after := #[{ on := 0, ground := Ground.data }], guard := none }
def put1_o2 : Oper := { dst := some 11, op := Op.fieldAddr 82 (Operand.tmp 10) 0, type := 0, pos := "tree.go:105", after := #[{ on := 1, ground := Ground.data }], guard := none }
def put1_o3 : Oper := { dst := some 12, op := Op.load 79 (Operand.tmp 11), type := 79, pos := "tree.go:105", after := #[{ on := 2, ground := Ground.data }], guard := none }
def put1_o4 : Oper := { dst := some 13, op := Op.load 37 (Operand.tmp 4), type := 37, pos := "tree.go:105", after := #[], guard := none }
def put1_o5 : Oper := { dst := some 14, op := Op.lookup 79 (Operand.tmp 12) (Operand.tmp 13) false, type := 94, pos := "tree.go:105", after := #[{ on := 3, ground := Ground.data }, { on := 4, ground := Ground.data }], guard := none }
def put1_o6 : Oper := { dst := some 8, op := Op.alloc 94, type := 0, pos := "tree.go:105", after := #[], guard := none }
def put1_o7 : Oper := { dst := none, op := Op.store 94 (Operand.tmp 8) (Operand.tmp 14), type := 0, pos := "tree.go:105", after := #[{ on := 6, ground := Ground.data }, { on := 5, ground := Ground.data }, { on := 0, ground := Ground.phase }, { on := 1, ground := Ground.phase }, { on := 2, ground := Ground.phase }, { on := 3, ground := Ground.phase }, { on := 4, ground := Ground.phase }, { on := 5, ground := Ground.phase }, { on := 6, ground := Ground.phase }], guard := none }
def put1_ops : Array Oper := #[put1_o0, put1_o1, put1_o2, put1_o3, put1_o4, put1_o5, put1_o6, put1_o7]
theorem put1 (t bi nb : Nat) (mv kv nv : Value) (w1 w2 : World) (S : World → Prop) (a : Act) (w : World) (Q : Exit → Act → World → Prop) (hsz : a.tmps.size = 24)
    (h0 : a.tmps.getD 0 undef = .pointer (some ⟨t, 0, none⟩))
    (h4 : a.tmps.getD 4 undef = .pointer (some ⟨bi, 0, none⟩))
    (hS0 : S w.drew)
    (H3 : ∀ wx, S wx → (Instr.loadAt 79 (.pointer (some ⟨t, 0, none⟩))).run Try.prog wx = .ok (mv) wx)
    (H4 : ∀ wx, S wx → (Instr.loadAt 37 (.pointer (some ⟨bi, 0, none⟩))).run Try.prog wx = .ok (kv) wx)
    (H5 : ∀ wx, S wx → (Instr.lookup 79 (mv) (kv) false).run Try.prog wx = .ok (nv) wx)
    (H6 : (Instr.alloc 94 true (.tuple #[])).run Try.prog (w.drew) = .ok (.pointer (some ⟨nb, 0, none⟩)) w1) (S1 : S w1)
    (H7 : (Instr.storeAt 94 (.pointer (some ⟨nb, 0, none⟩)) (nv)).run Try.prog (w1) = .ok () w2) (S2 : S w2)
    (h : ∀ (a' : Act), a' = (((((((a).put (some 9) (.pointer (some ⟨t, 0, none⟩))).put (some 10) (.pointer (some ⟨t, 0, none⟩))).put (some 11) (.pointer (some ⟨t, 0, none⟩))).put (some 12) (mv)).put (some 13) (kv)).put (some 14) (nv)).put (some 8) (.pointer (some ⟨nb, 0, none⟩)) → Q .normal a' w2) :
    (Code.region 1 put1_ops true).wp Try.prog Q a w := by
  refine wp_region_noPanic ?_
  refine wp_region_held_drew (S := S) (by kernel_rfl) hS0 (fun hHeld => ?_)
  change wpAnyH _ _ _ _ _ _ _ a _
  refine tk 0 put1_o0 (.pointer (some ⟨t, 0, none⟩)) (by rfl) (fun w1 hw => exec_move rfl (h0)) hHeld (fun a1 e1 => ?_)
  rw [← e1] at h
  have z1 := pz e1 hsz
  clear h0
  replace h4 := pk e1 h4
  have h9 := pq e1 hsz
  clear e1 hsz
  refine tk 1 put1_o1 (.pointer (some ⟨t, 0, none⟩)) (by rfl) (fun w1 hw => exec_nilCheck rfl (h9)) hHeld (fun a2 e2 => ?_)
  rw [← e2] at h
  have z2 := pz e2 z1
  replace h4 := pk e2 h4
  clear h9
  have h10 := pq e2 z1
  clear e2 z1
  refine tk 2 put1_o2 (.pointer (some ⟨t, 0, none⟩)) (by rfl) (fun w1 hw => exec_fieldAt rfl (h10) (fa_82_0 _ _)) hHeld (fun a3 e3 => ?_)
  rw [← e3] at h
  have z3 := pz e3 z2
  replace h4 := pk e3 h4
  clear h10
  have h11 := pq e3 z2
  clear e3 z2
  refine tk 3 put1_o3 (mv) (by rfl) (fun w1 hw => exec_load rfl (h11) (H3 _ hw)) hHeld (fun a4 e4 => ?_)
  rw [← e4] at h
  have z4 := pz e4 z3
  replace h4 := pk e4 h4
  clear h11
  have h12 := pq e4 z3
  clear e4 z3
  refine tk 4 put1_o4 (kv) (by rfl) (fun w1 hw => exec_load rfl (h4) (H4 _ hw)) hHeld (fun a5 e5 => ?_)
  rw [← e5] at h
  have z5 := pz e5 z4
  clear h4
  replace h12 := pk e5 h12
  have h13 := pq e5 z4
  clear e5 z4
  refine tk 5 put1_o5 (nv) (by rfl) (fun w1 hw => exec_lookup rfl (h12) (h13) (H5 _ hw)) hHeld (fun a6 e6 => ?_)
  rw [← e6] at h
  have z6 := pz e6 z5
  clear h12
  clear h13
  have h14 := pq e6 z5
  clear e6 z5
  refine wpAnyH_ready (rs := [6]) (by kernel_rfl) (by simp) ?_
  refine AllReadyH.cons (o := put1_o6) rfl (fun K hK => ?_) AllReadyH.nil
  have X := exec_alloc (P := Try.prog) (a := a6) (o := put1_o6) rfl H6
  rw [if_pos (show Region.wanted put1_o6 (yielded put1_ops (a6).tmps) = true from rfl), Oper.wp, X]
  show K _ _
  clear X
  refine hK.out _ _ S1 (fun hHeld => ?_)
  clear hK K
  change wpAnyH _ _ _ _ _ _ _ (a6.put (some 8) (.pointer (some ⟨nb, 0, none⟩))) _
  obtain ⟨a7, e7⟩ : ∃ act, act = a6.put (some 8) (.pointer (some ⟨nb, 0, none⟩)) := ⟨_, rfl⟩
  rw [← e7] at h ⊢
  have z7 := pz e7 z6
  replace h14 := pk e7 h14
  have h8 := pq e7 z6
  clear e7 z6
  refine wpAnyH_ready (rs := [7]) (by kernel_rfl) (by simp) ?_
  refine AllReadyH.cons (o := put1_o7) rfl (fun K hK => ?_) AllReadyH.nil
  have X := exec_store (P := Try.prog) (a := a7) (o := put1_o7) rfl (h8) (h14) H7
  rw [if_pos (show Region.wanted put1_o7 (yielded put1_ops (a7).tmps) = true from rfl), Oper.wp, X]
  show K a7 w2
  clear X
  refine hK.out _ _ S2 (fun hHeld => ?_)
  clear hK K
  clear h14
  clear h8
  exact wpAnyH_done (by kernel_rfl) (NoPanic.normal (h _ rfl)) _
def lies3_o0 : Oper := { dst := some 12, op := Op.move (Operand.tmp 0), type := 25, pos := "tree.go:156", after := #[], guard := none }
def lies3_o1 : Oper := { dst := some 13, op := Op.nilCheck (Operand.tmp 12), type := 0, pos := "tree.go:156", after := #[{ on := 0, ground := Ground.data }], guard := none }
def lies3_o2 : Oper := { dst := some 14, op := Op.fieldAddr 82 (Operand.tmp 13) 0, type := 0, pos := "tree.go:156", after := #[{ on := 1, ground := Ground.data }], guard := none }
def lies3_o3 : Oper := { dst := some 15, op := Op.load 79 (Operand.tmp 14), type := 79, pos := "tree.go:156", after := #[{ on := 2, ground := Ground.data }], guard := none }
def lies3_o4 : Oper := { dst := some 16, op := Op.load 37 (Operand.tmp 4), type := 37, pos := "tree.go:156", after := #[], guard := none }
def lies3_o5 : Oper := { dst := some 17, op := Op.lookup 79 (Operand.tmp 15) (Operand.tmp 16) false, type := 94, pos := "tree.go:156", after := #[{ on := 3, ground := Ground.data }, { on := 4, ground := Ground.data }], guard := none }
def lies3_o6 : Oper := { dst := some 8, op := Op.alloc 94, type := 0, pos := "tree.go:156", after := #[], guard := none }
def lies3_o7 : Oper := { dst := none, op := Op.store 94 (Operand.tmp 8) (Operand.tmp 17), type := 0, pos := "tree.go:156", after := #[{ on := 6, ground := Ground.data }, { on := 5, ground := Ground.data }, { on := 0, ground := Ground.phase }, { on := 1, ground := Ground.phase }, { on := 2, ground := Ground.phase }, { on := 3, ground := Ground.phase }, { on := 4, ground := Ground.phase }, { on := 5, ground := Ground.phase }, { on := 6, ground := Ground.phase }], guard := none }
def lies3_ops : Array Oper := #[lies3_o0, lies3_o1, lies3_o2, lies3_o3, lies3_o4, lies3_o5, lies3_o6, lies3_o7]
theorem lies3 (t bi nb : Nat) (mv kv nv : Value) (w1 w2 : World) (S : World → Prop) (a : Act) (w : World) (Q : Exit → Act → World → Prop) (hsz : a.tmps.size = 28)
    (h0 : a.tmps.getD 0 undef = .pointer (some ⟨t, 0, none⟩))
    (h4 : a.tmps.getD 4 undef = .pointer (some ⟨bi, 0, none⟩))
    (hS0 : S w.drew)
    (H3 : ∀ wx, S wx → (Instr.loadAt 79 (.pointer (some ⟨t, 0, none⟩))).run Try.prog wx = .ok (mv) wx)
    (H4 : ∀ wx, S wx → (Instr.loadAt 37 (.pointer (some ⟨bi, 0, none⟩))).run Try.prog wx = .ok (kv) wx)
    (H5 : ∀ wx, S wx → (Instr.lookup 79 (mv) (kv) false).run Try.prog wx = .ok (nv) wx)
    (H6 : (Instr.alloc 94 true (.tuple #[])).run Try.prog (w.drew) = .ok (.pointer (some ⟨nb, 0, none⟩)) w1) (S1 : S w1)
    (H7 : (Instr.storeAt 94 (.pointer (some ⟨nb, 0, none⟩)) (nv)).run Try.prog (w1) = .ok () w2) (S2 : S w2)
    (h : ∀ (a' : Act), a' = (((((((a).put (some 12) (.pointer (some ⟨t, 0, none⟩))).put (some 13) (.pointer (some ⟨t, 0, none⟩))).put (some 14) (.pointer (some ⟨t, 0, none⟩))).put (some 15) (mv)).put (some 16) (kv)).put (some 17) (nv)).put (some 8) (.pointer (some ⟨nb, 0, none⟩)) → Q .normal a' w2) :
    (Code.region 3 lies3_ops true).wp Try.prog Q a w := by
  refine wp_region_noPanic ?_
  refine wp_region_held_drew (S := S) (by kernel_rfl) hS0 (fun hHeld => ?_)
  change wpAnyH _ _ _ _ _ _ _ a _
  refine tk 0 lies3_o0 (.pointer (some ⟨t, 0, none⟩)) (by rfl) (fun w1 hw => exec_move rfl (h0)) hHeld (fun a1 e1 => ?_)
  rw [← e1] at h
  have z1 := pz e1 hsz
  clear h0
  replace h4 := pk e1 h4
  have h12 := pq e1 hsz
  clear e1 hsz
  refine tk 1 lies3_o1 (.pointer (some ⟨t, 0, none⟩)) (by rfl) (fun w1 hw => exec_nilCheck rfl (h12)) hHeld (fun a2 e2 => ?_)
  rw [← e2] at h
  have z2 := pz e2 z1
  replace h4 := pk e2 h4
  clear h12
  have h13 := pq e2 z1
  clear e2 z1
  refine tk 2 lies3_o2 (.pointer (some ⟨t, 0, none⟩)) (by rfl) (fun w1 hw => exec_fieldAt rfl (h13) (fa_82_0 _ _)) hHeld (fun a3 e3 => ?_)
  rw [← e3] at h
  have z3 := pz e3 z2
  replace h4 := pk e3 h4
  clear h13
  have h14 := pq e3 z2
  clear e3 z2
  refine tk 3 lies3_o3 (mv) (by rfl) (fun w1 hw => exec_load rfl (h14) (H3 _ hw)) hHeld (fun a4 e4 => ?_)
  rw [← e4] at h
  have z4 := pz e4 z3
  replace h4 := pk e4 h4
  clear h14
  have h15 := pq e4 z3
  clear e4 z3
  refine tk 4 lies3_o4 (kv) (by rfl) (fun w1 hw => exec_load rfl (h4) (H4 _ hw)) hHeld (fun a5 e5 => ?_)
  rw [← e5] at h
  have z5 := pz e5 z4
  clear h4
  replace h15 := pk e5 h15
  have h16 := pq e5 z4
  clear e5 z4
  refine tk 5 lies3_o5 (nv) (by rfl) (fun w1 hw => exec_lookup rfl (h15) (h16) (H5 _ hw)) hHeld (fun a6 e6 => ?_)
  rw [← e6] at h
  have z6 := pz e6 z5
  clear h15
  clear h16
  have h17 := pq e6 z5
  clear e6 z5
  refine wpAnyH_ready (rs := [6]) (by kernel_rfl) (by simp) ?_
  refine AllReadyH.cons (o := lies3_o6) rfl (fun K hK => ?_) AllReadyH.nil
  have X := exec_alloc (P := Try.prog) (a := a6) (o := lies3_o6) rfl H6
  rw [if_pos (show Region.wanted lies3_o6 (yielded lies3_ops (a6).tmps) = true from rfl), Oper.wp, X]
  show K _ _
  clear X
  refine hK.out _ _ S1 (fun hHeld => ?_)
  clear hK K
  change wpAnyH _ _ _ _ _ _ _ (a6.put (some 8) (.pointer (some ⟨nb, 0, none⟩))) _
  obtain ⟨a7, e7⟩ : ∃ act, act = a6.put (some 8) (.pointer (some ⟨nb, 0, none⟩)) := ⟨_, rfl⟩
  rw [← e7] at h ⊢
  have z7 := pz e7 z6
  replace h17 := pk e7 h17
  have h8 := pq e7 z6
  clear e7 z6
  refine wpAnyH_ready (rs := [7]) (by kernel_rfl) (by simp) ?_
  refine AllReadyH.cons (o := lies3_o7) rfl (fun K hK => ?_) AllReadyH.nil
  have X := exec_store (P := Try.prog) (a := a7) (o := lies3_o7) rfl (h8) (h17) H7
  rw [if_pos (show Region.wanted lies3_o7 (yielded lies3_ops (a7).tmps) = true from rfl), Oper.wp, X]
  show K a7 w2
  clear X
  refine hK.out _ _ S2 (fun hHeld => ?_)
  clear hK K
  clear h17
  clear h8
  exact wpAnyH_done (by kernel_rfl) (NoPanic.normal (h _ rfl)) _
def climb1_o0 : Oper := { dst := some 8, op := Op.move (Operand.tmp 0), type := 25, pos := "tell.go:40", after := #[{ on := 7, ground := Ground.gcOnly Departure.lateStores }], guard := none }
def climb1_o1 : Oper := { dst := some 9, op := Op.nilCheck (Operand.tmp 8), type := 0, pos := "tell.go:40", after := #[{ on := 0, ground := Ground.data }, { on := 7, ground := Ground.gcOnly Departure.lateStores }], guard := none }
def climb1_o2 : Oper := { dst := some 10, op := Op.fieldAddr 82 (Operand.tmp 9) 0, type := 0, pos := "tell.go:40", after := #[{ on := 1, ground := Ground.data }, { on := 7, ground := Ground.gcOnly Departure.lateStores }], guard := none }
def climb1_o3 : Oper := { dst := some 11, op := Op.load 79 (Operand.tmp 10), type := 79, pos := "tell.go:40", after := #[{ on := 2, ground := Ground.data }, { on := 7, ground := Ground.gcOnly Departure.lateStores }], guard := none }
def climb1_o4 : Oper := { dst := some 12, op := Op.load 37 (Operand.tmp 3), type := 37, pos := "tell.go:40", after := #[{ on := 7, ground := Ground.gcOnly Departure.lateStores }], guard := none }
def climb1_o5 : Oper := { dst := some 13, op := Op.lookup 79 (Operand.tmp 11) (Operand.tmp 12) false, type := 94, pos := "tell.go:40", after := #[{ on := 3, ground := Ground.data }, { on := 4, ground := Ground.data }, { on := 7, ground := Ground.gcOnly Departure.lateStores }], guard := none }
def climb1_o6 : Oper := { dst := some 7, op := Op.alloc 94, type := 0, pos := "tell.go:40", after := #[], guard := none }
def climb1_o7 : Oper := { dst := some 6, op := Op.assign (Operand.const (Value.int IntKind.i64 0)), type := 3, pos := "tell.go:40", after := #[{ on := 0, ground := Ground.textOnly Departure.lateStores }, { on := 1, ground := Ground.textOnly Departure.lateStores }, { on := 2, ground := Ground.textOnly Departure.lateStores }, { on := 3, ground := Ground.textOnly Departure.lateStores }, { on := 4, ground := Ground.textOnly Departure.lateStores }, { on := 5, ground := Ground.textOnly Departure.lateStores }, { on := 6, ground := Ground.phase }], guard := none }
def climb1_o8 : Oper := { dst := none, op := Op.store 94 (Operand.tmp 7) (Operand.tmp 13), type := 0, pos := "tell.go:40", after := #[{ on := 6, ground := Ground.data }, { on := 5, ground := Ground.data }, { on := 7, ground := Ground.chain }, { on := 0, ground := Ground.phase }, { on := 1, ground := Ground.phase }, { on := 2, ground := Ground.phase }, { on := 3, ground := Ground.phase }, { on := 4, ground := Ground.phase }, { on := 5, ground := Ground.phase }, { on := 6, ground := Ground.phase }, { on := 7, ground := Ground.phase }], guard := none }
def climb1_ops : Array Oper := #[climb1_o0, climb1_o1, climb1_o2, climb1_o3, climb1_o4, climb1_o5, climb1_o6, climb1_o7, climb1_o8]
theorem climb1 (t bi nb : Nat) (mv kv nv : Value) (w1 w2 : World) (S : World → Prop) (a : Act) (w : World) (Q : Exit → Act → World → Prop) (hsz : a.tmps.size = 35)
    (h0 : a.tmps.getD 0 undef = .pointer (some ⟨t, 0, none⟩))
    (h3 : a.tmps.getD 3 undef = .pointer (some ⟨bi, 0, none⟩))
    (hS0 : S w.drew)
    (H3 : ∀ wx, S wx → (Instr.loadAt 79 (.pointer (some ⟨t, 0, none⟩))).run Try.prog wx = .ok (mv) wx)
    (H4 : ∀ wx, S wx → (Instr.loadAt 37 (.pointer (some ⟨bi, 0, none⟩))).run Try.prog wx = .ok (kv) wx)
    (H5 : ∀ wx, S wx → (Instr.lookup 79 (mv) (kv) false).run Try.prog wx = .ok (nv) wx)
    (H6 : (Instr.alloc 94 true (.tuple #[])).run Try.prog (w.drew) = .ok (.pointer (some ⟨nb, 0, none⟩)) w1) (S1 : S w1)
    (H8 : (Instr.storeAt 94 (.pointer (some ⟨nb, 0, none⟩)) (nv)).run Try.prog (w1) = .ok () w2) (S2 : S w2)
    (h : ∀ (a' : Act), a' = ((((((((a).put (some 8) (.pointer (some ⟨t, 0, none⟩))).put (some 9) (.pointer (some ⟨t, 0, none⟩))).put (some 10) (.pointer (some ⟨t, 0, none⟩))).put (some 11) (mv)).put (some 12) (kv)).put (some 13) (nv)).put (some 7) (.pointer (some ⟨nb, 0, none⟩))).put (some 6) (.int .i64 0) → Q .normal a' w2) :
    (Code.region 1 climb1_ops true).wp Try.prog Q a w := by
  refine wp_region_noPanic ?_
  refine wp_region_held_drew (S := S) (by kernel_rfl) hS0 (fun hHeld => ?_)
  change wpAnyH _ _ _ _ _ _ _ a _
  refine tk 0 climb1_o0 (.pointer (some ⟨t, 0, none⟩)) (by rfl) (fun w1 hw => exec_move rfl (h0)) hHeld (fun a1 e1 => ?_)
  rw [← e1] at h
  have z1 := pz e1 hsz
  clear h0
  replace h3 := pk e1 h3
  have h8 := pq e1 hsz
  clear e1 hsz
  refine tk 1 climb1_o1 (.pointer (some ⟨t, 0, none⟩)) (by rfl) (fun w1 hw => exec_nilCheck rfl (h8)) hHeld (fun a2 e2 => ?_)
  rw [← e2] at h
  have z2 := pz e2 z1
  replace h3 := pk e2 h3
  clear h8
  have h9 := pq e2 z1
  clear e2 z1
  refine tk 2 climb1_o2 (.pointer (some ⟨t, 0, none⟩)) (by rfl) (fun w1 hw => exec_fieldAt rfl (h9) (fa_82_0 _ _)) hHeld (fun a3 e3 => ?_)
  rw [← e3] at h
  have z3 := pz e3 z2
  replace h3 := pk e3 h3
  clear h9
  have h10 := pq e3 z2
  clear e3 z2
  refine tk 3 climb1_o3 (mv) (by rfl) (fun w1 hw => exec_load rfl (h10) (H3 _ hw)) hHeld (fun a4 e4 => ?_)
  rw [← e4] at h
  have z4 := pz e4 z3
  replace h3 := pk e4 h3
  clear h10
  have h11 := pq e4 z3
  clear e4 z3
  refine tk 4 climb1_o4 (kv) (by rfl) (fun w1 hw => exec_load rfl (h3) (H4 _ hw)) hHeld (fun a5 e5 => ?_)
  rw [← e5] at h
  have z5 := pz e5 z4
  clear h3
  replace h11 := pk e5 h11
  have h12 := pq e5 z4
  clear e5 z4
  refine tk 5 climb1_o5 (nv) (by rfl) (fun w1 hw => exec_lookup rfl (h11) (h12) (H5 _ hw)) hHeld (fun a6 e6 => ?_)
  rw [← e6] at h
  have z6 := pz e6 z5
  clear h11
  clear h12
  have h13 := pq e6 z5
  clear e6 z5
  refine wpAnyH_ready (rs := [6]) (by kernel_rfl) (by simp) ?_
  refine AllReadyH.cons (o := climb1_o6) rfl (fun K hK => ?_) AllReadyH.nil
  have X := exec_alloc (P := Try.prog) (a := a6) (o := climb1_o6) rfl H6
  rw [if_pos (show Region.wanted climb1_o6 (yielded climb1_ops (a6).tmps) = true from rfl), Oper.wp, X]
  show K _ _
  clear X
  refine hK.out _ _ S1 (fun hHeld => ?_)
  clear hK K
  change wpAnyH _ _ _ _ _ _ _ (a6.put (some 7) (.pointer (some ⟨nb, 0, none⟩))) _
  obtain ⟨a7, e7⟩ : ∃ act, act = a6.put (some 7) (.pointer (some ⟨nb, 0, none⟩)) := ⟨_, rfl⟩
  rw [← e7] at h ⊢
  have z7 := pz e7 z6
  replace h13 := pk e7 h13
  have h7 := pq e7 z6
  clear e7 z6
  refine tk 7 climb1_o7 (.int .i64 0) (by rfl) (fun w1 hw => exec_assign rfl (rfl)) hHeld (fun a8 e8 => ?_)
  rw [← e8] at h
  have z8 := pz e8 z7
  replace h13 := pk e8 h13
  replace h7 := pk e8 h7
  clear e8 z7
  refine wpAnyH_ready (rs := [8]) (by kernel_rfl) (by simp) ?_
  refine AllReadyH.cons (o := climb1_o8) rfl (fun K hK => ?_) AllReadyH.nil
  have X := exec_store (P := Try.prog) (a := a8) (o := climb1_o8) rfl (h7) (h13) H8
  rw [if_pos (show Region.wanted climb1_o8 (yielded climb1_ops (a8).tmps) = true from rfl), Oper.wp, X]
  show K a8 w2
  clear X
  refine hK.out _ _ S2 (fun hHeld => ?_)
  clear hK K
  clear h13
  clear h7
  exact wpAnyH_done (by kernel_rfl) (NoPanic.normal (h _ rfl)) _
def climb3_o0 : Oper := { dst := some 23, op := Op.move (Operand.tmp 0), type := 25, pos := "tell.go:42", after := #[], guard := none }
def climb3_o1 : Oper := { dst := some 24, op := Op.nilCheck (Operand.tmp 23), type := 0, pos := "tell.go:42", after := #[{ on := 0, ground := Ground.data }], guard := none }
def climb3_o2 : Oper := { dst := some 25, op := Op.fieldAddr 82 (Operand.tmp 24) 0, type := 0, pos := "tell.go:42", after := #[{ on := 1, ground := Ground.data }], guard := none }
def climb3_o3 : Oper := { dst := some 26, op := Op.load 79 (Operand.tmp 25), type := 79, pos := "tell.go:42", after := #[{ on := 2, ground := Ground.data }], guard := none }
def climb3_o4 : Oper := { dst := some 27, op := Op.fieldAddr 94 (Operand.tmp 7) 0, type := 0, pos := "tell.go:42", after := #[], guard := none }
def climb3_o5 : Oper := { dst := some 28, op := Op.load 37 (Operand.tmp 27), type := 37, pos := "tell.go:42", after := #[{ on := 4, ground := Ground.data }], guard := none }
def climb3_o6 : Oper := { dst := some 29, op := Op.lookup 79 (Operand.tmp 26) (Operand.tmp 28) false, type := 94, pos := "tell.go:42", after := #[{ on := 3, ground := Ground.data }, { on := 5, ground := Ground.data }], guard := none }
def climb3_o7 : Oper := { dst := none, op := Op.store 94 (Operand.tmp 7) (Operand.tmp 29), type := 0, pos := "tell.go:42", after := #[{ on := 6, ground := Ground.data }, { on := 0, ground := Ground.phase }, { on := 1, ground := Ground.phase }, { on := 2, ground := Ground.phase }, { on := 3, ground := Ground.phase }, { on := 4, ground := Ground.phase }, { on := 5, ground := Ground.phase }, { on := 6, ground := Ground.phase }], guard := none }
def climb3_ops : Array Oper := #[climb3_o0, climb3_o1, climb3_o2, climb3_o3, climb3_o4, climb3_o5, climb3_o6, climb3_o7]
theorem climb3 (t nb : Nat) (mv kv nv : Value) (w1 : World) (S : World → Prop) (a : Act) (w : World) (Q : Exit → Act → World → Prop) (hsz : a.tmps.size = 35)
    (h0 : a.tmps.getD 0 undef = .pointer (some ⟨t, 0, none⟩))
    (h7 : a.tmps.getD 7 undef = .pointer (some ⟨nb, 0, none⟩))
    (hS0 : S w.drew)
    (H3 : ∀ wx, S wx → (Instr.loadAt 79 (.pointer (some ⟨t, 0, none⟩))).run Try.prog wx = .ok (mv) wx)
    (H5 : ∀ wx, S wx → (Instr.loadAt 37 (.pointer (some ⟨nb, 0, none⟩))).run Try.prog wx = .ok (kv) wx)
    (H6 : ∀ wx, S wx → (Instr.lookup 79 (mv) (kv) false).run Try.prog wx = .ok (nv) wx)
    (H7 : (Instr.storeAt 94 (.pointer (some ⟨nb, 0, none⟩)) (nv)).run Try.prog (w.drew) = .ok () w1) (S1 : S w1)
    (h : ∀ (a' : Act), a' = (((((((a).put (some 23) (.pointer (some ⟨t, 0, none⟩))).put (some 24) (.pointer (some ⟨t, 0, none⟩))).put (some 25) (.pointer (some ⟨t, 0, none⟩))).put (some 26) (mv)).put (some 27) (.pointer (some ⟨nb, 0, none⟩))).put (some 28) (kv)).put (some 29) (nv) → Q .normal a' w1) :
    (Code.region 3 climb3_ops true).wp Try.prog Q a w := by
  refine wp_region_noPanic ?_
  refine wp_region_held_drew (S := S) (by kernel_rfl) hS0 (fun hHeld => ?_)
  change wpAnyH _ _ _ _ _ _ _ a _
  refine tk 0 climb3_o0 (.pointer (some ⟨t, 0, none⟩)) (by rfl) (fun w1 hw => exec_move rfl (h0)) hHeld (fun a1 e1 => ?_)
  rw [← e1] at h
  have z1 := pz e1 hsz
  clear h0
  replace h7 := pk e1 h7
  have h23 := pq e1 hsz
  clear e1 hsz
  refine tk 1 climb3_o1 (.pointer (some ⟨t, 0, none⟩)) (by rfl) (fun w1 hw => exec_nilCheck rfl (h23)) hHeld (fun a2 e2 => ?_)
  rw [← e2] at h
  have z2 := pz e2 z1
  replace h7 := pk e2 h7
  clear h23
  have h24 := pq e2 z1
  clear e2 z1
  refine tk 2 climb3_o2 (.pointer (some ⟨t, 0, none⟩)) (by rfl) (fun w1 hw => exec_fieldAt rfl (h24) (fa_82_0 _ _)) hHeld (fun a3 e3 => ?_)
  rw [← e3] at h
  have z3 := pz e3 z2
  replace h7 := pk e3 h7
  clear h24
  have h25 := pq e3 z2
  clear e3 z2
  refine tk 3 climb3_o3 (mv) (by rfl) (fun w1 hw => exec_load rfl (h25) (H3 _ hw)) hHeld (fun a4 e4 => ?_)
  rw [← e4] at h
  have z4 := pz e4 z3
  replace h7 := pk e4 h7
  clear h25
  have h26 := pq e4 z3
  clear e4 z3
  refine tk 4 climb3_o4 (.pointer (some ⟨nb, 0, none⟩)) (by rfl) (fun w1 hw => exec_fieldAt rfl (h7) (fa_94_0 _ _)) hHeld (fun a5 e5 => ?_)
  rw [← e5] at h
  have z5 := pz e5 z4
  replace h7 := pk e5 h7
  replace h26 := pk e5 h26
  have h27 := pq e5 z4
  clear e5 z4
  refine tk 5 climb3_o5 (kv) (by rfl) (fun w1 hw => exec_load rfl (h27) (H5 _ hw)) hHeld (fun a6 e6 => ?_)
  rw [← e6] at h
  have z6 := pz e6 z5
  replace h7 := pk e6 h7
  replace h26 := pk e6 h26
  clear h27
  have h28 := pq e6 z5
  clear e6 z5
  refine tk 6 climb3_o6 (nv) (by rfl) (fun w1 hw => exec_lookup rfl (h26) (h28) (H6 _ hw)) hHeld (fun a7 e7 => ?_)
  rw [← e7] at h
  have z7 := pz e7 z6
  replace h7 := pk e7 h7
  clear h26
  clear h28
  have h29 := pq e7 z6
  clear e7 z6
  refine wpAnyH_ready (rs := [7]) (by kernel_rfl) (by simp) ?_
  refine AllReadyH.cons (o := climb3_o7) rfl (fun K hK => ?_) AllReadyH.nil
  have X := exec_store (P := Try.prog) (a := a7) (o := climb3_o7) rfl (h7) (h29) H7
  rw [if_pos (show Region.wanted climb3_o7 (yielded climb3_ops (a7).tmps) = true from rfl), Oper.wp, X]
  show K a7 w1
  clear X
  refine hK.out _ _ S1 (fun hHeld => ?_)
  clear hK K
  clear h7
  clear h29
  exact wpAnyH_done (by kernel_rfl) (NoPanic.normal (h _ rfl)) _
def climb5_o0 : Oper := { dst := some 32, op := Op.move (Operand.tmp 6), type := 3, pos := "tell.go:45", after := #[], guard := none }
def climb5_o1 : Oper := { dst := some 33, op := Op.fieldAddr 94 (Operand.tmp 7) 2, type := 0, pos := "tell.go:45", after := #[{ on := 3, ground := Ground.gcOnly Departure.lateStores }], guard := none }
def climb5_o2 : Oper := { dst := some 34, op := Op.load 4 (Operand.tmp 33), type := 4, pos := "tell.go:45", after := #[{ on := 1, ground := Ground.data }, { on := 3, ground := Ground.gcOnly Departure.lateStores }], guard := none }
def climb5_o3 : Oper := { dst := some 4, op := Op.assign (Operand.tmp 32), type := 3, pos := "tell.go:45", after := #[{ on := 0, ground := Ground.data }, { on := 0, ground := Ground.phase }, { on := 1, ground := Ground.textOnly Departure.lateStores }, { on := 2, ground := Ground.textOnly Departure.lateStores }], guard := none }
def climb5_o4 : Oper := { dst := some 5, op := Op.assign (Operand.tmp 34), type := 4, pos := "tell.go:45", after := #[{ on := 2, ground := Ground.data }, { on := 3, ground := Ground.chain }, { on := 0, ground := Ground.phase }, { on := 1, ground := Ground.phase }, { on := 2, ground := Ground.phase }, { on := 3, ground := Ground.phase }], guard := none }
def climb5_ops : Array Oper := #[climb5_o0, climb5_o1, climb5_o2, climb5_o3, climb5_o4]
theorem climb5 (nb : Nat) (dv pv : Value) (S : World → Prop) (a : Act) (w : World) (Q : Exit → Act → World → Prop) (hsz : a.tmps.size = 35)
    (h6 : a.tmps.getD 6 undef = dv)
    (h7 : a.tmps.getD 7 undef = .pointer (some ⟨nb, 0, none⟩))
    (hS0 : S w.drew)
    (H2 : ∀ wx, S wx → (Instr.loadAt 4 (.pointer (some ⟨nb, 34, none⟩))).run Try.prog wx = .ok (pv) wx)
    (h : ∀ (a' : Act), a' = (((((a).put (some 32) (dv)).put (some 33) (.pointer (some ⟨nb, 34, none⟩))).put (some 34) (pv)).put (some 4) (dv)).put (some 5) (pv) → Q .normal a' w.drew) :
    (Code.region 5 climb5_ops true).wp Try.prog Q a w := by
  refine wp_region_noPanic ?_
  refine wp_region_held_drew (S := S) (by kernel_rfl) hS0 (fun hHeld => ?_)
  change wpAnyH _ _ _ _ _ _ _ a _
  refine tk 0 climb5_o0 (dv) (by rfl) (fun w1 hw => exec_move rfl (h6)) hHeld (fun a1 e1 => ?_)
  rw [← e1] at h
  have z1 := pz e1 hsz
  clear h6
  replace h7 := pk e1 h7
  have h32 := pq e1 hsz
  clear e1 hsz
  refine tk 1 climb5_o1 (.pointer (some ⟨nb, 34, none⟩)) (by rfl) (fun w1 hw => exec_fieldAt rfl (h7) (fa_94_2 _ _)) hHeld (fun a2 e2 => ?_)
  rw [← e2] at h
  have z2 := pz e2 z1
  clear h7
  replace h32 := pk e2 h32
  have h33 := pq e2 z1
  clear e2 z1
  refine tk 2 climb5_o2 (pv) (by rfl) (fun w1 hw => exec_load rfl (h33) (H2 _ hw)) hHeld (fun a3 e3 => ?_)
  rw [← e3] at h
  have z3 := pz e3 z2
  replace h32 := pk e3 h32
  clear h33
  have h34 := pq e3 z2
  clear e3 z2
  refine tk 3 climb5_o3 (dv) (by rfl) (fun w1 hw => exec_assign rfl (h32)) hHeld (fun a4 e4 => ?_)
  rw [← e4] at h
  have z4 := pz e4 z3
  clear h32
  replace h34 := pk e4 h34
  clear e4 z3
  refine tk 4 climb5_o4 (pv) (by rfl) (fun w1 hw => exec_assign rfl (h34)) hHeld (fun a5 e5 => ?_)
  rw [← e5] at h
  have z5 := pz e5 z4
  clear h34
  clear e5 z4
  exact wpAnyH_done (by kernel_rfl) (NoPanic.normal (h _ rfl)) _
end Go.Proofs.Ytoofljkgdjjllaa
