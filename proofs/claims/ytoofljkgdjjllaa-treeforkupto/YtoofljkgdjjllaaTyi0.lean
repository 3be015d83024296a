import Derived.Test.YtoofljkgdjjllaaRg
import Derived.Test.YtoofljkgdjjllaaTyi
namespace Go.Proofs.Ytoofljkgdjjllaa
open Go.RowKit
set_option linter.unusedVariables false
set_option linter.unusedSimpArgs false

def row5_o0 : Oper := { dst := some 26, op := Op.move (Operand.tmp 5), type := 106, pos := "tell.go:80", after := #[], guard := none }
def row5_o1 : Oper := { dst := some 27, op := Op.load 37 (Operand.tmp 6), type := 37, pos := "tell.go:80", after := #[], guard := none }
def row5_o2 : Oper := { dst := some 28, op := Op.move (Operand.tmp 0), type := 25, pos := "tell.go:80", after := #[], guard := none }
def row5_o3 : Oper := { dst := some 29, op := Op.nilCheck (Operand.tmp 28), type := 0, pos := "tell.go:80", after := #[{ on := 2, ground := Ground.data }], guard := none }
def row5_o4 : Oper := { dst := some 30, op := Op.fieldAddr 82 (Operand.tmp 29) 0, type := 0, pos := "tell.go:80", after := #[{ on := 3, ground := Ground.data }], guard := none }
def row5_o5 : Oper := { dst := some 31, op := Op.load 79 (Operand.tmp 30), type := 79, pos := "tell.go:80", after := #[{ on := 4, ground := Ground.data }], guard := none }
def row5_o6 : Oper := { dst := some 32, op := Op.load 37 (Operand.tmp 6), type := 37, pos := "tell.go:80", after := #[], guard := none }
def row5_o7 : Oper := { dst := some 33, op := Op.lookup 79 (Operand.tmp 31) (Operand.tmp 32) false, type := 94, pos := "tell.go:80", after := #[{ on := 5, ground := Ground.data }, { on := 6, ground := Ground.data }], guard := none }
def row5_o8 : Oper := { dst := some 34, op := Op.field 94 (Operand.tmp 33) 1, type := 9, pos := "tell.go:80", after := #[{ on := 7, ground := Ground.data }], guard := none }
def row5_o9 : Oper := { dst := some 35, op := Op.build 109 #[(0, Operand.tmp 27), (1, Operand.tmp 34)], type := 109, pos := "tell.go:80", after := #[{ on := 1, ground := Ground.data }, { on := 8, ground := Ground.data }], guard := none }
def row5_o10 : Oper := { dst := some 36, op := Op.buildSlice 106 1 #[(0, Operand.tmp 35)], type := 106, pos := "tell.go:80", after := #[{ on := 9, ground := Ground.data }], guard := none }
def row5_o11 : Oper := { dst := some 37, op := Op.call { callee := Callee.builtin Builtin.append, args := #[Operand.tmp 26, Operand.tmp 36], argTypes := #[106, 106] }, type := 106, pos := "tell.go:80", after := #[{ on := 0, ground := Ground.data }, { on := 10, ground := Ground.data }], guard := none }
def row5_o12 : Oper := { dst := some 5, op := Op.assign (Operand.tmp 37), type := 106, pos := "tell.go:80", after := #[{ on := 11, ground := Ground.data }, { on := 11, ground := Ground.chain }, { on := 0, ground := Ground.phase }, { on := 1, ground := Ground.phase }, { on := 2, ground := Ground.phase }, { on := 3, ground := Ground.phase }, { on := 4, ground := Ground.phase }, { on := 5, ground := Ground.phase }, { on := 6, ground := Ground.phase }, { on := 7, ground := Ground.phase }, { on := 8, ground := Ground.phase }, { on := 9, ground := Ground.phase }, { on := 10, ground := Ground.phase }, { on := 11, ground := Ground.phase }], guard := none }
def row5_ops : Array Oper := #[row5_o0, row5_o1, row5_o2, row5_o3, row5_o4, row5_o5, row5_o6, row5_o7, row5_o8, row5_o9, row5_o10, row5_o11, row5_o12]
theorem row5 (t bi : Nat) (uv kv mv nv sv dv lv rv : Value) (w1 w2 : World) (S : World → Prop) (a : Act) (w : World) (Q : Exit → Act → World → Prop) (hsz : a.tmps.size = 41)
    (h5 : a.tmps.getD 5 undef = uv)
    (h6 : a.tmps.getD 6 undef = .pointer (some ⟨bi, 0, none⟩))
    (h0 : a.tmps.getD 0 undef = .pointer (some ⟨t, 0, none⟩))
    (hS0 : S w.drew)
    (H1 : ∀ wx, S wx → (Instr.loadAt 37 (.pointer (some ⟨bi, 0, none⟩))).run Try.prog wx = .ok (kv) wx)
    (H5 : ∀ wx, S wx → (Instr.loadAt 79 (.pointer (some ⟨t, 0, none⟩))).run Try.prog wx = .ok (mv) wx)
    (H6 : ∀ wx, S wx → (Instr.loadAt 37 (.pointer (some ⟨bi, 0, none⟩))).run Try.prog wx = .ok (kv) wx)
    (H7 : ∀ wx, S wx → (Instr.lookup 79 (mv) (kv) false).run Try.prog wx = .ok (nv) wx)
    (H8 : ∀ wx, (Instr.field 94 (nv) 1).run Try.prog wx = .ok (sv) wx)
    (H9 : ∀ wx, (Instr.build 109 #[(0, kv), (1, sv)]).run Try.prog wx = .ok (dv) wx)
    (H10 : (Instr.buildSlice 106 1 #[(0, dv)]).run Try.prog (w.drew) = .ok (lv) w1) (S1 : S w1)
    (H11 : (Builtin.append_ #[106, 106] 106 #[uv, lv]).run Try.prog (w1) = .ok (rv) w2) (S2 : S w2)
    (h : ∀ (a' : Act), a' = (((((((((((((a).put (some 26) (uv)).put (some 27) (kv)).put (some 28) (.pointer (some ⟨t, 0, none⟩))).put (some 29) (.pointer (some ⟨t, 0, none⟩))).put (some 30) (.pointer (some ⟨t, 0, none⟩))).put (some 31) (mv)).put (some 32) (kv)).put (some 33) (nv)).put (some 34) (sv)).put (some 35) (dv)).put (some 36) (lv)).put (some 37) (rv)).put (some 5) (rv) → Q .normal a' w2) :
    (Code.region 5 row5_ops true).wp Try.prog Q a w := by
  refine wp_region_noPanic ?_
  refine wp_region_held_drew (S := S) (by kernel_rfl) hS0 (fun hHeld => ?_)
  refine tk 0 row5_o0 (uv) (by rfl) (fun w1 hw => exec_move rfl (h5)) hHeld (fun a1 e1 => ?_)
  rw [← e1] at h
  have z1 := pz e1 hsz
  clear h5
  replace h6 := pk e1 h6
  replace h0 := pk e1 h0
  have h26 := pq e1 hsz
  clear e1 hsz
  refine tk 1 row5_o1 (kv) (by rfl) (fun w1 hw => exec_load rfl (h6) (H1 _ hw)) hHeld (fun a2 e2 => ?_)
  rw [← e2] at h
  have z2 := pz e2 z1
  replace h6 := pk e2 h6
  replace h0 := pk e2 h0
  replace h26 := pk e2 h26
  have h27 := pq e2 z1
  clear e2 z1
  refine tk 2 row5_o2 (.pointer (some ⟨t, 0, none⟩)) (by rfl) (fun w1 hw => exec_move rfl (h0)) hHeld (fun a3 e3 => ?_)
  rw [← e3] at h
  have z3 := pz e3 z2
  replace h6 := pk e3 h6
  clear h0
  replace h26 := pk e3 h26
  replace h27 := pk e3 h27
  have h28 := pq e3 z2
  clear e3 z2
  refine tk 3 row5_o3 (.pointer (some ⟨t, 0, none⟩)) (by rfl) (fun w1 hw => exec_nilCheck rfl (h28)) hHeld (fun a4 e4 => ?_)
  rw [← e4] at h
  have z4 := pz e4 z3
  replace h6 := pk e4 h6
  replace h26 := pk e4 h26
  replace h27 := pk e4 h27
  clear h28
  have h29 := pq e4 z3
  clear e4 z3
  refine tk 4 row5_o4 (.pointer (some ⟨t, 0, none⟩)) (by rfl) (fun w1 hw => exec_fieldAt rfl (h29) (fa_82_0 _ _)) hHeld (fun a5 e5 => ?_)
  rw [← e5] at h
  have z5 := pz e5 z4
  replace h6 := pk e5 h6
  replace h26 := pk e5 h26
  replace h27 := pk e5 h27
  clear h29
  have h30 := pq e5 z4
  clear e5 z4
  refine tk 5 row5_o5 (mv) (by rfl) (fun w1 hw => exec_load rfl (h30) (H5 _ hw)) hHeld (fun a6 e6 => ?_)
  rw [← e6] at h
  have z6 := pz e6 z5
  replace h6 := pk e6 h6
  replace h26 := pk e6 h26
  replace h27 := pk e6 h27
  clear h30
  have h31 := pq e6 z5
  clear e6 z5
  refine tk 6 row5_o6 (kv) (by rfl) (fun w1 hw => exec_load rfl (h6) (H6 _ hw)) hHeld (fun a7 e7 => ?_)
  rw [← e7] at h
  have z7 := pz e7 z6
  clear h6
  replace h26 := pk e7 h26
  replace h27 := pk e7 h27
  replace h31 := pk e7 h31
  have h32 := pq e7 z6
  clear e7 z6
  refine tk 7 row5_o7 (nv) (by rfl) (fun w1 hw => exec_lookup rfl (h31) (h32) (H7 _ hw)) hHeld (fun a8 e8 => ?_)
  rw [← e8] at h
  have z8 := pz e8 z7
  replace h26 := pk e8 h26
  replace h27 := pk e8 h27
  clear h31
  clear h32
  have h33 := pq e8 z7
  clear e8 z7
  refine tk 8 row5_o8 (sv) (by rfl) (fun w1 hw => exec_field rfl (h33) (H8 _)) hHeld (fun a9 e9 => ?_)
  rw [← e9] at h
  have z9 := pz e9 z8
  replace h26 := pk e9 h26
  replace h27 := pk e9 h27
  clear h33
  have h34 := pq e9 z8
  clear e9 z8
  refine tk 9 row5_o9 (dv) (by rfl) (fun w1 hw => exec_build rfl (by rw [List.map_toArray]; show [(0, a9.tmps.getD 27 undef), (1, a9.tmps.getD 34 undef)].toArray = _; rw [h27, h34]) (H9 _)) hHeld (fun a10 e10 => ?_)
  rw [← e10] at h
  have z10 := pz e10 z9
  replace h26 := pk e10 h26
  clear h27
  clear h34
  have h35 := pq e10 z9
  clear e10 z9
  refine wpAnyH_ready (rs := [10]) (by kernel_rfl) (by simp) ?_
  refine AllReadyH.cons (o := row5_o10) rfl (fun K hK => ?_) AllReadyH.nil
  have X := exec_buildSlice (P := Try.prog) (a := a10) (o := row5_o10) rfl (h35) H10
  rw [if_pos (show Region.wanted row5_o10 (yielded row5_ops (a10).tmps) = true from rfl), Oper.wp, X]
  show K _ _
  clear X
  refine hK.out _ _ S1 (fun hHeld => ?_)
  clear hK K
  change wpAnyH _ _ _ _ _ _ _ (a10.put (some 36) (lv)) _
  obtain ⟨a11, e11⟩ : ∃ act, act = a10.put (some 36) (lv) := ⟨_, rfl⟩
  rw [← e11] at h ⊢
  have z11 := pz e11 z10
  replace h26 := pk e11 h26
  clear h35
  have h36 := pq e11 z10
  clear e11 z10
  refine wpAnyH_ready (rs := [11]) (by kernel_rfl) (by simp) ?_
  refine AllReadyH.cons (o := row5_o11) rfl (fun K hK => ?_) AllReadyH.nil
  have X := exec_append (P := Try.prog) (a := a11) (o := row5_o11) rfl (h26) (h36) H11
  rw [if_pos (show Region.wanted row5_o11 (yielded row5_ops (a11).tmps) = true from rfl), Oper.wp, X]
  show K _ _
  clear X
  refine hK.out _ _ S2 (fun hHeld => ?_)
  clear hK K
  change wpAnyH _ _ _ _ _ _ _ (a11.put (some 37) (rv)) _
  obtain ⟨a12, e12⟩ : ∃ act, act = a11.put (some 37) (rv) := ⟨_, rfl⟩
  rw [← e12] at h ⊢
  have z12 := pz e12 z11
  clear h26
  clear h36
  have h37 := pq e12 z11
  clear e12 z11
  refine tk 12 row5_o12 (rv) (by rfl) (fun w1 hw => exec_assign rfl (h37)) hHeld (fun a13 e13 => ?_)
  rw [← e13] at h
  have z13 := pz e13 z12
  clear h37
  clear e13 z12
  exact wpAnyH_done (by kernel_rfl) (NoPanic.normal (h _ rfl)) _
end Go.Proofs.Ytoofljkgdjjllaa
