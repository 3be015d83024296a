import Derived.Test.YtoofljkgdjjllabRg
import Derived.Test.YtoofljkgdjjllabP0
import Derived.Great.BuildSlice
import Derived.Deep.DeepAppendWide
import Derived.Maps.AppendAt
import Derived.OwnWalk
import Derived.Deep.RegionLaw
import Derived.Test.YtoofljkgdjjllabTzi
namespace Go.Proofs.Ytoofljkgdjjllab
open Go.RowKit
set_option linter.unusedVariables false
set_option linter.unusedSimpArgs false

theorem fg_49_4 (b o : Nat) (w : World) : (Instr.fieldAt 49 (.pointer (some ⟨b, o, none⟩)) 4).run Try.prog w = .ok (.pointer (some ⟨b, o + 4, none⟩)) w := by go_simp
theorem fg_49_5 (b o : Nat) (w : World) : (Instr.fieldAt 49 (.pointer (some ⟨b, o, none⟩)) 5).run Try.prog w = .ok (.pointer (some ⟨b, o + 5, none⟩)) w := by go_simp
def grown8_o0 : Oper := { dst := some 22, op := Op.move (Operand.tmp 0), type := 24, pos := "outright.go:19", after := #[], guard := none }
def grown8_o1 : Oper := { dst := some 23, op := Op.move (Operand.tmp 1), type := 22, pos := "outright.go:19", after := #[], guard := none }
def grown8_o2 : Oper := { dst := some 24, op := Op.move (Operand.tmp 6), type := 3, pos := "outright.go:19", after := #[], guard := none }
def grown8_o3 : Oper := { dst := some 25, op := Op.indexAddr 22 (Operand.tmp 23) (Operand.tmp 24), type := 0, pos := "outright.go:19", after := #[{ on := 1, ground := Ground.data }, { on := 2, ground := Ground.data }], guard := none }
def grown8_o4 : Oper := { dst := some 26, op := Op.fieldAddr 57 (Operand.tmp 25) 1, type := 0, pos := "outright.go:19", after := #[{ on := 3, ground := Ground.data }], guard := none }
def grown8_o5 : Oper := { dst := some 27, op := Op.load 35 (Operand.tmp 26), type := 35, pos := "outright.go:19", after := #[{ on := 4, ground := Ground.data }], guard := none }
def grown8_o6 : Oper := { dst := some 28, op := Op.move (Operand.tmp 1), type := 22, pos := "outright.go:19", after := #[], guard := none }
def grown8_o7 : Oper := { dst := some 29, op := Op.move (Operand.tmp 6), type := 3, pos := "outright.go:19", after := #[], guard := none }
def grown8_o8 : Oper := { dst := some 30, op := Op.indexAddr 22 (Operand.tmp 28) (Operand.tmp 29), type := 0, pos := "outright.go:19", after := #[{ on := 6, ground := Ground.data }, { on := 7, ground := Ground.data }], guard := none }
def grown8_o9 : Oper := { dst := some 31, op := Op.fieldAddr 57 (Operand.tmp 30) 2, type := 0, pos := "outright.go:19", after := #[{ on := 8, ground := Ground.data }], guard := none }
def grown8_o10 : Oper := { dst := some 32, op := Op.load 35 (Operand.tmp 31), type := 35, pos := "outright.go:19", after := #[{ on := 9, ground := Ground.data }], guard := none }
def grown8_o11 : Oper := { dst := some 33, op := Op.move (Operand.tmp 1), type := 22, pos := "outright.go:19", after := #[], guard := none }
def grown8_o12 : Oper := { dst := some 34, op := Op.move (Operand.tmp 6), type := 3, pos := "outright.go:19", after := #[], guard := none }
def grown8_o13 : Oper := { dst := some 35, op := Op.indexAddr 22 (Operand.tmp 33) (Operand.tmp 34), type := 0, pos := "outright.go:19", after := #[{ on := 11, ground := Ground.data }, { on := 12, ground := Ground.data }], guard := none }
def grown8_o14 : Oper := { dst := some 36, op := Op.fieldAddr 57 (Operand.tmp 35) 3, type := 0, pos := "outright.go:19", after := #[{ on := 13, ground := Ground.data }], guard := none }
def grown8_o15 : Oper := { dst := some 37, op := Op.load 9 (Operand.tmp 36), type := 9, pos := "outright.go:19", after := #[{ on := 14, ground := Ground.data }], guard := none }
def grown8_o16 : Oper := { dst := some 38, op := Op.call { callee := Callee.value (Operand.func 24), args := #[Operand.tmp 22, Operand.tmp 27, Operand.tmp 32, Operand.tmp 37], argTypes := #[24, 35, 35, 9] }, type := 58, pos := "outright.go:19", after := #[{ on := 0, ground := Ground.data }, { on := 5, ground := Ground.data }, { on := 10, ground := Ground.data }, { on := 15, ground := Ground.data }], guard := none }
def grown8_o17 : Oper := { dst := some 21, op := Op.move (Operand.tmp 38), type := 58, pos := "outright.go:19", after := #[{ on := 16, ground := Ground.data }], guard := none }
def grown8_o18 : Oper := { dst := some 39, op := Op.extract (Operand.tmp 21) 0, type := 53, pos := "outright.go:19", after := #[{ on := 17, ground := Ground.data }], guard := none }
def grown8_o19 : Oper := { dst := some 40, op := Op.extract (Operand.tmp 21) 1, type := 51, pos := "outright.go:19", after := #[{ on := 17, ground := Ground.data }, { on := 20, ground := Ground.gcOnly Departure.lateStores }], guard := none }
def grown8_o20 : Oper := { dst := some 7, op := Op.assign (Operand.tmp 39), type := 53, pos := "outright.go:19", after := #[{ on := 18, ground := Ground.data }, { on := 16, ground := Ground.chain }, { on := 0, ground := Ground.phase }, { on := 1, ground := Ground.phase }, { on := 2, ground := Ground.phase }, { on := 3, ground := Ground.phase }, { on := 4, ground := Ground.phase }, { on := 5, ground := Ground.phase }, { on := 6, ground := Ground.phase }, { on := 7, ground := Ground.phase }, { on := 8, ground := Ground.phase }, { on := 9, ground := Ground.phase }, { on := 10, ground := Ground.phase }, { on := 11, ground := Ground.phase }, { on := 12, ground := Ground.phase }, { on := 13, ground := Ground.phase }, { on := 14, ground := Ground.phase }, { on := 15, ground := Ground.phase }, { on := 16, ground := Ground.phase }, { on := 17, ground := Ground.phase }, { on := 18, ground := Ground.phase }, { on := 19, ground := Ground.textOnly Departure.lateStores }], guard := none }
def grown8_ops : Array Oper := #[grown8_o0, grown8_o1, grown8_o2, grown8_o3, grown8_o4, grown8_o5, grown8_o6, grown8_o7, grown8_o8, grown8_o9, grown8_o10, grown8_o11, grown8_o12, grown8_o13, grown8_o14, grown8_o15, grown8_o16, grown8_o17, grown8_o18, grown8_o19, grown8_o20]
set_option maxRecDepth 100000 in
set_option maxHeartbeats 4000000 in
theorem grown8 (S : World → Prop) (Po : Value → Value → World → Prop) (b p : Nat) (tv lv iv kv uv sv : Value) (a : Act) (w : World) (Q : Exit → Act → World → Prop) (hsz : a.tmps.size = 82)
    (t0 : a.tmps.getD 0 undef = tv)
    (t1 : a.tmps.getD 1 undef = lv)
    (t6 : a.tmps.getD 6 undef = iv)
    (h0 : S w.drew)
    (C : Calls Try.prog 24 #[tv, kv, uv, sv] w.drew fun e w' => ∃ t v, e = .returned (.tuple #[t, v]) ∧ S w' ∧ Po t v w')
    (G1 : ∀ W, (Instr.indexAt 22 (lv) (iv)).run Try.prog W = .ok (.pointer (some ⟨b, p, none⟩)) W)
    (G2 : ∀ W, S W → (Instr.loadAt 35 (.pointer (some ⟨b, p + 1, none⟩))).run Try.prog W = .ok (kv) W)
    (G3 : ∀ W, S W → (Instr.loadAt 35 (.pointer (some ⟨b, p + 34, none⟩))).run Try.prog W = .ok (uv) W)
    (G4 : ∀ W, S W → (Instr.loadAt 9 (.pointer (some ⟨b, p + 67, none⟩))).run Try.prog W = .ok (sv) W)
    (h : ∀ (t v : Value) (a' : Act) (w' : World), Po t v w' → a' = (((((((((((((((((((((a).put (some 22) (tv)).put (some 23) (lv)).put (some 24) (iv)).put (some 25) (.pointer (some ⟨b, p, none⟩))).put (some 26) (.pointer (some ⟨b, p + 1, none⟩))).put (some 27) (kv)).put (some 28) (lv)).put (some 29) (iv)).put (some 30) (.pointer (some ⟨b, p, none⟩))).put (some 31) (.pointer (some ⟨b, p + 34, none⟩))).put (some 32) (uv)).put (some 33) (lv)).put (some 34) (iv)).put (some 35) (.pointer (some ⟨b, p, none⟩))).put (some 36) (.pointer (some ⟨b, p + 67, none⟩))).put (some 37) (sv)).put (some 38) (.tuple #[t, v])).put (some 21) (.tuple #[t, v])).put (some 39) (t)).put (some 40) (v)).put (some 7) (t) → Q .normal a' w') :
    (Code.region 8 grown8_ops true).wp Try.prog Q a w := by
  refine wp_region_noPanic ?_
  refine wp_region_held_drew (S := fun w' => S w') (by kernel_rfl) (h0) (fun hHeld => ?_)
  refine tk 0 grown8_o0 (tv) (by rfl) (fun w1 hw => exec_move rfl t0) hHeld (fun a1 e1 => ?_)
  rw [← e1] at h
  have z1 := pz e1 hsz
  replace t1 := pk e1 t1
  replace t6 := pk e1 t6
  clear t0
  have t22 := pq e1 hsz
  clear e1 hsz
  refine tk 1 grown8_o1 (lv) (by rfl) (fun w1 hw => exec_move rfl t1) hHeld (fun a2 e2 => ?_)
  rw [← e2] at h
  have z2 := pz e2 z1
  replace t1 := pk e2 t1
  replace t6 := pk e2 t6
  replace t22 := pk e2 t22
  have t23 := pq e2 z1
  clear e2 z1
  refine tk 2 grown8_o2 (iv) (by rfl) (fun w1 hw => exec_move rfl t6) hHeld (fun a3 e3 => ?_)
  rw [← e3] at h
  have z3 := pz e3 z2
  replace t1 := pk e3 t1
  replace t6 := pk e3 t6
  replace t22 := pk e3 t22
  replace t23 := pk e3 t23
  have t24 := pq e3 z2
  clear e3 z2
  refine tk 3 grown8_o3 (.pointer (some ⟨b, p, none⟩)) (by rfl) (fun w1 hw => exec_indexAt rfl t23 t24 (G1 _)) hHeld (fun a4 e4 => ?_)
  rw [← e4] at h
  have z4 := pz e4 z3
  replace t1 := pk e4 t1
  replace t6 := pk e4 t6
  replace t22 := pk e4 t22
  clear t23 t24
  have t25 := pq e4 z3
  clear e4 z3
  refine tk 4 grown8_o4 (.pointer (some ⟨b, p + 1, none⟩)) (by rfl) (fun w1 hw => exec_fieldAt rfl t25 (fg_57_1 _ _ _)) hHeld (fun a5 e5 => ?_)
  rw [← e5] at h
  have z5 := pz e5 z4
  replace t1 := pk e5 t1
  replace t6 := pk e5 t6
  replace t22 := pk e5 t22
  clear t25
  have t26 := pq e5 z4
  clear e5 z4
  refine tk 5 grown8_o5 (kv) (by rfl) (fun w1 hw => exec_load rfl t26 (G2 _ hw)) hHeld (fun a6 e6 => ?_)
  rw [← e6] at h
  have z6 := pz e6 z5
  replace t1 := pk e6 t1
  replace t6 := pk e6 t6
  replace t22 := pk e6 t22
  clear t26
  have t27 := pq e6 z5
  clear e6 z5
  refine tk 6 grown8_o6 (lv) (by rfl) (fun w1 hw => exec_move rfl t1) hHeld (fun a7 e7 => ?_)
  rw [← e7] at h
  have z7 := pz e7 z6
  replace t1 := pk e7 t1
  replace t6 := pk e7 t6
  replace t22 := pk e7 t22
  replace t27 := pk e7 t27
  have t28 := pq e7 z6
  clear e7 z6
  refine tk 7 grown8_o7 (iv) (by rfl) (fun w1 hw => exec_move rfl t6) hHeld (fun a8 e8 => ?_)
  rw [← e8] at h
  have z8 := pz e8 z7
  replace t1 := pk e8 t1
  replace t6 := pk e8 t6
  replace t22 := pk e8 t22
  replace t27 := pk e8 t27
  replace t28 := pk e8 t28
  have t29 := pq e8 z7
  clear e8 z7
  refine tk 8 grown8_o8 (.pointer (some ⟨b, p, none⟩)) (by rfl) (fun w1 hw => exec_indexAt rfl t28 t29 (G1 _)) hHeld (fun a9 e9 => ?_)
  rw [← e9] at h
  have z9 := pz e9 z8
  replace t1 := pk e9 t1
  replace t6 := pk e9 t6
  replace t22 := pk e9 t22
  replace t27 := pk e9 t27
  clear t28 t29
  have t30 := pq e9 z8
  clear e9 z8
  refine tk 9 grown8_o9 (.pointer (some ⟨b, p + 34, none⟩)) (by rfl) (fun w1 hw => exec_fieldAt rfl t30 (fg_57_2 _ _ _)) hHeld (fun a10 e10 => ?_)
  rw [← e10] at h
  have z10 := pz e10 z9
  replace t1 := pk e10 t1
  replace t6 := pk e10 t6
  replace t22 := pk e10 t22
  replace t27 := pk e10 t27
  clear t30
  have t31 := pq e10 z9
  clear e10 z9
  refine tk 10 grown8_o10 (uv) (by rfl) (fun w1 hw => exec_load rfl t31 (G3 _ hw)) hHeld (fun a11 e11 => ?_)
  rw [← e11] at h
  have z11 := pz e11 z10
  replace t1 := pk e11 t1
  replace t6 := pk e11 t6
  replace t22 := pk e11 t22
  replace t27 := pk e11 t27
  clear t31
  have t32 := pq e11 z10
  clear e11 z10
  refine tk 11 grown8_o11 (lv) (by rfl) (fun w1 hw => exec_move rfl t1) hHeld (fun a12 e12 => ?_)
  rw [← e12] at h
  have z12 := pz e12 z11
  replace t6 := pk e12 t6
  replace t22 := pk e12 t22
  replace t27 := pk e12 t27
  replace t32 := pk e12 t32
  clear t1
  have t33 := pq e12 z11
  clear e12 z11
  refine tk 12 grown8_o12 (iv) (by rfl) (fun w1 hw => exec_move rfl t6) hHeld (fun a13 e13 => ?_)
  rw [← e13] at h
  have z13 := pz e13 z12
  replace t22 := pk e13 t22
  replace t27 := pk e13 t27
  replace t32 := pk e13 t32
  replace t33 := pk e13 t33
  clear t6
  have t34 := pq e13 z12
  clear e13 z12
  refine tk 13 grown8_o13 (.pointer (some ⟨b, p, none⟩)) (by rfl) (fun w1 hw => exec_indexAt rfl t33 t34 (G1 _)) hHeld (fun a14 e14 => ?_)
  rw [← e14] at h
  have z14 := pz e14 z13
  replace t22 := pk e14 t22
  replace t27 := pk e14 t27
  replace t32 := pk e14 t32
  clear t33 t34
  have t35 := pq e14 z13
  clear e14 z13
  refine tk 14 grown8_o14 (.pointer (some ⟨b, p + 67, none⟩)) (by rfl) (fun w1 hw => exec_fieldAt rfl t35 (fg_57_3 _ _ _)) hHeld (fun a15 e15 => ?_)
  rw [← e15] at h
  have z15 := pz e15 z14
  replace t22 := pk e15 t22
  replace t27 := pk e15 t27
  replace t32 := pk e15 t32
  clear t35
  have t36 := pq e15 z14
  clear e15 z14
  refine tk 15 grown8_o15 (sv) (by rfl) (fun w1 hw => exec_load rfl t36 (G4 _ hw)) hHeld (fun a16 e16 => ?_)
  rw [← e16] at h
  have z16 := pz e16 z15
  replace t22 := pk e16 t22
  replace t27 := pk e16 t27
  replace t32 := pk e16 t32
  clear t36
  have t37 := pq e16 z15
  clear e16 z15
  refine wpAnyH_ready (rs := [16]) (by kernel_rfl) (by simp) ?_
  refine AllReadyH.cons (o := grown8_o16) rfl (fun K hK => ?_) AllReadyH.nil
  rw [if_pos (by rfl)]
  unfold grown8_o16 at hK ⊢
  go_simp
  refine (C).mono ?_
  rintro e x17 ⟨t, v, rfl, hs, hq⟩
  try go_wp2_with fail
  replace h := h t v
  refine hK.out _ _ (hs) (fun hHeld => ?_)
  clear hK K
  change wpAnyH _ _ _ _ _ _ _ (a16.put (some 38) (.tuple #[t, v])) _
  obtain ⟨a17, e17⟩ : ∃ act, act = a16.put (some 38) (.tuple #[t, v]) := ⟨_, rfl⟩
  rw [← e17] at h ⊢
  have z17 := pz e17 z16
  clear t22 t27 t32 t37
  have t38 := pq e17 z16
  clear e17 z16
  refine tk 17 grown8_o17 (.tuple #[t, v]) (by rfl) (fun w1 hw => exec_move rfl t38) hHeld (fun a18 e18 => ?_)
  rw [← e18] at h
  have z18 := pz e18 z17
  clear t38
  have t21 := pq e18 z17
  clear e18 z17
  refine tk 18 grown8_o18 (t) (by rfl) (fun w1 hw => exec_extract rfl t21 rfl) hHeld (fun a19 e19 => ?_)
  rw [← e19] at h
  have z19 := pz e19 z18
  replace t21 := pk e19 t21
  have t39 := pq e19 z18
  clear e19 z18
  refine tk 19 grown8_o19 (v) (by rfl) (fun w1 hw => exec_extract rfl t21 rfl) hHeld (fun a20 e20 => ?_)
  rw [← e20] at h
  have z20 := pz e20 z19
  replace t39 := pk e20 t39
  clear t21
  clear e20 z19
  refine tk 20 grown8_o20 (t) (by rfl) (fun w1 hw => exec_assign rfl t39) hHeld (fun a21 e21 => ?_)
  rw [← e21] at h
  have z21 := pz e21 z20
  clear t39
  clear e21 z20
  exact wpAnyH_done (by kernel_rfl) (NoPanic.normal (h _ _ (hq) rfl)) _
def grown10_o0 : Oper := { dst := some 44, op := Op.move (Operand.tmp 0), type := 24, pos := "outright.go:21", after := #[], guard := none }
def grown10_o1 : Oper := { dst := some 45, op := Op.move (Operand.tmp 1), type := 22, pos := "outright.go:21", after := #[], guard := none }
def grown10_o2 : Oper := { dst := some 46, op := Op.move (Operand.tmp 6), type := 3, pos := "outright.go:21", after := #[], guard := none }
def grown10_o3 : Oper := { dst := some 47, op := Op.indexAddr 22 (Operand.tmp 45) (Operand.tmp 46), type := 0, pos := "outright.go:21", after := #[{ on := 1, ground := Ground.data }, { on := 2, ground := Ground.data }], guard := none }
def grown10_o4 : Oper := { dst := some 48, op := Op.fieldAddr 57 (Operand.tmp 47) 1, type := 0, pos := "outright.go:21", after := #[{ on := 3, ground := Ground.data }], guard := none }
def grown10_o5 : Oper := { dst := some 49, op := Op.load 35 (Operand.tmp 48), type := 35, pos := "outright.go:21", after := #[{ on := 4, ground := Ground.data }], guard := none }
def grown10_o6 : Oper := { dst := some 50, op := Op.move (Operand.tmp 1), type := 22, pos := "outright.go:21", after := #[], guard := none }
def grown10_o7 : Oper := { dst := some 51, op := Op.move (Operand.tmp 6), type := 3, pos := "outright.go:21", after := #[], guard := none }
def grown10_o8 : Oper := { dst := some 52, op := Op.indexAddr 22 (Operand.tmp 50) (Operand.tmp 51), type := 0, pos := "outright.go:21", after := #[{ on := 6, ground := Ground.data }, { on := 7, ground := Ground.data }], guard := none }
def grown10_o9 : Oper := { dst := some 53, op := Op.fieldAddr 57 (Operand.tmp 52) 2, type := 0, pos := "outright.go:21", after := #[{ on := 8, ground := Ground.data }], guard := none }
def grown10_o10 : Oper := { dst := some 54, op := Op.load 35 (Operand.tmp 53), type := 35, pos := "outright.go:21", after := #[{ on := 9, ground := Ground.data }], guard := none }
def grown10_o11 : Oper := { dst := some 55, op := Op.move (Operand.tmp 1), type := 22, pos := "outright.go:21", after := #[], guard := none }
def grown10_o12 : Oper := { dst := some 56, op := Op.move (Operand.tmp 6), type := 3, pos := "outright.go:21", after := #[], guard := none }
def grown10_o13 : Oper := { dst := some 57, op := Op.indexAddr 22 (Operand.tmp 55) (Operand.tmp 56), type := 0, pos := "outright.go:21", after := #[{ on := 11, ground := Ground.data }, { on := 12, ground := Ground.data }], guard := none }
def grown10_o14 : Oper := { dst := some 58, op := Op.fieldAddr 57 (Operand.tmp 57) 3, type := 0, pos := "outright.go:21", after := #[{ on := 13, ground := Ground.data }], guard := none }
def grown10_o15 : Oper := { dst := some 59, op := Op.load 9 (Operand.tmp 58), type := 9, pos := "outright.go:21", after := #[{ on := 14, ground := Ground.data }], guard := none }
def grown10_o16 : Oper := { dst := some 60, op := Op.call { callee := Callee.value (Operand.func 25), args := #[Operand.tmp 44, Operand.tmp 49, Operand.tmp 54, Operand.tmp 59], argTypes := #[24, 35, 35, 9] }, type := 58, pos := "outright.go:21", after := #[{ on := 0, ground := Ground.data }, { on := 5, ground := Ground.data }, { on := 10, ground := Ground.data }, { on := 15, ground := Ground.data }], guard := none }
def grown10_o17 : Oper := { dst := some 43, op := Op.move (Operand.tmp 60), type := 58, pos := "outright.go:21", after := #[{ on := 16, ground := Ground.data }], guard := none }
def grown10_o18 : Oper := { dst := some 61, op := Op.extract (Operand.tmp 43) 0, type := 53, pos := "outright.go:21", after := #[{ on := 17, ground := Ground.data }], guard := none }
def grown10_o19 : Oper := { dst := some 62, op := Op.extract (Operand.tmp 43) 1, type := 51, pos := "outright.go:21", after := #[{ on := 17, ground := Ground.data }, { on := 20, ground := Ground.gcOnly Departure.lateStores }], guard := none }
def grown10_o20 : Oper := { dst := some 7, op := Op.assign (Operand.tmp 61), type := 53, pos := "outright.go:21", after := #[{ on := 18, ground := Ground.data }, { on := 16, ground := Ground.chain }, { on := 0, ground := Ground.phase }, { on := 1, ground := Ground.phase }, { on := 2, ground := Ground.phase }, { on := 3, ground := Ground.phase }, { on := 4, ground := Ground.phase }, { on := 5, ground := Ground.phase }, { on := 6, ground := Ground.phase }, { on := 7, ground := Ground.phase }, { on := 8, ground := Ground.phase }, { on := 9, ground := Ground.phase }, { on := 10, ground := Ground.phase }, { on := 11, ground := Ground.phase }, { on := 12, ground := Ground.phase }, { on := 13, ground := Ground.phase }, { on := 14, ground := Ground.phase }, { on := 15, ground := Ground.phase }, { on := 16, ground := Ground.phase }, { on := 17, ground := Ground.phase }, { on := 18, ground := Ground.phase }, { on := 19, ground := Ground.textOnly Departure.lateStores }], guard := none }
def grown10_ops : Array Oper := #[grown10_o0, grown10_o1, grown10_o2, grown10_o3, grown10_o4, grown10_o5, grown10_o6, grown10_o7, grown10_o8, grown10_o9, grown10_o10, grown10_o11, grown10_o12, grown10_o13, grown10_o14, grown10_o15, grown10_o16, grown10_o17, grown10_o18, grown10_o19, grown10_o20]
set_option maxRecDepth 100000 in
set_option maxHeartbeats 4000000 in
theorem grown10 (S : World → Prop) (Po : Value → Value → World → Prop) (b p : Nat) (tv lv iv kv uv sv : Value) (a : Act) (w : World) (Q : Exit → Act → World → Prop) (hsz : a.tmps.size = 82)
    (t0 : a.tmps.getD 0 undef = tv)
    (t1 : a.tmps.getD 1 undef = lv)
    (t6 : a.tmps.getD 6 undef = iv)
    (h0 : S w.drew)
    (C : Calls Try.prog 25 #[tv, kv, uv, sv] w.drew fun e w' => ∃ t v, e = .returned (.tuple #[t, v]) ∧ S w' ∧ Po t v w')
    (G1 : ∀ W, (Instr.indexAt 22 (lv) (iv)).run Try.prog W = .ok (.pointer (some ⟨b, p, none⟩)) W)
    (G2 : ∀ W, S W → (Instr.loadAt 35 (.pointer (some ⟨b, p + 1, none⟩))).run Try.prog W = .ok (kv) W)
    (G3 : ∀ W, S W → (Instr.loadAt 35 (.pointer (some ⟨b, p + 34, none⟩))).run Try.prog W = .ok (uv) W)
    (G4 : ∀ W, S W → (Instr.loadAt 9 (.pointer (some ⟨b, p + 67, none⟩))).run Try.prog W = .ok (sv) W)
    (h : ∀ (t v : Value) (a' : Act) (w' : World), Po t v w' → a' = (((((((((((((((((((((a).put (some 44) (tv)).put (some 45) (lv)).put (some 46) (iv)).put (some 47) (.pointer (some ⟨b, p, none⟩))).put (some 48) (.pointer (some ⟨b, p + 1, none⟩))).put (some 49) (kv)).put (some 50) (lv)).put (some 51) (iv)).put (some 52) (.pointer (some ⟨b, p, none⟩))).put (some 53) (.pointer (some ⟨b, p + 34, none⟩))).put (some 54) (uv)).put (some 55) (lv)).put (some 56) (iv)).put (some 57) (.pointer (some ⟨b, p, none⟩))).put (some 58) (.pointer (some ⟨b, p + 67, none⟩))).put (some 59) (sv)).put (some 60) (.tuple #[t, v])).put (some 43) (.tuple #[t, v])).put (some 61) (t)).put (some 62) (v)).put (some 7) (t) → Q .normal a' w') :
    (Code.region 10 grown10_ops true).wp Try.prog Q a w := by
  refine wp_region_noPanic ?_
  refine wp_region_held_drew (S := fun w' => S w') (by kernel_rfl) (h0) (fun hHeld => ?_)
  refine tk 0 grown10_o0 (tv) (by rfl) (fun w1 hw => exec_move rfl t0) hHeld (fun a1 e1 => ?_)
  rw [← e1] at h
  have z1 := pz e1 hsz
  replace t1 := pk e1 t1
  replace t6 := pk e1 t6
  clear t0
  have t44 := pq e1 hsz
  clear e1 hsz
  refine tk 1 grown10_o1 (lv) (by rfl) (fun w1 hw => exec_move rfl t1) hHeld (fun a2 e2 => ?_)
  rw [← e2] at h
  have z2 := pz e2 z1
  replace t1 := pk e2 t1
  replace t6 := pk e2 t6
  replace t44 := pk e2 t44
  have t45 := pq e2 z1
  clear e2 z1
  refine tk 2 grown10_o2 (iv) (by rfl) (fun w1 hw => exec_move rfl t6) hHeld (fun a3 e3 => ?_)
  rw [← e3] at h
  have z3 := pz e3 z2
  replace t1 := pk e3 t1
  replace t6 := pk e3 t6
  replace t44 := pk e3 t44
  replace t45 := pk e3 t45
  have t46 := pq e3 z2
  clear e3 z2
  refine tk 3 grown10_o3 (.pointer (some ⟨b, p, none⟩)) (by rfl) (fun w1 hw => exec_indexAt rfl t45 t46 (G1 _)) hHeld (fun a4 e4 => ?_)
  rw [← e4] at h
  have z4 := pz e4 z3
  replace t1 := pk e4 t1
  replace t6 := pk e4 t6
  replace t44 := pk e4 t44
  clear t45 t46
  have t47 := pq e4 z3
  clear e4 z3
  refine tk 4 grown10_o4 (.pointer (some ⟨b, p + 1, none⟩)) (by rfl) (fun w1 hw => exec_fieldAt rfl t47 (fg_57_1 _ _ _)) hHeld (fun a5 e5 => ?_)
  rw [← e5] at h
  have z5 := pz e5 z4
  replace t1 := pk e5 t1
  replace t6 := pk e5 t6
  replace t44 := pk e5 t44
  clear t47
  have t48 := pq e5 z4
  clear e5 z4
  refine tk 5 grown10_o5 (kv) (by rfl) (fun w1 hw => exec_load rfl t48 (G2 _ hw)) hHeld (fun a6 e6 => ?_)
  rw [← e6] at h
  have z6 := pz e6 z5
  replace t1 := pk e6 t1
  replace t6 := pk e6 t6
  replace t44 := pk e6 t44
  clear t48
  have t49 := pq e6 z5
  clear e6 z5
  refine tk 6 grown10_o6 (lv) (by rfl) (fun w1 hw => exec_move rfl t1) hHeld (fun a7 e7 => ?_)
  rw [← e7] at h
  have z7 := pz e7 z6
  replace t1 := pk e7 t1
  replace t6 := pk e7 t6
  replace t44 := pk e7 t44
  replace t49 := pk e7 t49
  have t50 := pq e7 z6
  clear e7 z6
  refine tk 7 grown10_o7 (iv) (by rfl) (fun w1 hw => exec_move rfl t6) hHeld (fun a8 e8 => ?_)
  rw [← e8] at h
  have z8 := pz e8 z7
  replace t1 := pk e8 t1
  replace t6 := pk e8 t6
  replace t44 := pk e8 t44
  replace t49 := pk e8 t49
  replace t50 := pk e8 t50
  have t51 := pq e8 z7
  clear e8 z7
  refine tk 8 grown10_o8 (.pointer (some ⟨b, p, none⟩)) (by rfl) (fun w1 hw => exec_indexAt rfl t50 t51 (G1 _)) hHeld (fun a9 e9 => ?_)
  rw [← e9] at h
  have z9 := pz e9 z8
  replace t1 := pk e9 t1
  replace t6 := pk e9 t6
  replace t44 := pk e9 t44
  replace t49 := pk e9 t49
  clear t50 t51
  have t52 := pq e9 z8
  clear e9 z8
  refine tk 9 grown10_o9 (.pointer (some ⟨b, p + 34, none⟩)) (by rfl) (fun w1 hw => exec_fieldAt rfl t52 (fg_57_2 _ _ _)) hHeld (fun a10 e10 => ?_)
  rw [← e10] at h
  have z10 := pz e10 z9
  replace t1 := pk e10 t1
  replace t6 := pk e10 t6
  replace t44 := pk e10 t44
  replace t49 := pk e10 t49
  clear t52
  have t53 := pq e10 z9
  clear e10 z9
  refine tk 10 grown10_o10 (uv) (by rfl) (fun w1 hw => exec_load rfl t53 (G3 _ hw)) hHeld (fun a11 e11 => ?_)
  rw [← e11] at h
  have z11 := pz e11 z10
  replace t1 := pk e11 t1
  replace t6 := pk e11 t6
  replace t44 := pk e11 t44
  replace t49 := pk e11 t49
  clear t53
  have t54 := pq e11 z10
  clear e11 z10
  refine tk 11 grown10_o11 (lv) (by rfl) (fun w1 hw => exec_move rfl t1) hHeld (fun a12 e12 => ?_)
  rw [← e12] at h
  have z12 := pz e12 z11
  replace t6 := pk e12 t6
  replace t44 := pk e12 t44
  replace t49 := pk e12 t49
  replace t54 := pk e12 t54
  clear t1
  have t55 := pq e12 z11
  clear e12 z11
  refine tk 12 grown10_o12 (iv) (by rfl) (fun w1 hw => exec_move rfl t6) hHeld (fun a13 e13 => ?_)
  rw [← e13] at h
  have z13 := pz e13 z12
  replace t44 := pk e13 t44
  replace t49 := pk e13 t49
  replace t54 := pk e13 t54
  replace t55 := pk e13 t55
  clear t6
  have t56 := pq e13 z12
  clear e13 z12
  refine tk 13 grown10_o13 (.pointer (some ⟨b, p, none⟩)) (by rfl) (fun w1 hw => exec_indexAt rfl t55 t56 (G1 _)) hHeld (fun a14 e14 => ?_)
  rw [← e14] at h
  have z14 := pz e14 z13
  replace t44 := pk e14 t44
  replace t49 := pk e14 t49
  replace t54 := pk e14 t54
  clear t55 t56
  have t57 := pq e14 z13
  clear e14 z13
  refine tk 14 grown10_o14 (.pointer (some ⟨b, p + 67, none⟩)) (by rfl) (fun w1 hw => exec_fieldAt rfl t57 (fg_57_3 _ _ _)) hHeld (fun a15 e15 => ?_)
  rw [← e15] at h
  have z15 := pz e15 z14
  replace t44 := pk e15 t44
  replace t49 := pk e15 t49
  replace t54 := pk e15 t54
  clear t57
  have t58 := pq e15 z14
  clear e15 z14
  refine tk 15 grown10_o15 (sv) (by rfl) (fun w1 hw => exec_load rfl t58 (G4 _ hw)) hHeld (fun a16 e16 => ?_)
  rw [← e16] at h
  have z16 := pz e16 z15
  replace t44 := pk e16 t44
  replace t49 := pk e16 t49
  replace t54 := pk e16 t54
  clear t58
  have t59 := pq e16 z15
  clear e16 z15
  refine wpAnyH_ready (rs := [16]) (by kernel_rfl) (by simp) ?_
  refine AllReadyH.cons (o := grown10_o16) rfl (fun K hK => ?_) AllReadyH.nil
  rw [if_pos (by rfl)]
  unfold grown10_o16 at hK ⊢
  go_simp
  refine (C).mono ?_
  rintro e x17 ⟨t, v, rfl, hs, hq⟩
  try go_wp2_with fail
  replace h := h t v
  refine hK.out _ _ (hs) (fun hHeld => ?_)
  clear hK K
  change wpAnyH _ _ _ _ _ _ _ (a16.put (some 60) (.tuple #[t, v])) _
  obtain ⟨a17, e17⟩ : ∃ act, act = a16.put (some 60) (.tuple #[t, v]) := ⟨_, rfl⟩
  rw [← e17] at h ⊢
  have z17 := pz e17 z16
  clear t44 t49 t54 t59
  have t60 := pq e17 z16
  clear e17 z16
  refine tk 17 grown10_o17 (.tuple #[t, v]) (by rfl) (fun w1 hw => exec_move rfl t60) hHeld (fun a18 e18 => ?_)
  rw [← e18] at h
  have z18 := pz e18 z17
  clear t60
  have t43 := pq e18 z17
  clear e18 z17
  refine tk 18 grown10_o18 (t) (by rfl) (fun w1 hw => exec_extract rfl t43 rfl) hHeld (fun a19 e19 => ?_)
  rw [← e19] at h
  have z19 := pz e19 z18
  replace t43 := pk e19 t43
  have t61 := pq e19 z18
  clear e19 z18
  refine tk 19 grown10_o19 (v) (by rfl) (fun w1 hw => exec_extract rfl t43 rfl) hHeld (fun a20 e20 => ?_)
  rw [← e20] at h
  have z20 := pz e20 z19
  replace t61 := pk e20 t61
  clear t43
  clear e20 z19
  refine tk 20 grown10_o20 (t) (by rfl) (fun w1 hw => exec_assign rfl t61) hHeld (fun a21 e21 => ?_)
  rw [← e21] at h
  have z21 := pz e21 z20
  clear t61
  clear e21 z20
  exact wpAnyH_done (by kernel_rfl) (NoPanic.normal (h _ _ (hq) rfl)) _
def count6_o0 : Oper := { dst := some 18, op := Op.move (Operand.tmp 3), type := 74, pos := "outright.go:37", after := #[], guard := none }
def count6_o1 : Oper := { dst := some 19, op := Op.move (Operand.tmp 0), type := 22, pos := "outright.go:37", after := #[], guard := none }
def count6_o2 : Oper := { dst := some 20, op := Op.move (Operand.tmp 4), type := 3, pos := "outright.go:37", after := #[], guard := none }
def count6_o3 : Oper := { dst := some 21, op := Op.indexAddr 22 (Operand.tmp 19) (Operand.tmp 20), type := 0, pos := "outright.go:37", after := #[{ on := 1, ground := Ground.data }, { on := 2, ground := Ground.data }], guard := none }
def count6_o4 : Oper := { dst := some 22, op := Op.fieldAddr 57 (Operand.tmp 21) 1, type := 0, pos := "outright.go:37", after := #[{ on := 3, ground := Ground.data }], guard := none }
def count6_o5 : Oper := { dst := some 23, op := Op.load 35 (Operand.tmp 22), type := 35, pos := "outright.go:37", after := #[{ on := 4, ground := Ground.data }], guard := none }
def count6_o6 : Oper := { dst := some 24, op := Op.move (Operand.tmp 0), type := 22, pos := "outright.go:37", after := #[], guard := none }
def count6_o7 : Oper := { dst := some 25, op := Op.move (Operand.tmp 4), type := 3, pos := "outright.go:37", after := #[], guard := none }
def count6_o8 : Oper := { dst := some 26, op := Op.indexAddr 22 (Operand.tmp 24) (Operand.tmp 25), type := 0, pos := "outright.go:37", after := #[{ on := 6, ground := Ground.data }, { on := 7, ground := Ground.data }], guard := none }
def count6_o9 : Oper := { dst := some 27, op := Op.fieldAddr 57 (Operand.tmp 26) 2, type := 0, pos := "outright.go:37", after := #[{ on := 8, ground := Ground.data }], guard := none }
def count6_o10 : Oper := { dst := some 28, op := Op.load 35 (Operand.tmp 27), type := 35, pos := "outright.go:37", after := #[{ on := 9, ground := Ground.data }], guard := none }
def count6_o11 : Oper := { dst := some 29, op := Op.move (Operand.tmp 0), type := 22, pos := "outright.go:37", after := #[], guard := none }
def count6_o12 : Oper := { dst := some 30, op := Op.move (Operand.tmp 4), type := 3, pos := "outright.go:37", after := #[], guard := none }
def count6_o13 : Oper := { dst := some 31, op := Op.indexAddr 22 (Operand.tmp 29) (Operand.tmp 30), type := 0, pos := "outright.go:37", after := #[{ on := 11, ground := Ground.data }, { on := 12, ground := Ground.data }], guard := none }
def count6_o14 : Oper := { dst := some 32, op := Op.fieldAddr 57 (Operand.tmp 31) 3, type := 0, pos := "outright.go:37", after := #[{ on := 13, ground := Ground.data }], guard := none }
def count6_o15 : Oper := { dst := some 33, op := Op.load 9 (Operand.tmp 32), type := 9, pos := "outright.go:37", after := #[{ on := 14, ground := Ground.data }], guard := none }
def count6_o16 : Oper := { dst := some 34, op := Op.call { callee := Callee.value (Operand.func 32), args := #[Operand.tmp 18, Operand.tmp 23, Operand.tmp 28, Operand.tmp 33], argTypes := #[74, 35, 35, 9] }, type := 51, pos := "outright.go:37", after := #[{ on := 0, ground := Ground.data }, { on := 5, ground := Ground.data }, { on := 10, ground := Ground.data }, { on := 15, ground := Ground.data }], guard := none }
def count6_ops : Array Oper := #[count6_o0, count6_o1, count6_o2, count6_o3, count6_o4, count6_o5, count6_o6, count6_o7, count6_o8, count6_o9, count6_o10, count6_o11, count6_o12, count6_o13, count6_o14, count6_o15, count6_o16]
set_option maxRecDepth 100000 in
set_option maxHeartbeats 4000000 in
theorem count6 (S : World → Prop) (Po : World → Prop) (b p : Nat) (dv lv iv kv uv sv : Value) (a : Act) (w : World) (Q : Exit → Act → World → Prop) (hsz : a.tmps.size = 37)
    (t3 : a.tmps.getD 3 undef = dv)
    (t0 : a.tmps.getD 0 undef = lv)
    (t4 : a.tmps.getD 4 undef = iv)
    (h0 : S w.drew)
    (C : Calls Try.prog 32 #[dv, kv, uv, sv] w.drew fun e w' => ∃ v, e = .returned v ∧ S w' ∧ Po w')
    (G1 : ∀ W, (Instr.indexAt 22 (lv) (iv)).run Try.prog W = .ok (.pointer (some ⟨b, p, none⟩)) W)
    (G2 : ∀ W, S W → (Instr.loadAt 35 (.pointer (some ⟨b, p + 1, none⟩))).run Try.prog W = .ok (kv) W)
    (G3 : ∀ W, S W → (Instr.loadAt 35 (.pointer (some ⟨b, p + 34, none⟩))).run Try.prog W = .ok (uv) W)
    (G4 : ∀ W, S W → (Instr.loadAt 9 (.pointer (some ⟨b, p + 67, none⟩))).run Try.prog W = .ok (sv) W)
    (h : ∀ (v : Value) (a' : Act) (w' : World), Po w' → a' = (((((((((((((((((a).put (some 18) (dv)).put (some 19) (lv)).put (some 20) (iv)).put (some 21) (.pointer (some ⟨b, p, none⟩))).put (some 22) (.pointer (some ⟨b, p + 1, none⟩))).put (some 23) (kv)).put (some 24) (lv)).put (some 25) (iv)).put (some 26) (.pointer (some ⟨b, p, none⟩))).put (some 27) (.pointer (some ⟨b, p + 34, none⟩))).put (some 28) (uv)).put (some 29) (lv)).put (some 30) (iv)).put (some 31) (.pointer (some ⟨b, p, none⟩))).put (some 32) (.pointer (some ⟨b, p + 67, none⟩))).put (some 33) (sv)).put (some 34) (v) → Q .normal a' w') :
    (Code.region 6 count6_ops true).wp Try.prog Q a w := by
  refine wp_region_noPanic ?_
  refine wp_region_held_drew (S := fun w' => S w') (by kernel_rfl) (h0) (fun hHeld => ?_)
  refine tk 0 count6_o0 (dv) (by rfl) (fun w1 hw => exec_move rfl t3) hHeld (fun a1 e1 => ?_)
  rw [← e1] at h
  have z1 := pz e1 hsz
  replace t0 := pk e1 t0
  replace t4 := pk e1 t4
  clear t3
  have t18 := pq e1 hsz
  clear e1 hsz
  refine tk 1 count6_o1 (lv) (by rfl) (fun w1 hw => exec_move rfl t0) hHeld (fun a2 e2 => ?_)
  rw [← e2] at h
  have z2 := pz e2 z1
  replace t0 := pk e2 t0
  replace t4 := pk e2 t4
  replace t18 := pk e2 t18
  have t19 := pq e2 z1
  clear e2 z1
  refine tk 2 count6_o2 (iv) (by rfl) (fun w1 hw => exec_move rfl t4) hHeld (fun a3 e3 => ?_)
  rw [← e3] at h
  have z3 := pz e3 z2
  replace t0 := pk e3 t0
  replace t4 := pk e3 t4
  replace t18 := pk e3 t18
  replace t19 := pk e3 t19
  have t20 := pq e3 z2
  clear e3 z2
  refine tk 3 count6_o3 (.pointer (some ⟨b, p, none⟩)) (by rfl) (fun w1 hw => exec_indexAt rfl t19 t20 (G1 _)) hHeld (fun a4 e4 => ?_)
  rw [← e4] at h
  have z4 := pz e4 z3
  replace t0 := pk e4 t0
  replace t4 := pk e4 t4
  replace t18 := pk e4 t18
  clear t19 t20
  have t21 := pq e4 z3
  clear e4 z3
  refine tk 4 count6_o4 (.pointer (some ⟨b, p + 1, none⟩)) (by rfl) (fun w1 hw => exec_fieldAt rfl t21 (fg_57_1 _ _ _)) hHeld (fun a5 e5 => ?_)
  rw [← e5] at h
  have z5 := pz e5 z4
  replace t0 := pk e5 t0
  replace t4 := pk e5 t4
  replace t18 := pk e5 t18
  clear t21
  have t22 := pq e5 z4
  clear e5 z4
  refine tk 5 count6_o5 (kv) (by rfl) (fun w1 hw => exec_load rfl t22 (G2 _ hw)) hHeld (fun a6 e6 => ?_)
  rw [← e6] at h
  have z6 := pz e6 z5
  replace t0 := pk e6 t0
  replace t4 := pk e6 t4
  replace t18 := pk e6 t18
  clear t22
  have t23 := pq e6 z5
  clear e6 z5
  refine tk 6 count6_o6 (lv) (by rfl) (fun w1 hw => exec_move rfl t0) hHeld (fun a7 e7 => ?_)
  rw [← e7] at h
  have z7 := pz e7 z6
  replace t0 := pk e7 t0
  replace t4 := pk e7 t4
  replace t18 := pk e7 t18
  replace t23 := pk e7 t23
  have t24 := pq e7 z6
  clear e7 z6
  refine tk 7 count6_o7 (iv) (by rfl) (fun w1 hw => exec_move rfl t4) hHeld (fun a8 e8 => ?_)
  rw [← e8] at h
  have z8 := pz e8 z7
  replace t0 := pk e8 t0
  replace t4 := pk e8 t4
  replace t18 := pk e8 t18
  replace t23 := pk e8 t23
  replace t24 := pk e8 t24
  have t25 := pq e8 z7
  clear e8 z7
  refine tk 8 count6_o8 (.pointer (some ⟨b, p, none⟩)) (by rfl) (fun w1 hw => exec_indexAt rfl t24 t25 (G1 _)) hHeld (fun a9 e9 => ?_)
  rw [← e9] at h
  have z9 := pz e9 z8
  replace t0 := pk e9 t0
  replace t4 := pk e9 t4
  replace t18 := pk e9 t18
  replace t23 := pk e9 t23
  clear t24 t25
  have t26 := pq e9 z8
  clear e9 z8
  refine tk 9 count6_o9 (.pointer (some ⟨b, p + 34, none⟩)) (by rfl) (fun w1 hw => exec_fieldAt rfl t26 (fg_57_2 _ _ _)) hHeld (fun a10 e10 => ?_)
  rw [← e10] at h
  have z10 := pz e10 z9
  replace t0 := pk e10 t0
  replace t4 := pk e10 t4
  replace t18 := pk e10 t18
  replace t23 := pk e10 t23
  clear t26
  have t27 := pq e10 z9
  clear e10 z9
  refine tk 10 count6_o10 (uv) (by rfl) (fun w1 hw => exec_load rfl t27 (G3 _ hw)) hHeld (fun a11 e11 => ?_)
  rw [← e11] at h
  have z11 := pz e11 z10
  replace t0 := pk e11 t0
  replace t4 := pk e11 t4
  replace t18 := pk e11 t18
  replace t23 := pk e11 t23
  clear t27
  have t28 := pq e11 z10
  clear e11 z10
  refine tk 11 count6_o11 (lv) (by rfl) (fun w1 hw => exec_move rfl t0) hHeld (fun a12 e12 => ?_)
  rw [← e12] at h
  have z12 := pz e12 z11
  replace t4 := pk e12 t4
  replace t18 := pk e12 t18
  replace t23 := pk e12 t23
  replace t28 := pk e12 t28
  clear t0
  have t29 := pq e12 z11
  clear e12 z11
  refine tk 12 count6_o12 (iv) (by rfl) (fun w1 hw => exec_move rfl t4) hHeld (fun a13 e13 => ?_)
  rw [← e13] at h
  have z13 := pz e13 z12
  replace t18 := pk e13 t18
  replace t23 := pk e13 t23
  replace t28 := pk e13 t28
  replace t29 := pk e13 t29
  clear t4
  have t30 := pq e13 z12
  clear e13 z12
  refine tk 13 count6_o13 (.pointer (some ⟨b, p, none⟩)) (by rfl) (fun w1 hw => exec_indexAt rfl t29 t30 (G1 _)) hHeld (fun a14 e14 => ?_)
  rw [← e14] at h
  have z14 := pz e14 z13
  replace t18 := pk e14 t18
  replace t23 := pk e14 t23
  replace t28 := pk e14 t28
  clear t29 t30
  have t31 := pq e14 z13
  clear e14 z13
  refine tk 14 count6_o14 (.pointer (some ⟨b, p + 67, none⟩)) (by rfl) (fun w1 hw => exec_fieldAt rfl t31 (fg_57_3 _ _ _)) hHeld (fun a15 e15 => ?_)
  rw [← e15] at h
  have z15 := pz e15 z14
  replace t18 := pk e15 t18
  replace t23 := pk e15 t23
  replace t28 := pk e15 t28
  clear t31
  have t32 := pq e15 z14
  clear e15 z14
  refine tk 15 count6_o15 (sv) (by rfl) (fun w1 hw => exec_load rfl t32 (G4 _ hw)) hHeld (fun a16 e16 => ?_)
  rw [← e16] at h
  have z16 := pz e16 z15
  replace t18 := pk e16 t18
  replace t23 := pk e16 t23
  replace t28 := pk e16 t28
  clear t32
  have t33 := pq e16 z15
  clear e16 z15
  refine wpAnyH_ready (rs := [16]) (by kernel_rfl) (by simp) ?_
  refine AllReadyH.cons (o := count6_o16) rfl (fun K hK => ?_) AllReadyH.nil
  rw [if_pos (by rfl)]
  unfold count6_o16 at hK ⊢
  go_simp
  refine (C).mono ?_
  rintro e x17 ⟨v, rfl, hs, hq⟩
  try go_wp2_with fail
  replace h := h v
  refine hK.out _ _ (hs) (fun hHeld => ?_)
  clear hK K
  change wpAnyH _ _ _ _ _ _ _ (a16.put (some 34) (v)) _
  obtain ⟨a17, e17⟩ : ∃ act, act = a16.put (some 34) (v) := ⟨_, rfl⟩
  rw [← e17] at h ⊢
  have z17 := pz e17 z16
  clear t18 t23 t28 t33
  clear e17 z16
  exact wpAnyH_done (by kernel_rfl) (NoPanic.normal (h _ _ (hq) rfl)) _
def told9_o0 : Oper := { dst := some 49, op := Op.fieldAddr 49 (Operand.tmp 5) 5, type := 0, pos := "outright.go:178", after := #[], guard := none }
def told9_o1 : Oper := { dst := some 50, op := Op.load 47 (Operand.tmp 49), type := 47, pos := "outright.go:178", after := #[{ on := 0, ground := Ground.data }], guard := none }
def told9_o2 : Oper := { dst := some 51, op := Op.move (Operand.tmp 0), type := 24, pos := "outright.go:178", after := #[], guard := none }
def told9_o3 : Oper := { dst := some 52, op := Op.move (Operand.tmp 1), type := 30, pos := "outright.go:178", after := #[], guard := none }
def told9_o4 : Oper := { dst := some 53, op := Op.move (Operand.tmp 6), type := 3, pos := "outright.go:178", after := #[], guard := none }
def told9_o5 : Oper := { dst := some 54, op := Op.indexAddr 30 (Operand.tmp 52) (Operand.tmp 53), type := 0, pos := "outright.go:178", after := #[{ on := 3, ground := Ground.data }, { on := 4, ground := Ground.data }], guard := none }
def told9_o6 : Oper := { dst := some 55, op := Op.load 35 (Operand.tmp 54), type := 35, pos := "outright.go:178", after := #[{ on := 5, ground := Ground.data }], guard := none }
def told9_o7 : Oper := { dst := some 56, op := Op.call { callee := Callee.value (Operand.func 18), args := #[Operand.tmp 51, Operand.tmp 55], argTypes := #[24, 35] }, type := 3, pos := "outright.go:178", after := #[{ on := 2, ground := Ground.data }, { on := 6, ground := Ground.data }], guard := none }
def told9_o8 : Oper := { dst := some 57, op := Op.buildSlice 47 1 #[(0, Operand.tmp 56)], type := 47, pos := "outright.go:178", after := #[{ on := 7, ground := Ground.data }], guard := none }
def told9_o9 : Oper := { dst := some 58, op := Op.call { callee := Callee.builtin Builtin.append, args := #[Operand.tmp 50, Operand.tmp 57], argTypes := #[47, 47] }, type := 47, pos := "outright.go:178", after := #[{ on := 1, ground := Ground.data }, { on := 8, ground := Ground.data }, { on := 7, ground := Ground.chain }], guard := none }
def told9_o10 : Oper := { dst := some 59, op := Op.fieldAddr 49 (Operand.tmp 5) 5, type := 0, pos := "outright.go:178", after := #[{ on := 0, ground := Ground.phase }, { on := 1, ground := Ground.phase }, { on := 2, ground := Ground.phase }, { on := 3, ground := Ground.phase }, { on := 4, ground := Ground.phase }, { on := 5, ground := Ground.phase }, { on := 6, ground := Ground.phase }, { on := 7, ground := Ground.phase }, { on := 8, ground := Ground.phase }, { on := 9, ground := Ground.phase }], guard := none }
def told9_o11 : Oper := { dst := none, op := Op.store 47 (Operand.tmp 59) (Operand.tmp 58), type := 0, pos := "outright.go:178", after := #[{ on := 10, ground := Ground.data }, { on := 9, ground := Ground.data }, { on := 9, ground := Ground.chain }, { on := 0, ground := Ground.phase }, { on := 1, ground := Ground.phase }, { on := 2, ground := Ground.phase }, { on := 3, ground := Ground.phase }, { on := 4, ground := Ground.phase }, { on := 5, ground := Ground.phase }, { on := 6, ground := Ground.phase }, { on := 7, ground := Ground.phase }, { on := 8, ground := Ground.phase }, { on := 9, ground := Ground.phase }], guard := none }
def told9_ops : Array Oper := #[told9_o0, told9_o1, told9_o2, told9_o3, told9_o4, told9_o5, told9_o6, told9_o7, told9_o8, told9_o9, told9_o10, told9_o11]
set_option maxRecDepth 100000 in
set_option maxHeartbeats 4000000 in
theorem told9 (bx b p : Nat) (tv lv iv kv ov : Value) (S : World → Prop) (Cc Fin : Value → World → Prop) (a : Act) (w : World) (Q : Exit → Act → World → Prop) (hsz : a.tmps.size = 61)
    (t0 : a.tmps.getD 0 undef = tv)
    (t1 : a.tmps.getD 1 undef = lv)
    (t5 : a.tmps.getD 5 undef = .pointer (some ⟨bx, 0, none⟩))
    (t6 : a.tmps.getD 6 undef = iv)
    (GF : ∀ W, (Instr.fieldAt 49 (.pointer (some ⟨bx, 0, none⟩)) 5).run Try.prog W = .ok (.pointer (some ⟨bx, 5, none⟩)) W) (GX : ∀ W, (Instr.indexAt 30 lv iv).run Try.prog W = .ok (.pointer (some ⟨b, p, none⟩)) W) (GK : ∀ W, S W → (Instr.loadAt 35 (.pointer (some ⟨b, p, none⟩))).run Try.prog W = .ok kv W)
    (S0 : S w.drew) (K0 : (Instr.loadAt 47 (.pointer (some ⟨bx, 5, none⟩))).run Try.prog w.drew = .ok ov w.drew) (C0 : Calls Try.prog 18 #[tv, kv] w.drew fun e w' => ∃ dv, e = .returned dv ∧ Cc dv w')
    (HST : ∀ dv X, Cc dv X → ∃ nv w2 qv w3 w4, (Instr.buildSlice 47 1 #[(0, dv)]).run Try.prog X = .ok nv w2 ∧ (Builtin.append_ #[47, 47] 47 #[ov, nv]).run Try.prog w2 = .ok qv w3 ∧ (Instr.storeAt 47 (.pointer (some ⟨bx, 5, none⟩)) qv).run Try.prog w3 = .ok () w4 ∧ S X ∧ S w2 ∧ S w3 ∧ S w4 ∧ (Instr.loadAt 47 (.pointer (some ⟨bx, 5, none⟩))).run Try.prog X = .ok ov X ∧ (Instr.loadAt 47 (.pointer (some ⟨bx, 5, none⟩))).run Try.prog w2 = .ok ov w2 ∧ Fin dv w4)
    (h1 : ∀ (dv nv qv : Value) (a' : Act) (w' : World), Fin dv w' → a' = (((((((((((a).put (some 49) (.pointer (some ⟨bx, 5, none⟩))).put (some 51) (tv)).put (some 52) (lv)).put (some 53) (iv)).put (some 54) (.pointer (some ⟨b, p, none⟩))).put (some 55) (kv)).put (some 50) (ov)).put (some 56) (dv)).put (some 57) (nv)).put (some 58) (qv)).put (some 59) (.pointer (some ⟨bx, 5, none⟩)) → Q .normal a' w')
    (h2 : ∀ (dv nv qv : Value) (a' : Act) (w' : World), Fin dv w' → a' = (((((((((((a).put (some 49) (.pointer (some ⟨bx, 5, none⟩))).put (some 51) (tv)).put (some 52) (lv)).put (some 53) (iv)).put (some 54) (.pointer (some ⟨b, p, none⟩))).put (some 55) (kv)).put (some 56) (dv)).put (some 50) (ov)).put (some 57) (nv)).put (some 58) (qv)).put (some 59) (.pointer (some ⟨bx, 5, none⟩)) → Q .normal a' w')
    (h3 : ∀ (dv nv qv : Value) (a' : Act) (w' : World), Fin dv w' → a' = (((((((((((a).put (some 49) (.pointer (some ⟨bx, 5, none⟩))).put (some 51) (tv)).put (some 52) (lv)).put (some 53) (iv)).put (some 54) (.pointer (some ⟨b, p, none⟩))).put (some 55) (kv)).put (some 56) (dv)).put (some 57) (nv)).put (some 50) (ov)).put (some 58) (qv)).put (some 59) (.pointer (some ⟨bx, 5, none⟩)) → Q .normal a' w') :
    (Code.region 9 told9_ops true).wp Try.prog Q a w := by
  refine wp_region_noPanic ?_
  refine wp_region_held_drew (S := fun w' => S w') (by kernel_rfl) (S0) (fun hHeld => ?_)
  refine tk 0 told9_o0 (.pointer (some ⟨bx, 5, none⟩)) (by rfl) (fun w1 hw => exec_fieldAt rfl t5 (GF _)) hHeld (fun a1 e1 => ?_)
  rw [← e1] at h1 h2 h3
  have z1 := pz e1 hsz
  replace t0 := pk e1 t0
  replace t1 := pk e1 t1
  replace t5 := pk e1 t5
  replace t6 := pk e1 t6
  have t49 := pq e1 hsz
  clear e1 hsz
  refine tk 2 told9_o2 (tv) (by rfl) (fun w1 hw => exec_move rfl t0) hHeld (fun a2 e2 => ?_)
  rw [← e2] at h1 h2 h3
  have z2 := pz e2 z1
  replace t1 := pk e2 t1
  replace t5 := pk e2 t5
  replace t6 := pk e2 t6
  replace t49 := pk e2 t49
  clear t0
  have t51 := pq e2 z1
  clear e2 z1
  refine tk 3 told9_o3 (lv) (by rfl) (fun w1 hw => exec_move rfl t1) hHeld (fun a3 e3 => ?_)
  rw [← e3] at h1 h2 h3
  have z3 := pz e3 z2
  replace t5 := pk e3 t5
  replace t6 := pk e3 t6
  replace t49 := pk e3 t49
  replace t51 := pk e3 t51
  clear t1
  have t52 := pq e3 z2
  clear e3 z2
  refine tk 4 told9_o4 (iv) (by rfl) (fun w1 hw => exec_move rfl t6) hHeld (fun a4 e4 => ?_)
  rw [← e4] at h1 h2 h3
  have z4 := pz e4 z3
  replace t5 := pk e4 t5
  replace t49 := pk e4 t49
  replace t51 := pk e4 t51
  replace t52 := pk e4 t52
  clear t6
  have t53 := pq e4 z3
  clear e4 z3
  refine tk 5 told9_o5 (.pointer (some ⟨b, p, none⟩)) (by rfl) (fun w1 hw => exec_indexAt rfl t52 t53 (GX _)) hHeld (fun a5 e5 => ?_)
  rw [← e5] at h1 h2 h3
  have z5 := pz e5 z4
  replace t5 := pk e5 t5
  replace t49 := pk e5 t49
  replace t51 := pk e5 t51
  clear t52 t53
  have t54 := pq e5 z4
  clear e5 z4
  refine tk 6 told9_o6 (kv) (by rfl) (fun w1 hw => exec_load rfl t54 (GK _ hw)) hHeld (fun a6 e6 => ?_)
  rw [← e6] at h1 h2 h3
  have z6 := pz e6 z5
  replace t5 := pk e6 t5
  replace t49 := pk e6 t49
  replace t51 := pk e6 t51
  clear t54
  have t55 := pq e6 z5
  clear e6 z5
  refine wpAnyH_ready (rs := [1, 7]) (by kernel_rfl) (by simp) ?_
  refine AllReadyH.cons (o := told9_o1) rfl (fun K hK => ?_) (AllReadyH.cons (o := told9_o7) rfl (fun K hK => ?_) (AllReadyH.nil))
  · clear h2 h3
    have X := exec_load (P := Try.prog) (a := a6) (o := told9_o1) rfl t49 K0
    rw [if_pos (by rfl), Oper.wp, X]
    show K _ _
    clear X
    refine hK.out _ _ (S0) (fun hHeld => ?_)
    clear hK K
    change wpAnyH _ _ _ _ _ _ _ (a6.put (some 50) (ov)) _
    obtain ⟨a7, e7⟩ : ∃ act, act = a6.put (some 50) (ov) := ⟨_, rfl⟩
    rw [← e7] at h1 ⊢
    have z7 := pz e7 z6
    replace t5 := pk e7 t5
    replace t51 := pk e7 t51
    replace t55 := pk e7 t55
    clear t49
    have t50 := pq e7 z6
    clear e7 z6
    refine wpAnyH_ready (rs := [7]) (by kernel_rfl) (by simp) ?_
    refine AllReadyH.cons (o := told9_o7) rfl (fun K hK => ?_) AllReadyH.nil
    rw [if_pos (by rfl)]
    unfold told9_o7 at hK ⊢
    go_simp
    refine (C0).mono ?_
    rintro e x8 ⟨dv, rfl, hc⟩
    try go_wp2_with fail
    obtain ⟨nv, w2, qv, w3, w4, EB, EA, ES, S1, S2, S3, S4, K1, K2, FN⟩ := HST dv x8 hc; (try replace h1 := h1 dv nv qv); (try replace h2 := h2 dv nv qv); (try replace h3 := h3 dv nv qv)
    refine hK.out _ _ (S1) (fun hHeld => ?_)
    clear hK K
    change wpAnyH _ _ _ _ _ _ _ (a7.put (some 56) (dv)) _
    obtain ⟨a8, e8⟩ : ∃ act, act = a7.put (some 56) (dv) := ⟨_, rfl⟩
    rw [← e8] at h1 ⊢
    have z8 := pz e8 z7
    replace t5 := pk e8 t5
    replace t50 := pk e8 t50
    clear t51 t55
    have t56 := pq e8 z7
    clear e8 z7
    refine wpAnyH_ready (rs := [8]) (by kernel_rfl) (by simp) ?_
    refine AllReadyH.cons (o := told9_o8) rfl (fun K hK => ?_) AllReadyH.nil
    have X := exec_buildSlice (P := Try.prog) (a := a8) (o := told9_o8) rfl t56 EB
    rw [if_pos (by rfl), Oper.wp, X]
    show K _ _
    clear X
    refine hK.out _ _ (S2) (fun hHeld => ?_)
    clear hK K
    change wpAnyH _ _ _ _ _ _ _ (a8.put (some 57) (nv)) _
    obtain ⟨a9, e9⟩ : ∃ act, act = a8.put (some 57) (nv) := ⟨_, rfl⟩
    rw [← e9] at h1 ⊢
    have z9 := pz e9 z8
    replace t5 := pk e9 t5
    replace t50 := pk e9 t50
    clear t56
    have t57 := pq e9 z8
    clear e9 z8
    refine wpAnyH_ready (rs := [9]) (by kernel_rfl) (by simp) ?_
    refine AllReadyH.cons (o := told9_o9) rfl (fun K hK => ?_) AllReadyH.nil
    have X := exec_append (P := Try.prog) (a := a9) (o := told9_o9) rfl t50 t57 EA
    rw [if_pos (by rfl), Oper.wp, X]
    show K _ _
    clear X
    refine hK.out _ _ (S3) (fun hHeld => ?_)
    clear hK K
    change wpAnyH _ _ _ _ _ _ _ (a9.put (some 58) (qv)) _
    obtain ⟨a10, e10⟩ : ∃ act, act = a9.put (some 58) (qv) := ⟨_, rfl⟩
    rw [← e10] at h1 ⊢
    have z10 := pz e10 z9
    replace t5 := pk e10 t5
    clear t50 t57
    have t58 := pq e10 z9
    clear e10 z9
    refine tk 10 told9_o10 (.pointer (some ⟨bx, 5, none⟩)) (by rfl) (fun w1 hw => exec_fieldAt rfl t5 (GF _)) hHeld (fun a11 e11 => ?_)
    rw [← e11] at h1
    have z11 := pz e11 z10
    replace t58 := pk e11 t58
    clear t5
    have t59 := pq e11 z10
    clear e11 z10
    refine wpAnyH_ready (rs := [11]) (by kernel_rfl) (by simp) ?_
    refine AllReadyH.cons (o := told9_o11) rfl (fun K hK => ?_) AllReadyH.nil
    have X := exec_store (P := Try.prog) (a := a11) (o := told9_o11) rfl t59 t58 ES
    rw [if_pos (by rfl), Oper.wp, X]
    show K _ _
    clear X
    refine hK.out _ _ (S4) (fun hHeld => ?_)
    clear hK K
    exact wpAnyH_done (by kernel_rfl) (NoPanic.normal (h1 _ _ (FN) rfl)) _
  · clear h1
    rw [if_pos (by rfl)]
    unfold told9_o7 at hK ⊢
    go_simp
    refine (C0).mono ?_
    rintro e x13 ⟨dv, rfl, hc⟩
    try go_wp2_with fail
    obtain ⟨nv, w2, qv, w3, w4, EB, EA, ES, S1, S2, S3, S4, K1, K2, FN⟩ := HST dv x13 hc; (try replace h1 := h1 dv nv qv); (try replace h2 := h2 dv nv qv); (try replace h3 := h3 dv nv qv)
    refine hK.out _ _ (S1) (fun hHeld => ?_)
    clear hK K
    change wpAnyH _ _ _ _ _ _ _ (a6.put (some 56) (dv)) _
    obtain ⟨a13, e13⟩ : ∃ act, act = a6.put (some 56) (dv) := ⟨_, rfl⟩
    rw [← e13] at h2 h3 ⊢
    have z13 := pz e13 z6
    replace t5 := pk e13 t5
    replace t49 := pk e13 t49
    clear t51 t55
    have t56 := pq e13 z6
    clear e13 z6
    refine wpAnyH_ready (rs := [1, 8]) (by kernel_rfl) (by simp) ?_
    refine AllReadyH.cons (o := told9_o1) rfl (fun K hK => ?_) (AllReadyH.cons (o := told9_o8) rfl (fun K hK => ?_) (AllReadyH.nil))
    · clear h3
      have X := exec_load (P := Try.prog) (a := a13) (o := told9_o1) rfl t49 K1
      rw [if_pos (by rfl), Oper.wp, X]
      show K _ _
      clear X
      refine hK.out _ _ (S1) (fun hHeld => ?_)
      clear hK K
      change wpAnyH _ _ _ _ _ _ _ (a13.put (some 50) (ov)) _
      obtain ⟨a14, e14⟩ : ∃ act, act = a13.put (some 50) (ov) := ⟨_, rfl⟩
      rw [← e14] at h2 ⊢
      have z14 := pz e14 z13
      replace t5 := pk e14 t5
      replace t56 := pk e14 t56
      clear t49
      have t50 := pq e14 z13
      clear e14 z13
      refine wpAnyH_ready (rs := [8]) (by kernel_rfl) (by simp) ?_
      refine AllReadyH.cons (o := told9_o8) rfl (fun K hK => ?_) AllReadyH.nil
      have X := exec_buildSlice (P := Try.prog) (a := a14) (o := told9_o8) rfl t56 EB
      rw [if_pos (by rfl), Oper.wp, X]
      show K _ _
      clear X
      refine hK.out _ _ (S2) (fun hHeld => ?_)
      clear hK K
      change wpAnyH _ _ _ _ _ _ _ (a14.put (some 57) (nv)) _
      obtain ⟨a15, e15⟩ : ∃ act, act = a14.put (some 57) (nv) := ⟨_, rfl⟩
      rw [← e15] at h2 ⊢
      have z15 := pz e15 z14
      replace t5 := pk e15 t5
      replace t50 := pk e15 t50
      clear t56
      have t57 := pq e15 z14
      clear e15 z14
      refine wpAnyH_ready (rs := [9]) (by kernel_rfl) (by simp) ?_
      refine AllReadyH.cons (o := told9_o9) rfl (fun K hK => ?_) AllReadyH.nil
      have X := exec_append (P := Try.prog) (a := a15) (o := told9_o9) rfl t50 t57 EA
      rw [if_pos (by rfl), Oper.wp, X]
      show K _ _
      clear X
      refine hK.out _ _ (S3) (fun hHeld => ?_)
      clear hK K
      change wpAnyH _ _ _ _ _ _ _ (a15.put (some 58) (qv)) _
      obtain ⟨a16, e16⟩ : ∃ act, act = a15.put (some 58) (qv) := ⟨_, rfl⟩
      rw [← e16] at h2 ⊢
      have z16 := pz e16 z15
      replace t5 := pk e16 t5
      clear t50 t57
      have t58 := pq e16 z15
      clear e16 z15
      refine tk 10 told9_o10 (.pointer (some ⟨bx, 5, none⟩)) (by rfl) (fun w1 hw => exec_fieldAt rfl t5 (GF _)) hHeld (fun a17 e17 => ?_)
      rw [← e17] at h2
      have z17 := pz e17 z16
      replace t58 := pk e17 t58
      clear t5
      have t59 := pq e17 z16
      clear e17 z16
      refine wpAnyH_ready (rs := [11]) (by kernel_rfl) (by simp) ?_
      refine AllReadyH.cons (o := told9_o11) rfl (fun K hK => ?_) AllReadyH.nil
      have X := exec_store (P := Try.prog) (a := a17) (o := told9_o11) rfl t59 t58 ES
      rw [if_pos (by rfl), Oper.wp, X]
      show K _ _
      clear X
      refine hK.out _ _ (S4) (fun hHeld => ?_)
      clear hK K
      exact wpAnyH_done (by kernel_rfl) (NoPanic.normal (h2 _ _ (FN) rfl)) _
    · clear h2
      have X := exec_buildSlice (P := Try.prog) (a := a13) (o := told9_o8) rfl t56 EB
      rw [if_pos (by rfl), Oper.wp, X]
      show K _ _
      clear X
      refine hK.out _ _ (S2) (fun hHeld => ?_)
      clear hK K
      change wpAnyH _ _ _ _ _ _ _ (a13.put (some 57) (nv)) _
      obtain ⟨a19, e19⟩ : ∃ act, act = a13.put (some 57) (nv) := ⟨_, rfl⟩
      rw [← e19] at h3 ⊢
      have z19 := pz e19 z13
      replace t5 := pk e19 t5
      replace t49 := pk e19 t49
      clear t56
      have t57 := pq e19 z13
      clear e19 z13
      refine wpAnyH_ready (rs := [1]) (by kernel_rfl) (by simp) ?_
      refine AllReadyH.cons (o := told9_o1) rfl (fun K hK => ?_) AllReadyH.nil
      have X := exec_load (P := Try.prog) (a := a19) (o := told9_o1) rfl t49 K2
      rw [if_pos (by rfl), Oper.wp, X]
      show K _ _
      clear X
      refine hK.out _ _ (S2) (fun hHeld => ?_)
      clear hK K
      change wpAnyH _ _ _ _ _ _ _ (a19.put (some 50) (ov)) _
      obtain ⟨a20, e20⟩ : ∃ act, act = a19.put (some 50) (ov) := ⟨_, rfl⟩
      rw [← e20] at h3 ⊢
      have z20 := pz e20 z19
      replace t5 := pk e20 t5
      replace t57 := pk e20 t57
      clear t49
      have t50 := pq e20 z19
      clear e20 z19
      refine wpAnyH_ready (rs := [9]) (by kernel_rfl) (by simp) ?_
      refine AllReadyH.cons (o := told9_o9) rfl (fun K hK => ?_) AllReadyH.nil
      have X := exec_append (P := Try.prog) (a := a20) (o := told9_o9) rfl t50 t57 EA
      rw [if_pos (by rfl), Oper.wp, X]
      show K _ _
      clear X
      refine hK.out _ _ (S3) (fun hHeld => ?_)
      clear hK K
      change wpAnyH _ _ _ _ _ _ _ (a20.put (some 58) (qv)) _
      obtain ⟨a21, e21⟩ : ∃ act, act = a20.put (some 58) (qv) := ⟨_, rfl⟩
      rw [← e21] at h3 ⊢
      have z21 := pz e21 z20
      replace t5 := pk e21 t5
      clear t57 t50
      have t58 := pq e21 z20
      clear e21 z20
      refine tk 10 told9_o10 (.pointer (some ⟨bx, 5, none⟩)) (by rfl) (fun w1 hw => exec_fieldAt rfl t5 (GF _)) hHeld (fun a22 e22 => ?_)
      rw [← e22] at h3
      have z22 := pz e22 z21
      replace t58 := pk e22 t58
      clear t5
      have t59 := pq e22 z21
      clear e22 z21
      refine wpAnyH_ready (rs := [11]) (by kernel_rfl) (by simp) ?_
      refine AllReadyH.cons (o := told9_o11) rfl (fun K hK => ?_) AllReadyH.nil
      have X := exec_store (P := Try.prog) (a := a22) (o := told9_o11) rfl t59 t58 ES
      rw [if_pos (by rfl), Oper.wp, X]
      show K _ _
      clear X
      refine hK.out _ _ (S4) (fun hHeld => ?_)
      clear hK K
      exact wpAnyH_done (by kernel_rfl) (NoPanic.normal (h3 _ _ (FN) rfl)) _
def same6_o0 : Oper := { dst := some 51, op := Op.fieldAddr 49 (Operand.tmp 2) 4, type := 0, pos := "outright.go:188", after := #[], guard := none }
def same6_o1 : Oper := { dst := some 52, op := Op.load 46 (Operand.tmp 51), type := 46, pos := "outright.go:188", after := #[{ on := 0, ground := Ground.data }], guard := none }
def same6_o2 : Oper := { dst := some 53, op := Op.move (Operand.tmp 5), type := 3, pos := "outright.go:188", after := #[], guard := none }
def same6_o3 : Oper := { dst := some 54, op := Op.indexAddr 46 (Operand.tmp 52) (Operand.tmp 53), type := 0, pos := "outright.go:188", after := #[{ on := 1, ground := Ground.data }, { on := 2, ground := Ground.data }], guard := none }
def same6_o4 : Oper := { dst := some 55, op := Op.load 4 (Operand.tmp 54), type := 4, pos := "outright.go:188", after := #[{ on := 3, ground := Ground.data }], guard := none }
def same6_o5 : Oper := { dst := some 56, op := Op.fieldAddr 49 (Operand.tmp 3) 4, type := 0, pos := "outright.go:188", after := #[], guard := none }
def same6_o6 : Oper := { dst := some 57, op := Op.load 46 (Operand.tmp 56), type := 46, pos := "outright.go:188", after := #[{ on := 5, ground := Ground.data }], guard := none }
def same6_o7 : Oper := { dst := some 58, op := Op.move (Operand.tmp 5), type := 3, pos := "outright.go:188", after := #[], guard := none }
def same6_o8 : Oper := { dst := some 59, op := Op.indexAddr 46 (Operand.tmp 57) (Operand.tmp 58), type := 0, pos := "outright.go:188", after := #[{ on := 6, ground := Ground.data }, { on := 7, ground := Ground.data }], guard := none }
def same6_o9 : Oper := { dst := some 60, op := Op.load 4 (Operand.tmp 59), type := 4, pos := "outright.go:188", after := #[{ on := 8, ground := Ground.data }], guard := none }
def same6_o10 : Oper := { dst := some 61, op := Op.binOp BinOp.neq 4 (Operand.tmp 55) (Operand.tmp 60) 4, type := 4, pos := "outright.go:188", after := #[{ on := 4, ground := Ground.data }, { on := 9, ground := Ground.data }], guard := none }
def same6_o11 : Oper := { dst := some 62, op := Op.move (Operand.tmp 61), type := 4, pos := "outright.go:188", after := #[{ on := 10, ground := Ground.data }], guard := none }
def same6_o12 : Oper := { dst := some 63, op := Op.fieldAddr 49 (Operand.tmp 2) 5, type := 0, pos := "outright.go:188", after := #[{ on := 11, ground := Ground.guard }], guard := some (11, false) }
def same6_o13 : Oper := { dst := some 64, op := Op.load 47 (Operand.tmp 63), type := 47, pos := "outright.go:188", after := #[{ on := 12, ground := Ground.data }, { on := 11, ground := Ground.guard }], guard := some (11, false) }
def same6_o14 : Oper := { dst := some 65, op := Op.move (Operand.tmp 5), type := 3, pos := "outright.go:188", after := #[{ on := 11, ground := Ground.guard }], guard := some (11, false) }
def same6_o15 : Oper := { dst := some 66, op := Op.indexAddr 47 (Operand.tmp 64) (Operand.tmp 65), type := 0, pos := "outright.go:188", after := #[{ on := 13, ground := Ground.data }, { on := 14, ground := Ground.data }, { on := 11, ground := Ground.guard }], guard := some (11, false) }
def same6_o16 : Oper := { dst := some 67, op := Op.load 3 (Operand.tmp 66), type := 3, pos := "outright.go:188", after := #[{ on := 15, ground := Ground.data }, { on := 11, ground := Ground.guard }], guard := some (11, false) }
def same6_o17 : Oper := { dst := some 68, op := Op.fieldAddr 49 (Operand.tmp 3) 5, type := 0, pos := "outright.go:188", after := #[{ on := 11, ground := Ground.guard }], guard := some (11, false) }
def same6_o18 : Oper := { dst := some 69, op := Op.load 47 (Operand.tmp 68), type := 47, pos := "outright.go:188", after := #[{ on := 17, ground := Ground.data }, { on := 11, ground := Ground.guard }], guard := some (11, false) }
def same6_o19 : Oper := { dst := some 70, op := Op.move (Operand.tmp 5), type := 3, pos := "outright.go:188", after := #[{ on := 11, ground := Ground.guard }], guard := some (11, false) }
def same6_o20 : Oper := { dst := some 71, op := Op.indexAddr 47 (Operand.tmp 69) (Operand.tmp 70), type := 0, pos := "outright.go:188", after := #[{ on := 18, ground := Ground.data }, { on := 19, ground := Ground.data }, { on := 11, ground := Ground.guard }], guard := some (11, false) }
def same6_o21 : Oper := { dst := some 72, op := Op.load 3 (Operand.tmp 71), type := 3, pos := "outright.go:188", after := #[{ on := 20, ground := Ground.data }, { on := 11, ground := Ground.guard }], guard := some (11, false) }
def same6_o22 : Oper := { dst := some 73, op := Op.binOp BinOp.neq 3 (Operand.tmp 67) (Operand.tmp 72) 3, type := 4, pos := "outright.go:188", after := #[{ on := 16, ground := Ground.data }, { on := 21, ground := Ground.data }, { on := 11, ground := Ground.guard }], guard := some (11, false) }
def same6_o23 : Oper := { dst := some 74, op := Op.pick (Operand.tmp 62) (Operand.const (Value.bool true)) (Operand.tmp 73), type := 4, pos := "outright.go:188", after := #[{ on := 11, ground := Ground.data }, { on := 22, ground := Ground.data }], guard := none }
def same6_ops : Array Oper := #[same6_o0, same6_o1, same6_o2, same6_o3, same6_o4, same6_o5, same6_o6, same6_o7, same6_o8, same6_o9, same6_o10, same6_o11, same6_o12, same6_o13, same6_o14, same6_o15, same6_o16, same6_o17, same6_o18, same6_o19, same6_o20, same6_o21, same6_o22, same6_o23]
set_option maxRecDepth 100000 in
set_option maxHeartbeats 4000000 in
theorem same6 (S : World → Prop) (ba bb ka o1 kb o2 kc o3 kd o4 : Nat) (iv la lb ma mb zv : Value) (q : Bool) (a : Act) (w : World) (Q : Exit → Act → World → Prop) (hsz : a.tmps.size = 75)
    (t2 : a.tmps.getD 2 undef = .pointer (some ⟨ba, 0, none⟩))
    (t3 : a.tmps.getD 3 undef = .pointer (some ⟨bb, 0, none⟩))
    (t5 : a.tmps.getD 5 undef = iv)
    (h0 : S w.drew)
    (G1 : ∀ W, S W → (Instr.loadAt 46 (.pointer (some ⟨ba, 0 + 4, none⟩))).run Try.prog W = .ok (la) W)
    (G2 : ∀ W, (Instr.indexAt 46 (la) (iv)).run Try.prog W = .ok (.pointer (some ⟨ka, o1, none⟩)) W)
    (G3 : ∀ W, S W → (Instr.loadAt 4 (.pointer (some ⟨ka, o1, none⟩))).run Try.prog W = .ok (.bool q) W)
    (G4 : ∀ W, S W → (Instr.loadAt 46 (.pointer (some ⟨bb, 0 + 4, none⟩))).run Try.prog W = .ok (lb) W)
    (G5 : ∀ W, (Instr.indexAt 46 (lb) (iv)).run Try.prog W = .ok (.pointer (some ⟨kb, o2, none⟩)) W)
    (G6 : ∀ W, S W → (Instr.loadAt 4 (.pointer (some ⟨kb, o2, none⟩))).run Try.prog W = .ok (.bool q) W)
    (G7 : ∀ W, (eqGuard BinOp.neq 4 (Operand.tmp 55) (Operand.tmp 60) (.bool q) (.bool q)).run Try.prog W = .ok () W)
    (G8 : ∀ W, S W → (binOp BinOp.neq 4 (.bool q) (.bool q)).run Try.prog W = .ok (.bool false) W)
    (G9 : ∀ W, S W → (Instr.loadAt 47 (.pointer (some ⟨ba, 0 + 5, none⟩))).run Try.prog W = .ok (ma) W)
    (G10 : ∀ W, (Instr.indexAt 47 (ma) (iv)).run Try.prog W = .ok (.pointer (some ⟨kc, o3, none⟩)) W)
    (G11 : ∀ W, S W → (Instr.loadAt 3 (.pointer (some ⟨kc, o3, none⟩))).run Try.prog W = .ok (zv) W)
    (G12 : ∀ W, S W → (Instr.loadAt 47 (.pointer (some ⟨bb, 0 + 5, none⟩))).run Try.prog W = .ok (mb) W)
    (G13 : ∀ W, (Instr.indexAt 47 (mb) (iv)).run Try.prog W = .ok (.pointer (some ⟨kd, o4, none⟩)) W)
    (G14 : ∀ W, S W → (Instr.loadAt 3 (.pointer (some ⟨kd, o4, none⟩))).run Try.prog W = .ok (zv) W)
    (G15 : ∀ W, (eqGuard BinOp.neq 3 (Operand.tmp 67) (Operand.tmp 72) (zv) (zv)).run Try.prog W = .ok () W)
    (G16 : ∀ W, S W → (binOp BinOp.neq 3 (zv) (zv)).run Try.prog W = .ok (.bool false) W)
    (h : ∀ (a' : Act) (w' : World), S w' → a' = ((((((((((((((((((((((((a).put (some 51) (.pointer (some ⟨ba, 0 + 4, none⟩))).put (some 52) (la)).put (some 53) (iv)).put (some 54) (.pointer (some ⟨ka, o1, none⟩))).put (some 55) (.bool q)).put (some 56) (.pointer (some ⟨bb, 0 + 4, none⟩))).put (some 57) (lb)).put (some 58) (iv)).put (some 59) (.pointer (some ⟨kb, o2, none⟩))).put (some 60) (.bool q)).put (some 61) (.bool false)).put (some 62) (.bool false)).put (some 63) (.pointer (some ⟨ba, 0 + 5, none⟩))).put (some 64) (ma)).put (some 65) (iv)).put (some 66) (.pointer (some ⟨kc, o3, none⟩))).put (some 67) (zv)).put (some 68) (.pointer (some ⟨bb, 0 + 5, none⟩))).put (some 69) (mb)).put (some 70) (iv)).put (some 71) (.pointer (some ⟨kd, o4, none⟩))).put (some 72) (zv)).put (some 73) (.bool false)).put (some 74) (.bool false) → Q .normal a' w') :
    (Code.region 6 same6_ops true).wp Try.prog Q a w := by
  refine wp_region_noPanic ?_
  refine wp_region_held_drew (S := fun w' => S w') (by kernel_rfl) (h0) (fun hHeld => ?_)
  change wpAnyH _ _ _ _ _ _ _ a _
  refine tk 0 same6_o0 (.pointer (some ⟨ba, 0 + 4, none⟩)) (by rfl) (fun w1 hw => exec_fieldAt rfl t2 (fg_49_4 _ _ _)) hHeld (fun a1 e1 => ?_)
  rw [← e1] at h
  have z1 := pz e1 hsz
  replace t2 := pk e1 t2
  replace t3 := pk e1 t3
  replace t5 := pk e1 t5
  have t51 := pq e1 hsz
  clear e1 hsz
  refine tk 1 same6_o1 (la) (by rfl) (fun w1 hw => exec_load rfl t51 (G1 _ hw)) hHeld (fun a2 e2 => ?_)
  rw [← e2] at h
  have z2 := pz e2 z1
  replace t2 := pk e2 t2
  replace t3 := pk e2 t3
  replace t5 := pk e2 t5
  clear t51
  have t52 := pq e2 z1
  clear e2 z1
  refine tk 2 same6_o2 (iv) (by rfl) (fun w1 hw => exec_move rfl t5) hHeld (fun a3 e3 => ?_)
  rw [← e3] at h
  have z3 := pz e3 z2
  replace t2 := pk e3 t2
  replace t3 := pk e3 t3
  replace t5 := pk e3 t5
  replace t52 := pk e3 t52
  have t53 := pq e3 z2
  clear e3 z2
  refine tk 3 same6_o3 (.pointer (some ⟨ka, o1, none⟩)) (by rfl) (fun w1 hw => exec_indexAt rfl t52 t53 (G2 _)) hHeld (fun a4 e4 => ?_)
  rw [← e4] at h
  have z4 := pz e4 z3
  replace t2 := pk e4 t2
  replace t3 := pk e4 t3
  replace t5 := pk e4 t5
  clear t52 t53
  have t54 := pq e4 z3
  clear e4 z3
  refine tk 4 same6_o4 (.bool q) (by rfl) (fun w1 hw => exec_load rfl t54 (G3 _ hw)) hHeld (fun a5 e5 => ?_)
  rw [← e5] at h
  have z5 := pz e5 z4
  replace t2 := pk e5 t2
  replace t3 := pk e5 t3
  replace t5 := pk e5 t5
  clear t54
  have t55 := pq e5 z4
  clear e5 z4
  refine tk 5 same6_o5 (.pointer (some ⟨bb, 0 + 4, none⟩)) (by rfl) (fun w1 hw => exec_fieldAt rfl t3 (fg_49_4 _ _ _)) hHeld (fun a6 e6 => ?_)
  rw [← e6] at h
  have z6 := pz e6 z5
  replace t2 := pk e6 t2
  replace t3 := pk e6 t3
  replace t5 := pk e6 t5
  replace t55 := pk e6 t55
  have t56 := pq e6 z5
  clear e6 z5
  refine tk 6 same6_o6 (lb) (by rfl) (fun w1 hw => exec_load rfl t56 (G4 _ hw)) hHeld (fun a7 e7 => ?_)
  rw [← e7] at h
  have z7 := pz e7 z6
  replace t2 := pk e7 t2
  replace t3 := pk e7 t3
  replace t5 := pk e7 t5
  replace t55 := pk e7 t55
  clear t56
  have t57 := pq e7 z6
  clear e7 z6
  refine tk 7 same6_o7 (iv) (by rfl) (fun w1 hw => exec_move rfl t5) hHeld (fun a8 e8 => ?_)
  rw [← e8] at h
  have z8 := pz e8 z7
  replace t2 := pk e8 t2
  replace t3 := pk e8 t3
  replace t5 := pk e8 t5
  replace t55 := pk e8 t55
  replace t57 := pk e8 t57
  have t58 := pq e8 z7
  clear e8 z7
  refine tk 8 same6_o8 (.pointer (some ⟨kb, o2, none⟩)) (by rfl) (fun w1 hw => exec_indexAt rfl t57 t58 (G5 _)) hHeld (fun a9 e9 => ?_)
  rw [← e9] at h
  have z9 := pz e9 z8
  replace t2 := pk e9 t2
  replace t3 := pk e9 t3
  replace t5 := pk e9 t5
  replace t55 := pk e9 t55
  clear t57 t58
  have t59 := pq e9 z8
  clear e9 z8
  refine tk 9 same6_o9 (.bool q) (by rfl) (fun w1 hw => exec_load rfl t59 (G6 _ hw)) hHeld (fun a10 e10 => ?_)
  rw [← e10] at h
  have z10 := pz e10 z9
  replace t2 := pk e10 t2
  replace t3 := pk e10 t3
  replace t5 := pk e10 t5
  replace t55 := pk e10 t55
  clear t59
  have t60 := pq e10 z9
  clear e10 z9
  refine tk 10 same6_o10 (.bool false) (by rfl) (fun w1 hw => exec_binOp rfl t55 t60 (G7 _) (G8 _ hw)) hHeld (fun a11 e11 => ?_)
  rw [← e11] at h
  have z11 := pz e11 z10
  replace t2 := pk e11 t2
  replace t3 := pk e11 t3
  replace t5 := pk e11 t5
  clear t55 t60
  have t61 := pq e11 z10
  clear e11 z10
  refine tk 11 same6_o11 (.bool false) (by rfl) (fun w1 hw => exec_move rfl t61) hHeld (fun a12 e12 => ?_)
  rw [← e12] at h
  have z12 := pz e12 z11
  replace t2 := pk e12 t2
  replace t3 := pk e12 t3
  replace t5 := pk e12 t5
  clear t61
  have t62 := pq e12 z11
  clear e12 z11
  refine tk 12 same6_o12 (.pointer (some ⟨ba, 0 + 5, none⟩)) (by simp [Region.wanted, yielded, same6_ops, same6_o12, same6_o11, tget z12 (by decide) t62]) (fun w1 hw => exec_fieldAt rfl t2 (fg_49_5 _ _ _)) hHeld (fun a13 e13 => ?_)
  rw [← e13] at h
  have z13 := pz e13 z12
  replace t3 := pk e13 t3
  replace t5 := pk e13 t5
  replace t62 := pk e13 t62
  clear t2
  have t63 := pq e13 z12
  clear e13 z12
  refine tk 13 same6_o13 (ma) (by simp [Region.wanted, yielded, same6_ops, same6_o13, same6_o11, tget z13 (by decide) t62]) (fun w1 hw => exec_load rfl t63 (G9 _ hw)) hHeld (fun a14 e14 => ?_)
  rw [← e14] at h
  have z14 := pz e14 z13
  replace t3 := pk e14 t3
  replace t5 := pk e14 t5
  replace t62 := pk e14 t62
  clear t63
  have t64 := pq e14 z13
  clear e14 z13
  refine tk 14 same6_o14 (iv) (by simp [Region.wanted, yielded, same6_ops, same6_o14, same6_o11, tget z14 (by decide) t62]) (fun w1 hw => exec_move rfl t5) hHeld (fun a15 e15 => ?_)
  rw [← e15] at h
  have z15 := pz e15 z14
  replace t3 := pk e15 t3
  replace t5 := pk e15 t5
  replace t62 := pk e15 t62
  replace t64 := pk e15 t64
  have t65 := pq e15 z14
  clear e15 z14
  refine tk 15 same6_o15 (.pointer (some ⟨kc, o3, none⟩)) (by simp [Region.wanted, yielded, same6_ops, same6_o15, same6_o11, tget z15 (by decide) t62]) (fun w1 hw => exec_indexAt rfl t64 t65 (G10 _)) hHeld (fun a16 e16 => ?_)
  rw [← e16] at h
  have z16 := pz e16 z15
  replace t3 := pk e16 t3
  replace t5 := pk e16 t5
  replace t62 := pk e16 t62
  clear t64 t65
  have t66 := pq e16 z15
  clear e16 z15
  refine tk 16 same6_o16 (zv) (by simp [Region.wanted, yielded, same6_ops, same6_o16, same6_o11, tget z16 (by decide) t62]) (fun w1 hw => exec_load rfl t66 (G11 _ hw)) hHeld (fun a17 e17 => ?_)
  rw [← e17] at h
  have z17 := pz e17 z16
  replace t3 := pk e17 t3
  replace t5 := pk e17 t5
  replace t62 := pk e17 t62
  clear t66
  have t67 := pq e17 z16
  clear e17 z16
  refine tk 17 same6_o17 (.pointer (some ⟨bb, 0 + 5, none⟩)) (by simp [Region.wanted, yielded, same6_ops, same6_o17, same6_o11, tget z17 (by decide) t62]) (fun w1 hw => exec_fieldAt rfl t3 (fg_49_5 _ _ _)) hHeld (fun a18 e18 => ?_)
  rw [← e18] at h
  have z18 := pz e18 z17
  replace t5 := pk e18 t5
  replace t62 := pk e18 t62
  replace t67 := pk e18 t67
  clear t3
  have t68 := pq e18 z17
  clear e18 z17
  refine tk 18 same6_o18 (mb) (by simp [Region.wanted, yielded, same6_ops, same6_o18, same6_o11, tget z18 (by decide) t62]) (fun w1 hw => exec_load rfl t68 (G12 _ hw)) hHeld (fun a19 e19 => ?_)
  rw [← e19] at h
  have z19 := pz e19 z18
  replace t5 := pk e19 t5
  replace t62 := pk e19 t62
  replace t67 := pk e19 t67
  clear t68
  have t69 := pq e19 z18
  clear e19 z18
  refine tk 19 same6_o19 (iv) (by simp [Region.wanted, yielded, same6_ops, same6_o19, same6_o11, tget z19 (by decide) t62]) (fun w1 hw => exec_move rfl t5) hHeld (fun a20 e20 => ?_)
  rw [← e20] at h
  have z20 := pz e20 z19
  replace t62 := pk e20 t62
  replace t67 := pk e20 t67
  replace t69 := pk e20 t69
  clear t5
  have t70 := pq e20 z19
  clear e20 z19
  refine tk 20 same6_o20 (.pointer (some ⟨kd, o4, none⟩)) (by simp [Region.wanted, yielded, same6_ops, same6_o20, same6_o11, tget z20 (by decide) t62]) (fun w1 hw => exec_indexAt rfl t69 t70 (G13 _)) hHeld (fun a21 e21 => ?_)
  rw [← e21] at h
  have z21 := pz e21 z20
  replace t62 := pk e21 t62
  replace t67 := pk e21 t67
  clear t69 t70
  have t71 := pq e21 z20
  clear e21 z20
  refine tk 21 same6_o21 (zv) (by simp [Region.wanted, yielded, same6_ops, same6_o21, same6_o11, tget z21 (by decide) t62]) (fun w1 hw => exec_load rfl t71 (G14 _ hw)) hHeld (fun a22 e22 => ?_)
  rw [← e22] at h
  have z22 := pz e22 z21
  replace t62 := pk e22 t62
  replace t67 := pk e22 t67
  clear t71
  have t72 := pq e22 z21
  clear e22 z21
  refine tk 22 same6_o22 (.bool false) (by simp [Region.wanted, yielded, same6_ops, same6_o22, same6_o11, tget z22 (by decide) t62]) (fun w1 hw => exec_binOp rfl t67 t72 (G15 _) (G16 _ hw)) hHeld (fun a23 e23 => ?_)
  rw [← e23] at h
  have z23 := pz e23 z22
  replace t62 := pk e23 t62
  clear t67 t72
  have t73 := pq e23 z22
  clear e23 z22
  refine tk 23 same6_o23 (.bool false) (by rfl) (fun w1 hw => by unfold same6_o23; go_simp) hHeld (fun a24 e24 => ?_)
  rw [← e24] at h
  have z24 := pz e24 z23
  clear t62 t73
  clear e24 z23
  exact wpAnyH_done (by kernel_rfl) (NoPanic.normal (h _ _ (hHeld) rfl)) _
def texts6_o0 : Oper := { dst := some 17, op := Op.move (Operand.tmp 0), type := 45, pos := "mem.go:153", after := #[], guard := none }
def texts6_o1 : Oper := { dst := some 18, op := Op.move (Operand.tmp 5), type := 3, pos := "mem.go:153", after := #[], guard := none }
def texts6_o2 : Oper := { dst := some 19, op := Op.indexAddr 45 (Operand.tmp 17) (Operand.tmp 18), type := 0, pos := "mem.go:153", after := #[{ on := 0, ground := Ground.data }, { on := 1, ground := Ground.data }], guard := none }
def texts6_o3 : Oper := { dst := some 20, op := Op.load 9 (Operand.tmp 19), type := 9, pos := "mem.go:153", after := #[{ on := 2, ground := Ground.data }], guard := none }
def texts6_o4 : Oper := { dst := some 21, op := Op.move (Operand.tmp 1), type := 45, pos := "mem.go:153", after := #[], guard := none }
def texts6_o5 : Oper := { dst := some 22, op := Op.move (Operand.tmp 5), type := 3, pos := "mem.go:153", after := #[], guard := none }
def texts6_o6 : Oper := { dst := some 23, op := Op.indexAddr 45 (Operand.tmp 21) (Operand.tmp 22), type := 0, pos := "mem.go:153", after := #[{ on := 4, ground := Ground.data }, { on := 5, ground := Ground.data }], guard := none }
def texts6_o7 : Oper := { dst := some 24, op := Op.load 9 (Operand.tmp 23), type := 9, pos := "mem.go:153", after := #[{ on := 6, ground := Ground.data }], guard := none }
def texts6_o8 : Oper := { dst := some 25, op := Op.binOp BinOp.neq 9 (Operand.tmp 20) (Operand.tmp 24) 9, type := 4, pos := "mem.go:153", after := #[{ on := 3, ground := Ground.data }, { on := 7, ground := Ground.data }], guard := none }
def texts6_ops : Array Oper := #[texts6_o0, texts6_o1, texts6_o2, texts6_o3, texts6_o4, texts6_o5, texts6_o6, texts6_o7, texts6_o8]
set_option maxRecDepth 100000 in
set_option maxHeartbeats 4000000 in
theorem texts6 (S : World → Prop) (ka p kb q : Nat) (iv la lb : Value) (s : ByteArray) (a : Act) (w : World) (Q : Exit → Act → World → Prop) (hsz : a.tmps.size = 26)
    (t0 : a.tmps.getD 0 undef = la)
    (t1 : a.tmps.getD 1 undef = lb)
    (t5 : a.tmps.getD 5 undef = iv)
    (h0 : S w.drew)
    (G1 : ∀ W, (Instr.indexAt 45 (la) (iv)).run Try.prog W = .ok (.pointer (some ⟨ka, p, none⟩)) W)
    (G2 : ∀ W, S W → (Instr.loadAt 9 (.pointer (some ⟨ka, p, none⟩))).run Try.prog W = .ok (.string s) W)
    (G3 : ∀ W, (Instr.indexAt 45 (lb) (iv)).run Try.prog W = .ok (.pointer (some ⟨kb, q, none⟩)) W)
    (G4 : ∀ W, S W → (Instr.loadAt 9 (.pointer (some ⟨kb, q, none⟩))).run Try.prog W = .ok (.string s) W)
    (G5 : ∀ W, (eqGuard BinOp.neq 9 (Operand.tmp 20) (Operand.tmp 24) (.string s) (.string s)).run Try.prog W = .ok () W)
    (G6 : ∀ W, S W → (binOp BinOp.neq 9 (.string s) (.string s)).run Try.prog W = .ok (.bool false) W)
    (h : ∀ (a' : Act) (w' : World), S w' → a' = (((((((((a).put (some 17) (la)).put (some 18) (iv)).put (some 19) (.pointer (some ⟨ka, p, none⟩))).put (some 20) (.string s)).put (some 21) (lb)).put (some 22) (iv)).put (some 23) (.pointer (some ⟨kb, q, none⟩))).put (some 24) (.string s)).put (some 25) (.bool false) → Q .normal a' w') :
    (Code.region 6 texts6_ops true).wp Try.prog Q a w := by
  refine wp_region_noPanic ?_
  refine wp_region_held_drew (S := fun w' => S w') (by kernel_rfl) (h0) (fun hHeld => ?_)
  refine tk 0 texts6_o0 (la) (by rfl) (fun w1 hw => exec_move rfl t0) hHeld (fun a1 e1 => ?_)
  rw [← e1] at h
  have z1 := pz e1 hsz
  replace t1 := pk e1 t1
  replace t5 := pk e1 t5
  clear t0
  have t17 := pq e1 hsz
  clear e1 hsz
  refine tk 1 texts6_o1 (iv) (by rfl) (fun w1 hw => exec_move rfl t5) hHeld (fun a2 e2 => ?_)
  rw [← e2] at h
  have z2 := pz e2 z1
  replace t1 := pk e2 t1
  replace t5 := pk e2 t5
  replace t17 := pk e2 t17
  have t18 := pq e2 z1
  clear e2 z1
  refine tk 2 texts6_o2 (.pointer (some ⟨ka, p, none⟩)) (by rfl) (fun w1 hw => exec_indexAt rfl t17 t18 (G1 _)) hHeld (fun a3 e3 => ?_)
  rw [← e3] at h
  have z3 := pz e3 z2
  replace t1 := pk e3 t1
  replace t5 := pk e3 t5
  clear t17 t18
  have t19 := pq e3 z2
  clear e3 z2
  refine tk 3 texts6_o3 (.string s) (by rfl) (fun w1 hw => exec_load rfl t19 (G2 _ hw)) hHeld (fun a4 e4 => ?_)
  rw [← e4] at h
  have z4 := pz e4 z3
  replace t1 := pk e4 t1
  replace t5 := pk e4 t5
  clear t19
  have t20 := pq e4 z3
  clear e4 z3
  refine tk 4 texts6_o4 (lb) (by rfl) (fun w1 hw => exec_move rfl t1) hHeld (fun a5 e5 => ?_)
  rw [← e5] at h
  have z5 := pz e5 z4
  replace t5 := pk e5 t5
  replace t20 := pk e5 t20
  clear t1
  have t21 := pq e5 z4
  clear e5 z4
  refine tk 5 texts6_o5 (iv) (by rfl) (fun w1 hw => exec_move rfl t5) hHeld (fun a6 e6 => ?_)
  rw [← e6] at h
  have z6 := pz e6 z5
  replace t20 := pk e6 t20
  replace t21 := pk e6 t21
  clear t5
  have t22 := pq e6 z5
  clear e6 z5
  refine tk 6 texts6_o6 (.pointer (some ⟨kb, q, none⟩)) (by rfl) (fun w1 hw => exec_indexAt rfl t21 t22 (G3 _)) hHeld (fun a7 e7 => ?_)
  rw [← e7] at h
  have z7 := pz e7 z6
  replace t20 := pk e7 t20
  clear t21 t22
  have t23 := pq e7 z6
  clear e7 z6
  refine tk 7 texts6_o7 (.string s) (by rfl) (fun w1 hw => exec_load rfl t23 (G4 _ hw)) hHeld (fun a8 e8 => ?_)
  rw [← e8] at h
  have z8 := pz e8 z7
  replace t20 := pk e8 t20
  clear t23
  have t24 := pq e8 z7
  clear e8 z7
  refine tk 8 texts6_o8 (.bool false) (by rfl) (fun w1 hw => exec_binOp rfl t20 t24 (G5 _) (G6 _ hw)) hHeld (fun a9 e9 => ?_)
  rw [← e9] at h
  have z9 := pz e9 z8
  clear t20 t24
  clear e9 z8
  exact wpAnyH_done (by kernel_rfl) (NoPanic.normal (h _ _ (hHeld) rfl)) _
end Go.Proofs.Ytoofljkgdjjllab

namespace Go.Proofs.Ytoofljkgdjjllab
open Go.RowKit
set_option linter.unusedVariables false
set_option linter.unusedSimpArgs false

theorem fg_98_0 (b o : Nat) (w : World) : (Instr.fieldAt 98 (.pointer (some ⟨b, o, none⟩)) 0).run Try.prog w = .ok (.pointer (some ⟨b, o + 0, none⟩)) w := by go_simp
theorem fg_98_1 (b o : Nat) (w : World) : (Instr.fieldAt 98 (.pointer (some ⟨b, o, none⟩)) 1).run Try.prog w = .ok (.pointer (some ⟨b, o + 1, none⟩)) w := by go_simp
theorem fg_100_0 (b o : Nat) (w : World) : (Instr.fieldAt 100 (.pointer (some ⟨b, o, none⟩)) 0).run Try.prog w = .ok (.pointer (some ⟨b, o + 0, none⟩)) w := by go_simp
theorem fg_100_1 (b o : Nat) (w : World) : (Instr.fieldAt 100 (.pointer (some ⟨b, o, none⟩)) 1).run Try.prog w = .ok (.pointer (some ⟨b, o + 33, none⟩)) w := by go_simp
theorem fg_100_2 (b o : Nat) (w : World) : (Instr.fieldAt 100 (.pointer (some ⟨b, o, none⟩)) 2).run Try.prog w = .ok (.pointer (some ⟨b, o + 66, none⟩)) w := by go_simp
theorem fg_100_3 (b o : Nat) (w : World) : (Instr.fieldAt 100 (.pointer (some ⟨b, o, none⟩)) 3).run Try.prog w = .ok (.pointer (some ⟨b, o + 67, none⟩)) w := by go_simp
def find4_o0 : Oper := { dst := some 19, op := Op.move (Operand.tmp 0), type := 74, pos := "ref.go:47", after := #[], guard := none }
def find4_o1 : Oper := { dst := some 20, op := Op.nilCheck (Operand.tmp 19), type := 0, pos := "ref.go:47", after := #[{ on := 0, ground := Ground.data }], guard := none }
def find4_o2 : Oper := { dst := some 21, op := Op.fieldAddr 98 (Operand.tmp 20) 0, type := 0, pos := "ref.go:47", after := #[{ on := 1, ground := Ground.data }], guard := none }
def find4_o3 : Oper := { dst := some 22, op := Op.load 95 (Operand.tmp 21), type := 95, pos := "ref.go:47", after := #[{ on := 2, ground := Ground.data }], guard := none }
def find4_o4 : Oper := { dst := some 23, op := Op.move (Operand.tmp 5), type := 3, pos := "ref.go:47", after := #[], guard := none }
def find4_o5 : Oper := { dst := some 24, op := Op.indexAddr 95 (Operand.tmp 22) (Operand.tmp 23), type := 0, pos := "ref.go:47", after := #[{ on := 3, ground := Ground.data }, { on := 4, ground := Ground.data }], guard := none }
def find4_o6 : Oper := { dst := some 25, op := Op.fieldAddr 100 (Operand.tmp 24) 0, type := 0, pos := "ref.go:47", after := #[{ on := 5, ground := Ground.data }], guard := none }
def find4_o7 : Oper := { dst := some 26, op := Op.load 35 (Operand.tmp 25), type := 35, pos := "ref.go:47", after := #[{ on := 6, ground := Ground.data }], guard := none }
def find4_o8 : Oper := { dst := some 27, op := Op.load 35 (Operand.tmp 3), type := 35, pos := "ref.go:47", after := #[], guard := none }
def find4_o9 : Oper := { dst := some 28, op := Op.binOp BinOp.eql 35 (Operand.tmp 26) (Operand.tmp 27) 35, type := 4, pos := "ref.go:47", after := #[{ on := 7, ground := Ground.data }, { on := 8, ground := Ground.data }], guard := none }
def find4_ops : Array Oper := #[find4_o0, find4_o1, find4_o2, find4_o3, find4_o4, find4_o5, find4_o6, find4_o7, find4_o8, find4_o9]
set_option maxRecDepth 100000 in
set_option maxHeartbeats 4000000 in
theorem find4 (d bi nb no n c i : Nat) (xv kv : Value) (q : Bool) (S : World → Prop) (a : Act) (w : World) (Q : Exit → Act → World → Prop) (hsz : a.tmps.size = 30)
    (t0 : a.tmps.getD 0 undef = .pointer (some ⟨d, 0, none⟩))
    (t3 : a.tmps.getD 3 undef = .pointer (some ⟨bi, 0, none⟩))
    (t5 : a.tmps.getD 5 undef = .int .i64 (i : Int))
    (h0 : S w.drew)
    (G1 : ∀ W, S W → (Instr.loadAt 95 (.pointer (some ⟨d, 0 + 0, none⟩))).run Try.prog W = .ok (.slice (some ⟨nb, no, none⟩) n c) W)
    (G2 : ∀ W, (Instr.indexAt 95 (.slice (some ⟨nb, no, none⟩) n c) (.int .i64 (i : Int))).run Try.prog W = .ok (.pointer (some ⟨nb, no + i * 68, none⟩)) W)
    (G3 : ∀ W, S W → (Instr.loadAt 35 (.pointer (some ⟨nb, no + i * 68 + 0, none⟩))).run Try.prog W = .ok (xv) W)
    (G4 : ∀ W, S W → (Instr.loadAt 35 (.pointer (some ⟨bi, 0, none⟩))).run Try.prog W = .ok (kv) W)
    (G5 : ∀ W, (eqGuard BinOp.eql 35 (Operand.tmp 26) (Operand.tmp 27) (xv) (kv)).run Try.prog W = .ok () W)
    (G6 : ∀ W, S W → (binOp BinOp.eql 35 (xv) (kv)).run Try.prog W = .ok (.bool q) W)
    (h : ∀ (a' : Act) (w' : World), S w' → a' = ((((((((((a).put (some 19) (.pointer (some ⟨d, 0, none⟩))).put (some 20) (.pointer (some ⟨d, 0, none⟩))).put (some 21) (.pointer (some ⟨d, 0 + 0, none⟩))).put (some 22) (.slice (some ⟨nb, no, none⟩) n c)).put (some 23) (.int .i64 (i : Int))).put (some 24) (.pointer (some ⟨nb, no + i * 68, none⟩))).put (some 25) (.pointer (some ⟨nb, no + i * 68 + 0, none⟩))).put (some 26) (xv)).put (some 27) (kv)).put (some 28) (.bool q) → Q .normal a' w') :
    (Code.region 4 find4_ops true).wp Try.prog Q a w := by
  refine wp_region_noPanic ?_
  refine wp_region_held_drew (S := fun w' => S w') (by kernel_rfl) (h0) (fun hHeld => ?_)
  refine tk 0 find4_o0 (.pointer (some ⟨d, 0, none⟩)) (by rfl) (fun w1 hw => exec_move rfl t0) hHeld (fun a1 e1 => ?_)
  rw [← e1] at h
  have z1 := pz e1 hsz
  clear t0
  replace t3 := pk e1 t3
  replace t5 := pk e1 t5
  have t19 := pq e1 hsz
  clear e1 hsz
  refine tk 1 find4_o1 (.pointer (some ⟨d, 0, none⟩)) (by rfl) (fun w1 hw => exec_nilCheck rfl t19) hHeld (fun a2 e2 => ?_)
  rw [← e2] at h
  have z2 := pz e2 z1
  replace t3 := pk e2 t3
  replace t5 := pk e2 t5
  clear t19
  have t20 := pq e2 z1
  clear e2 z1
  refine tk 2 find4_o2 (.pointer (some ⟨d, 0 + 0, none⟩)) (by rfl) (fun w1 hw => exec_fieldAt rfl t20 (fg_98_0 _ _ _)) hHeld (fun a3 e3 => ?_)
  rw [← e3] at h
  have z3 := pz e3 z2
  replace t3 := pk e3 t3
  replace t5 := pk e3 t5
  clear t20
  have t21 := pq e3 z2
  clear e3 z2
  refine tk 3 find4_o3 (.slice (some ⟨nb, no, none⟩) n c) (by rfl) (fun w1 hw => exec_load rfl t21 (G1 _ hw)) hHeld (fun a4 e4 => ?_)
  rw [← e4] at h
  have z4 := pz e4 z3
  replace t3 := pk e4 t3
  replace t5 := pk e4 t5
  clear t21
  have t22 := pq e4 z3
  clear e4 z3
  refine tk 4 find4_o4 (.int .i64 (i : Int)) (by rfl) (fun w1 hw => exec_move rfl t5) hHeld (fun a5 e5 => ?_)
  rw [← e5] at h
  have z5 := pz e5 z4
  replace t3 := pk e5 t3
  clear t5
  replace t22 := pk e5 t22
  have t23 := pq e5 z4
  clear e5 z4
  refine tk 5 find4_o5 (.pointer (some ⟨nb, no + i * 68, none⟩)) (by rfl) (fun w1 hw => exec_indexAt rfl t22 t23 (G2 _)) hHeld (fun a6 e6 => ?_)
  rw [← e6] at h
  have z6 := pz e6 z5
  replace t3 := pk e6 t3
  clear t22
  clear t23
  have t24 := pq e6 z5
  clear e6 z5
  refine tk 6 find4_o6 (.pointer (some ⟨nb, no + i * 68 + 0, none⟩)) (by rfl) (fun w1 hw => exec_fieldAt rfl t24 (fg_100_0 _ _ _)) hHeld (fun a7 e7 => ?_)
  rw [← e7] at h
  have z7 := pz e7 z6
  replace t3 := pk e7 t3
  clear t24
  have t25 := pq e7 z6
  clear e7 z6
  refine tk 7 find4_o7 (xv) (by rfl) (fun w1 hw => exec_load rfl t25 (G3 _ hw)) hHeld (fun a8 e8 => ?_)
  rw [← e8] at h
  have z8 := pz e8 z7
  replace t3 := pk e8 t3
  clear t25
  have t26 := pq e8 z7
  clear e8 z7
  refine tk 8 find4_o8 (kv) (by rfl) (fun w1 hw => exec_load rfl t3 (G4 _ hw)) hHeld (fun a9 e9 => ?_)
  rw [← e9] at h
  have z9 := pz e9 z8
  clear t3
  replace t26 := pk e9 t26
  have t27 := pq e9 z8
  clear e9 z8
  refine tk 9 find4_o9 (.bool q) (by rfl) (fun w1 hw => exec_binOp rfl t26 t27 (G5 _) (G6 _ hw)) hHeld (fun a10 e10 => ?_)
  rw [← e10] at h
  have z10 := pz e10 z9
  clear t26
  clear t27
  clear e10 z9
  exact wpAnyH_done (by kernel_rfl) (NoPanic.normal (h _ _ (hHeld) rfl)) _
end Go.Proofs.Ytoofljkgdjjllab

namespace Go.Proofs.Ytoofljkgdjjllab
open Go.RowKit
set_option linter.unusedVariables false
set_option linter.unusedSimpArgs false

def named5_o0 : Oper := { dst := some 13, op := Op.move (Operand.tmp 3), type := 30, pos := "law.go:117", after := #[], guard := none }
def named5_o1 : Oper := { dst := some 14, op := Op.move (Operand.tmp 0), type := 22, pos := "law.go:117", after := #[], guard := none }
def named5_o2 : Oper := { dst := some 15, op := Op.move (Operand.tmp 4), type := 3, pos := "law.go:117", after := #[], guard := none }
def named5_o3 : Oper := { dst := some 16, op := Op.indexAddr 22 (Operand.tmp 14) (Operand.tmp 15), type := 0, pos := "law.go:117", after := #[{ on := 1, ground := Ground.data }, { on := 2, ground := Ground.data }], guard := none }
def named5_o4 : Oper := { dst := some 17, op := Op.fieldAddr 57 (Operand.tmp 16) 1, type := 0, pos := "law.go:117", after := #[{ on := 3, ground := Ground.data }], guard := none }
def named5_o5 : Oper := { dst := some 18, op := Op.load 35 (Operand.tmp 17), type := 35, pos := "law.go:117", after := #[{ on := 4, ground := Ground.data }], guard := none }
def named5_o6 : Oper := { dst := some 19, op := Op.move (Operand.tmp 0), type := 22, pos := "law.go:117", after := #[], guard := none }
def named5_o7 : Oper := { dst := some 20, op := Op.move (Operand.tmp 4), type := 3, pos := "law.go:117", after := #[], guard := none }
def named5_o8 : Oper := { dst := some 21, op := Op.indexAddr 22 (Operand.tmp 19) (Operand.tmp 20), type := 0, pos := "law.go:117", after := #[{ on := 6, ground := Ground.data }, { on := 7, ground := Ground.data }], guard := none }
def named5_o9 : Oper := { dst := some 22, op := Op.fieldAddr 57 (Operand.tmp 21) 2, type := 0, pos := "law.go:117", after := #[{ on := 8, ground := Ground.data }], guard := none }
def named5_o10 : Oper := { dst := some 23, op := Op.load 35 (Operand.tmp 22), type := 35, pos := "law.go:117", after := #[{ on := 9, ground := Ground.data }], guard := none }
def named5_o11 : Oper := { dst := some 24, op := Op.buildSlice 30 2 #[(0, Operand.tmp 18), (1, Operand.tmp 23)], type := 30, pos := "law.go:117", after := #[{ on := 5, ground := Ground.data }, { on := 10, ground := Ground.data }], guard := none }
def named5_o12 : Oper := { dst := some 25, op := Op.call { callee := Callee.builtin Builtin.append, args := #[Operand.tmp 13, Operand.tmp 24], argTypes := #[30, 30] }, type := 30, pos := "law.go:117", after := #[{ on := 0, ground := Ground.data }, { on := 11, ground := Ground.data }], guard := none }
def named5_o13 : Oper := { dst := some 3, op := Op.assign (Operand.tmp 25), type := 30, pos := "law.go:117", after := #[{ on := 12, ground := Ground.data }, { on := 12, ground := Ground.chain }, { on := 0, ground := Ground.phase }, { on := 1, ground := Ground.phase }, { on := 2, ground := Ground.phase }, { on := 3, ground := Ground.phase }, { on := 4, ground := Ground.phase }, { on := 5, ground := Ground.phase }, { on := 6, ground := Ground.phase }, { on := 7, ground := Ground.phase }, { on := 8, ground := Ground.phase }, { on := 9, ground := Ground.phase }, { on := 10, ground := Ground.phase }, { on := 11, ground := Ground.phase }, { on := 12, ground := Ground.phase }], guard := none }
def named5_ops : Array Oper := #[named5_o0, named5_o1, named5_o2, named5_o3, named5_o4, named5_o5, named5_o6, named5_o7, named5_o8, named5_o9, named5_o10, named5_o11, named5_o12, named5_o13]
set_option maxRecDepth 100000 in
set_option maxHeartbeats 4000000 in
theorem named5 (b o n c i : Nat) (uv av bv lv rv : Value) (w1 w2 : World) (S : World → Prop) (a : Act) (w : World) (Q : Exit → Act → World → Prop) (hsz : a.tmps.size = 27)
    (t0 : a.tmps.getD 0 undef = .slice (some ⟨b, o, none⟩) n c)
    (t3 : a.tmps.getD 3 undef = uv)
    (t4 : a.tmps.getD 4 undef = .int .i64 (i : Int))
    (h0 : S w.drew) (S1 : S w1) (S2 : S w2) (EB : (Instr.buildSlice 30 2 #[(0, av), (1, bv)]).run Try.prog w.drew = .ok lv w1) (EA : (Builtin.append_ #[30, 30] 30 #[uv, lv]).run Try.prog w1 = .ok rv w2)
    (G1 : ∀ W, (Instr.indexAt 22 (.slice (some ⟨b, o, none⟩) n c) (.int .i64 (i : Int))).run Try.prog W = .ok (.pointer (some ⟨b, o + i * 69, none⟩)) W)
    (G2 : ∀ W, S W → (Instr.loadAt 35 (.pointer (some ⟨b, o + i * 69 + 1, none⟩))).run Try.prog W = .ok (av) W)
    (G3 : ∀ W, S W → (Instr.loadAt 35 (.pointer (some ⟨b, o + i * 69 + 34, none⟩))).run Try.prog W = .ok (bv) W)
    (h : ∀ (a' : Act) (w' : World), w' = w2 → a' = ((((((((((((((a).put (some 13) (uv)).put (some 14) (.slice (some ⟨b, o, none⟩) n c)).put (some 15) (.int .i64 (i : Int))).put (some 16) (.pointer (some ⟨b, o + i * 69, none⟩))).put (some 17) (.pointer (some ⟨b, o + i * 69 + 1, none⟩))).put (some 18) (av)).put (some 19) (.slice (some ⟨b, o, none⟩) n c)).put (some 20) (.int .i64 (i : Int))).put (some 21) (.pointer (some ⟨b, o + i * 69, none⟩))).put (some 22) (.pointer (some ⟨b, o + i * 69 + 34, none⟩))).put (some 23) (bv)).put (some 24) (lv)).put (some 25) (rv)).put (some 3) (rv) → Q .normal a' w') :
    (Code.region 5 named5_ops true).wp Try.prog Q a w := by
  refine wp_region_noPanic ?_
  refine wp_region_held_drew (S := fun w' => S w') (by kernel_rfl) (h0) (fun hHeld => ?_)
  refine tk 0 named5_o0 (uv) (by rfl) (fun w1 hw => exec_move rfl t3) hHeld (fun a1 e1 => ?_)
  rw [← e1] at h
  have z1 := pz e1 hsz
  replace t0 := pk e1 t0
  clear t3
  replace t4 := pk e1 t4
  have t13 := pq e1 hsz
  clear e1 hsz
  refine tk 1 named5_o1 (.slice (some ⟨b, o, none⟩) n c) (by rfl) (fun w1 hw => exec_move rfl t0) hHeld (fun a2 e2 => ?_)
  rw [← e2] at h
  have z2 := pz e2 z1
  replace t0 := pk e2 t0
  replace t4 := pk e2 t4
  replace t13 := pk e2 t13
  have t14 := pq e2 z1
  clear e2 z1
  refine tk 2 named5_o2 (.int .i64 (i : Int)) (by rfl) (fun w1 hw => exec_move rfl t4) hHeld (fun a3 e3 => ?_)
  rw [← e3] at h
  have z3 := pz e3 z2
  replace t0 := pk e3 t0
  replace t4 := pk e3 t4
  replace t13 := pk e3 t13
  replace t14 := pk e3 t14
  have t15 := pq e3 z2
  clear e3 z2
  refine tk 3 named5_o3 (.pointer (some ⟨b, o + i * 69, none⟩)) (by rfl) (fun w1 hw => exec_indexAt rfl t14 t15 (G1 _)) hHeld (fun a4 e4 => ?_)
  rw [← e4] at h
  have z4 := pz e4 z3
  replace t0 := pk e4 t0
  replace t4 := pk e4 t4
  replace t13 := pk e4 t13
  clear t14
  clear t15
  have t16 := pq e4 z3
  clear e4 z3
  refine tk 4 named5_o4 (.pointer (some ⟨b, o + i * 69 + 1, none⟩)) (by rfl) (fun w1 hw => exec_fieldAt rfl t16 (fg_57_1 _ _ _)) hHeld (fun a5 e5 => ?_)
  rw [← e5] at h
  have z5 := pz e5 z4
  replace t0 := pk e5 t0
  replace t4 := pk e5 t4
  replace t13 := pk e5 t13
  clear t16
  have t17 := pq e5 z4
  clear e5 z4
  refine tk 5 named5_o5 (av) (by rfl) (fun w1 hw => exec_load rfl t17 (G2 _ hw)) hHeld (fun a6 e6 => ?_)
  rw [← e6] at h
  have z6 := pz e6 z5
  replace t0 := pk e6 t0
  replace t4 := pk e6 t4
  replace t13 := pk e6 t13
  clear t17
  have t18 := pq e6 z5
  clear e6 z5
  refine tk 6 named5_o6 (.slice (some ⟨b, o, none⟩) n c) (by rfl) (fun w1 hw => exec_move rfl t0) hHeld (fun a7 e7 => ?_)
  rw [← e7] at h
  have z7 := pz e7 z6
  clear t0
  replace t4 := pk e7 t4
  replace t13 := pk e7 t13
  replace t18 := pk e7 t18
  have t19 := pq e7 z6
  clear e7 z6
  refine tk 7 named5_o7 (.int .i64 (i : Int)) (by rfl) (fun w1 hw => exec_move rfl t4) hHeld (fun a8 e8 => ?_)
  rw [← e8] at h
  have z8 := pz e8 z7
  clear t4
  replace t13 := pk e8 t13
  replace t18 := pk e8 t18
  replace t19 := pk e8 t19
  have t20 := pq e8 z7
  clear e8 z7
  refine tk 8 named5_o8 (.pointer (some ⟨b, o + i * 69, none⟩)) (by rfl) (fun w1 hw => exec_indexAt rfl t19 t20 (G1 _)) hHeld (fun a9 e9 => ?_)
  rw [← e9] at h
  have z9 := pz e9 z8
  replace t13 := pk e9 t13
  replace t18 := pk e9 t18
  clear t19
  clear t20
  have t21 := pq e9 z8
  clear e9 z8
  refine tk 9 named5_o9 (.pointer (some ⟨b, o + i * 69 + 34, none⟩)) (by rfl) (fun w1 hw => exec_fieldAt rfl t21 (fg_57_2 _ _ _)) hHeld (fun a10 e10 => ?_)
  rw [← e10] at h
  have z10 := pz e10 z9
  replace t13 := pk e10 t13
  replace t18 := pk e10 t18
  clear t21
  have t22 := pq e10 z9
  clear e10 z9
  refine tk 10 named5_o10 (bv) (by rfl) (fun w1 hw => exec_load rfl t22 (G3 _ hw)) hHeld (fun a11 e11 => ?_)
  rw [← e11] at h
  have z11 := pz e11 z10
  replace t13 := pk e11 t13
  replace t18 := pk e11 t18
  clear t22
  have t23 := pq e11 z10
  clear e11 z10
  refine wpAnyH_ready (rs := [11]) (by kernel_rfl) (by simp) ?_
  refine AllReadyH.cons (o := named5_o11) rfl (fun K hK => ?_) AllReadyH.nil
  skip
  have X := exec_buildSlice2 (P := Try.prog) (a := a11) (o := named5_o11) rfl t18 t23 EB
  rw [if_pos (by rfl), Oper.wp, X]
  show K _ _
  clear X
  refine hK.out _ _ (S1) (fun hHeld => ?_)
  clear hK K
  change wpAnyH _ _ _ _ _ _ _ (a11.put (some 24) (lv)) _
  obtain ⟨a12, e12⟩ : ∃ act, act = a11.put (some 24) (lv) := ⟨_, rfl⟩
  rw [← e12] at h ⊢
  have z12 := pz e12 z11
  replace t13 := pk e12 t13
  clear t18
  clear t23
  have t24 := pq e12 z11
  clear e12 z11
  refine wpAnyH_ready (rs := [12]) (by kernel_rfl) (by simp) ?_
  refine AllReadyH.cons (o := named5_o12) rfl (fun K hK => ?_) AllReadyH.nil
  skip
  have X := exec_append (P := Try.prog) (a := a12) (o := named5_o12) rfl t13 t24 EA
  rw [if_pos (by rfl), Oper.wp, X]
  show K _ _
  clear X
  refine hK.out _ _ (S2) (fun hHeld => ?_)
  clear hK K
  change wpAnyH _ _ _ _ _ _ _ (a12.put (some 25) (rv)) _
  obtain ⟨a13, e13⟩ : ∃ act, act = a12.put (some 25) (rv) := ⟨_, rfl⟩
  rw [← e13] at h ⊢
  have z13 := pz e13 z12
  clear t13
  clear t24
  have t25 := pq e13 z12
  clear e13 z12
  refine tk 13 named5_o13 (rv) (by rfl) (fun w1 hw => exec_assign rfl t25) hHeld (fun a14 e14 => ?_)
  rw [← e14] at h
  have z14 := pz e14 z13
  clear t25
  clear e14 z13
  exact wpAnyH_done (by kernel_rfl) (NoPanic.normal (h _ _ (rfl) rfl)) _
end Go.Proofs.Ytoofljkgdjjllab

namespace Go.Proofs.Ytoofljkgdjjllab
open Go.RowKit
set_option linter.unusedVariables false
set_option linter.unusedSimpArgs false

/-- The Ids that calls name. -/
def pairs (L : List OpV) : List IdK := L.flatMap fun o => [o.id, o.under]
def namedL (L : List OpV) : List IdK := zId :: pairs L
theorem pairs_app (L M : List OpV) : pairs (L ++ M) = pairs L ++ pairs M := by simp [pairs]
theorem pairs_len : ∀ L : List OpV, (pairs L).length = 2 * L.length
  | [] => rfl
  | x :: L => by
    have := pairs_len L
    simp only [pairs, List.flatMap_cons, List.length_append, List.length_cons, List.length_nil] at this ⊢
    omega
theorem namedL_ok {L : List OpV} (h : ∀ x ∈ L, x.ok) : ∀ y ∈ namedL L, y.ok := by
  intro y hy
  rcases List.mem_cons.1 hy with rfl | hy
  · exact zId_ok
  · obtain ⟨o, ho, hm⟩ := List.mem_flatMap.1 hy
    simp at hm
    rcases hm with rfl | rfl
    · exact (h o ho).id
    · exact (h o ho).under
theorem own_lit1 (w : World) (x : IdK) (hx : x.ok) : OwnI (w.alloc (.cells x.c.toArray 35)) w.heap.size (.slice (some ⟨w.heap.size, 0, none⟩) 1 1) [x] := by
  have l := IdK.len hx
  refine ⟨by simp [flatI, l], Or.inr ⟨w.heap.size, 1, x.c.toArray, rfl, Nat.le_refl _, heap_alloc_new _ _, by simp, by unfold maxLen; omega, by simp [l], ?_⟩⟩
  rw [List.length_cons, List.length_nil, List.toList_toArray, List.take_of_length_le (by omega)]
  simp [flatI]
theorem below_grown {w w' : World} {B : Nat} {v : Value} {L : List IdK} (own : OwnI w B v L) (hB : B ≤ w.heap.size) (g : w.grownBy w' v.ownBlock) : Below B w w' :=
  ⟨g.os, g.tape, g.output, g.size, fun j hj => g.block j (Nat.lt_of_lt_of_le hj hB) (fun e => by have := (own.ge j e.symm).1; omega)⟩
set_option maxRecDepth 100000 in
set_option maxHeartbeats 2000000 in
theorem named_any (a : Option Addr) (c : Nat) (L : List OpV) (w : World) (hL : RowAt 69 OpV.c w a L) (ok : ∀ x ∈ L, x.ok) (hn : L.length ≤ 1256584717422) :
    Calls Try.prog 16 #[.slice a L.length c] w fun e w' => ∃ v, e = .returned v ∧ OwnI w' w.heap.size v (namedL L) ∧ Below w.heap.size w w' := by
  obtain ⟨n, hnn⟩ : ∃ n, L.length = n := ⟨_, rfl⟩
  have HNn := hidMk hnn
  have HLn := hidMk hn
  rw [hnn]
  clear hnn hn
  go_enter Try.func16, Try.ntmps16
  have ebs : Hid ((Instr.buildSlice 30 1 #[(0, zId.v)]).run Try.prog w = .ok (.slice (some ⟨w.heap.size, 0, none⟩) 1 1) (w.alloc (.cells zId.c.toArray 35))) := run_bsI zId zId_ok w
  have own1 := own_lit1 w zId zId_ok
  have bel1 : Below w.heap.size w (w.alloc (.cells zId.c.toArray 35)) := (Below.refl _ _).alloc (Nat.le_refl _) _
  go_wp2_with (first
    | (refine wpList_val rfl (exec_build0 rfl (build_id _)) ?_)
    | (refine wpList_run rfl (exec_buildSlice (t := 30) (n := 1) (xv := zId.v) (v := .slice (some ⟨w.heap.size, 0, none⟩) 1 1) rfl rfl ebs.out) ?_)
    | fail)
  generalize w.alloc (.cells zId.c.toArray 35) = w1 at *
  generalize Value.slice (some ⟨w.heap.size, 0, none⟩) 1 1 = v1 at *
  go_loopw [3, 4] (fun v3 v4 wr => ∃ i : Nat, v4 = .int .i64 (i : Int) ∧ i ≤ n ∧ OwnI wr w.heap.size v3 (namedL (L.take i)) ∧ Below w.heap.size w wr) (fun v3 v4 wr => n - (match v4 with | .int _ i => i.toNat | _ => 0))
  case atStart => exact ⟨0, rfl, Nat.zero_le _, own1, bel1⟩
  case round =>
    clear own1 bel1 ebs
    obtain ⟨i, rfl, hin, own, bel⟩ := hrel
    have hLn := HNn.out
    by_cases hi : i < n
    · have hxi : L[i]? = some L[i] := List.getElem?_eq_getElem (by omega)
      generalize L[i] = x at hxi
      have hxo : x.ok := ok x (List.mem_of_getElem? hxi)
      obtain ⟨b, o, rfl, lb, hr⟩ : ∃ b o, a = some ⟨b, o, none⟩ ∧ b < w.heap.size ∧ w.rangeAt b (o + i * 69) x.c := by
        rcases hL with rfl | ⟨b, o, e, h1, h2⟩
        · simp at hxi
        · exact ⟨b, o, e, h1, h2 i x hxi⟩
      have hbig := HLn.out
      have HR := hidMk (fun (W : World) (bb : Below w.heap.size w W) => rangeAt_keep hr (bb.block _ lb))
      obtain ⟨u, wu, eu, ⟨au, cu, rfl, iu⟩, lu⟩ := bs2_id x.id x.under hxo.id hxo.under wr.drew
      have beld : Below w.heap.size w wr.drew := bel.drew
      have belu : Below w.heap.size w wu := beld.trans (lu.mono beld.size)
      have ownd : OwnI wr.drew w.heap.size u3 (namedL (L.take i)) := own
      have ownu := ownd.below lu
      have htl : (L.take i).length = i := by simp; omega
      have hnl : (namedL (L.take i)).length = 1 + 2 * i := by rw [namedL, List.length_cons, pairs_len, htl]; omega
      obtain ⟨v3', wv, eap, own3, g3, _⟩ := run_appI wu w.heap.size u3 (namedL (L.take i)) au [x.id, x.under] cu ownu iu (by
        intro y hy
        simp at hy
        rcases hy with rfl | rfl
        · exact hxo.id
        · exact hxo.under) (by rw [hnl]; simp; omega) belu.size
      have belv : Below w.heap.size w wv := belu.trans (below_grown ownu belu.size g3)
      have hnext : namedL (L.take i) ++ [x.id, x.under] = namedL (L.take (i + 1)) := by
        rw [List.take_add_one, hxi]
        show zId :: (pairs (L.take i) ++ [x.id, x.under]) = zId :: pairs (L.take i ++ [x])
        rw [pairs_app]
        rfl
      rw [hnext] at own3
      have HO := hidMk own3
      clear own3 hnext hnl htl hxi own ownd ownu g3
      go_upto_region 5 with fail
      refine named5 b o n c i u3 x.id.v x.under.v (.slice au 2 cu) v3' wu wv (fun wx => Below w.heap.size w wx) _ wr _ rfl rfl rfl rfl beld belu belv eu eap ?_ ?_ ?_ ?_
      · exact fun W => ix_op hi (by omega) W
      · exact fun W hw => op_id hxo (HR.out W hw)
      · exact fun W hw => op_under hxo (HR.out W hw)
      intro a' w' hw' ha
      subst hw' ha
      simp only [Act.put, List.setIfInBounds_toArray, List.set_cons_zero, List.set_cons_succ]
      go_wp2
      rw [show ((i : Int) + 1) = ((i + 1 : Nat) : Int) by omega]
      refine ⟨⟨i + 1, rfl, hi, HO.out, belv⟩, ?_⟩
      show n - ((i + 1 : Nat) : Int).toNat < n - (i : Int).toNat
      omega
    · obtain rfl : i = n := by omega
      rw [List.take_of_length_le (by omega)] at own
      have HO := hidMk own
      clear own hLn hin hi
      go_wp2
      go_ret
      exact ⟨_, rfl, HO.out, bel⟩
end Go.Proofs.Ytoofljkgdjjllab

namespace Go.Proofs.Ytoofljkgdjjllab
open Go.RowKit
set_option linter.unusedVariables false
set_option linter.unusedSimpArgs false

/-- What a tree tells (the program's and the document's alike): by its six calls, in whatever world comes behind w0. -/
structure Tells (w0 : World) (tv : Value) (f : Fn) (D : List IdK) (cl cw ck cu ci cd : Nat) : Prop where
  len : ∀ W, Below w0.heap.size w0 W → Calls Try.prog cl #[tv] W fun e w' => e = .returned (.int .i64 (D.length : Int)) ∧ Below W.heap.size W w'
  walk : ∀ W, Below w0.heap.size w0 W → Calls Try.prog cw #[tv] W fun e w' => ∃ v L, e = .returned v ∧ IdsIs L w' v ∧ IsWalk f L ∧ Below W.heap.size W w'
  kids : ∀ k : IdK, k.ok → ∀ W, Below w0.heap.size w0 W → Calls Try.prog ck #[tv, k.v] W fun e w' => ∃ v L, e = .returned v ∧ IdsIs L w' v ∧ IsKids f k L ∧ Below W.heap.size W w'
  under : ∀ k : IdK, k.ok → ∀ W, Below w0.heap.size w0 W → Calls Try.prog cu #[tv, k.v] W fun e w' => e = .returned (.tuple #[(nd f k).u.v, .string (nd f k).key, .bool ((f k).isSome && !(nd f k).pr)]) ∧ Below W.heap.size W w'
  live : ∀ k : IdK, k.ok → ∀ W, Below w0.heap.size w0 W → Calls Try.prog ci #[tv, k.v] W fun e w' => ∃ b, e = .returned (.bool b) ∧ LiveIs f k b ∧ Below W.heap.size W w'
  deep : ∀ k : IdK, k.ok → ∀ W, Below w0.heap.size w0 W → Calls Try.prog cd #[tv, k.v] W fun e w' => ∃ d, e = .returned (.int .i64 d) ∧ DeepIs f k d ∧ Below W.heap.size W w'
theorem own_is {w : World} {base : Nat} {v : Value} {L : List IdK} (h : OwnI w base v L) (ok : ∀ x ∈ L, x.ok) : IdsIs L w v := by
  obtain ⟨a, c, e, h2, _⟩ := h.open ok
  exact ⟨a, c, e, h2⟩
theorem walk_ok {f : Fn} {D L : List IdK} (hD : Dom f D) (h : IsWalk f L) : ∀ x ∈ L, x.ok := fun x hx => hD.ok x ((hD.mem x).2 (h.there x hx))
theorem tells_own {B : Nat} {w : World} {s : Tr} {H : List Rec} {f : Fn} (h : Own B w s H f) {D : List IdK} (hD : Dom f D) (hl : D.length ≤ 2600000000000) :
    Tells w (.pointer (some ⟨s.t, 0, none⟩)) f D 12 13 19 14 15 18 := {
  len := fun W b => len_own (h.below b) hD
  walk := fun W b => (walk_own (h.below b) hD hl).mono fun e w' ⟨v, L, h1, h2, h3, h4⟩ => ⟨v, L, h1, own_is h2 (walk_ok hD h3), h3, h4⟩
  kids := fun k hk W b => (kids_own (h.below b) hD hl k hk).mono fun e w' ⟨v, L, h1, h2, h3, h4⟩ => ⟨v, L, h1, own_is h2 h3.ok, h3, h4⟩
  under := fun k hk W b => under_own (h.below b) k hk
  live := fun k hk W b => live_own (h.below b) hD hl k hk
  deep := fun k hk W b => deep_own (h.below b) hD hl k hk }
theorem und_none {k x : IdK} : ¬ Und (fun _ => none) k x := by rintro ⟨n, h, _⟩; cases h
theorem kids_empty (k : IdK) : IsKids (fun _ => none) k [] := kids_no (fun y => und_none)
theorem walk_empty : IsWalk (fun _ => none) [] := ⟨[], kids_empty _, .nil⟩
theorem is_nil (w : World) : IdsIs [] w (.slice none 0 0) := ⟨none, 0, rfl, Or.inl rfl⟩
theorem tells_nil (w : World) : Tells w (.pointer none) (fun _ => none) [] 12 13 19 14 15 18 := {
  len := fun W b => len_nil W
  walk := fun W b => (walk_nil W).mono fun e w' ⟨h1, h2⟩ => ⟨_, [], h1, is_nil _, walk_empty, h2⟩
  kids := fun k hk W b => (kids_nil k W).mono fun e w' ⟨h1, h2⟩ => ⟨_, [], h1, is_nil _, kids_empty k, h2⟩
  under := fun k hk W b => under_nil k W
  live := fun k hk W b => (live_nil k.v k rfl W).mono fun e w' ⟨h1, h2⟩ => ⟨_, h1, Or.inl ⟨rfl, rfl⟩, h2⟩
  deep := fun k hk W b => (deep_nil k.v k rfl W).mono fun e w' ⟨h1, h2⟩ => ⟨_, h1, Or.inl ⟨rfl, rfl⟩, h2⟩ }
end Go.Proofs.Ytoofljkgdjjllab

namespace Go.Proofs.Ytoofljkgdjjllab
open Go.RowKit
set_option linter.unusedVariables false
set_option linter.unusedSimpArgs false

/-- A node of the document's tree. -/
def rnC (p : IdK × NodeV) : List Value := p.1.c ++ (p.2.u.c ++ [.string p.2.key, .bool p.2.pr])
structure RnOk (p : IdK × NodeV) : Prop where
  k : p.1.ok
  u : p.2.u.ok
theorem rn_len {p : IdK × NodeV} (h : RnOk p) : (rnC p).length = 68 := by
  have h1 := IdK.len h.k
  have h2 := IdK.len h.u
  simp [rnC, h1, h2]
/-- The document's tree: its block, its nodes. -/
structure RefAt (w : World) (d : Nat) (NL : List (IdK × NodeV)) (pv : Value) : Prop where
  cell : ∃ a c, w.heap[d]? = some (.cells #[.slice a NL.length c, pv] 98 (0, 0)) ∧ RowAt 68 rnC w a NL
  ok : ∀ p ∈ NL, RnOk p
  nd : (NL.map (·.1)).Nodup
theorem RefAt.lt {w : World} {d : Nat} {NL : List (IdK × NodeV)} {pv : Value} (h : RefAt w d NL pv) : d < w.heap.size := by
  obtain ⟨a, c, h1, _⟩ := h.cell
  exact (Array.getElem?_eq_some_iff.1 h1).1
theorem RefAt.below {w w' : World} {d : Nat} {NL : List (IdK × NodeV)} {pv : Value} (h : RefAt w d NL pv) (b : Below w.heap.size w w') : RefAt w' d NL pv := by
  have hl := h.lt
  obtain ⟨a, c, h1, h2⟩ := h.cell
  exact ⟨⟨a, c, (b.block _ hl).trans h1, h2.below b⟩, h.ok, h.nd⟩
/-- Where a node stands. -/
def fPos (NL : List (IdK × NodeV)) (k : IdK) : Int := match M.fnd NL k 0 with | some (j, _) => (j : Int) | none => -1
theorem fnd_first {NL : List (IdK × NodeV)} {k : IdK} : ∀ {j : Nat} {n : NodeV}, NL[j]? = some (k, n) → (∀ i, i < j → ∀ p, NL[i]? = some p → p.1 ≠ k) → M.fnd NL k 0 = some (j, n) := by
  induction NL with
  | nil => intro j n h; simp at h
  | cons p NL ih =>
    intro j n h hb
    unfold M.fnd
    cases j with
    | zero =>
      simp at h
      subst h
      rw [if_pos rfl]
    | succ j =>
      have h0 := hb 0 (by omega) p rfl
      rw [if_neg (fun e => h0 e.symm), M.fnd_shift]
      have := ih (j := j) (n := n) (by simpa using h) (fun i hi q hq => hb (i + 1) (by omega) q (by simpa using hq))
      rw [this]
      simp
theorem fnd_no {NL : List (IdK × NodeV)} {k : IdK} (h : ∀ p ∈ NL, p.1 ≠ k) : M.fnd NL k 0 = none := by
  cases hf : M.fnd NL k 0 with
  | none => rfl
  | some q =>
    obtain ⟨j, n⟩ := q
    exact absurd rfl (h _ (List.mem_of_getElem? (M.fnd_some hf).1))
theorem ix_rn {b o n c i : Nat} (h : i < n) (hn : n ≤ 9223372036854775807) (w : World) : (Instr.indexAt 95 (.slice (some ⟨b, o, none⟩) n c) (.int .i64 (i : Int))).run Try.prog w = .ok (.pointer (some ⟨b, o + i * 68, none⟩)) w := by go_simp
section
variable {w : World} {b o : Nat} {p : IdK × NodeV}
theorem rn_id (hp : RnOk p) (h : w.rangeAt b o (rnC p)) : (Instr.loadAt 35 (.pointer (some ⟨b, o + 0, none⟩))).run Try.prog w = .ok p.1.v w := by
  refine load_id_at hp.k (fun j v hv => ?_)
  have hl := (List.getElem?_eq_some_iff.1 hv).1
  rw [Nat.add_zero]
  exact h j v (by rw [rnC, List.getElem?_append_left hl]; exact hv)
theorem rn_under (hp : RnOk p) (h : w.rangeAt b o (rnC p)) : (Instr.loadAt 35 (.pointer (some ⟨b, o + 33, none⟩))).run Try.prog w = .ok p.2.u.v w := by
  refine load_id_at hp.u (fun j v hv => ?_)
  have hl := (List.getElem?_eq_some_iff.1 hv).1
  have l1 := IdK.len hp.k
  have := h (33 + j) v (by rw [rnC, List.getElem?_append_right (by omega), l1, show 33 + j - 33 = j by omega, List.getElem?_append_left hl]; exact hv)
  rwa [← Nat.add_assoc] at this
theorem rn_key (hp : RnOk p) (h : w.rangeAt b o (rnC p)) : (Instr.loadAt 9 (.pointer (some ⟨b, o + 66, none⟩))).run Try.prog w = .ok (.string p.2.key) w := by
  have l1 := IdK.len hp.k
  have l2 := IdK.len hp.u
  have hc : w.cell? ⟨b, o + 66, none⟩ = some (.string p.2.key) := h 66 _ (by
    rw [rnC, List.getElem?_append_right (by omega), l1, List.getElem?_append_right (by omega), l2]
    rfl)
  go_simp
theorem rn_pr (hp : RnOk p) (h : w.rangeAt b o (rnC p)) : (Instr.loadAt 4 (.pointer (some ⟨b, o + 67, none⟩))).run Try.prog w = .ok (.bool p.2.pr) w := by
  have l1 := IdK.len hp.k
  have l2 := IdK.len hp.u
  have hc : w.cell? ⟨b, o + 67, none⟩ = some (.bool p.2.pr) := h 67 _ (by
    rw [rnC, List.getElem?_append_right (by omega), l1, List.getElem?_append_right (by omega), l2]
    rfl)
  go_simp
end
theorem load_ns {w : World} {b o : Nat} {v : Value} (h : w.cell? ⟨b, o, none⟩ = some v) : (Instr.loadAt 95 (.pointer (some ⟨b, o, none⟩))).run Try.prog w = .ok v w := by go_simp
set_option maxRecDepth 100000 in
set_option maxHeartbeats 2000000 in
theorem find_any (d : Nat) (NL : List (IdK × NodeV)) (pv : Value) (k : IdK) (w : World) (h : RefAt w d NL pv) (hk : k.ok) (hn : NL.length ≤ 1300000000000) :
    Calls Try.prog 54 #[.pointer (some ⟨d, 0, none⟩), k.v] w fun e w' => e = .returned (.int .i64 (fPos NL k)) ∧ Below w.heap.size w w' := by
  have lt := h.lt
  obtain ⟨a, c, hc, hrow⟩ := h.cell
  obtain ⟨n, hnn⟩ : ∃ n, NL.length = n := ⟨_, rfl⟩
  have HNn := hidMk hnn
  have HLn := hidMk hn
  rw [hnn] at hc
  have C0 : w.cell? ⟨d, 0, none⟩ = some (.slice a n c) := by rw [cell_of_row _ _ 0 _ _ _ hc]; rfl
  have HC := hidMk (fun (W : World) (b : Below w.heap.size w W) => (b.cell (p := ⟨d, 0, none⟩) lt).trans C0)
  clear hnn hn hc C0
  unfold IdK.v
  go_enter Try.func54, Try.ntmps54
  obtain ⟨hx, bx, zx⟩ := box_id w k
  have ZX := hidMk zx
  clear zx
  go_upto_region 1 with fail
  generalize w.alloc (.cells k.c.toArray 35) = W at *
  have HX := hidMk (fun (V : World) (b : Below W.heap.size W V) => load_id hk ((b.block _ (by have := ZX.out; omega)).trans hx))
  go_wp2
  go_loopw [5] (fun v5 wr => ∃ i : Nat, v5 = .int .i64 (i : Int) ∧ i ≤ n ∧ (∀ j, j < i → ∀ p, NL[j]? = some p → p.1 ≠ k) ∧ Below W.heap.size W wr) (fun v5 wr => n - (match v5 with | .int _ i => i.toNat | _ => 0))
  case atStart => exact ⟨0, rfl, Nat.zero_le _, fun j hj => (by omega), Below.refl _ _⟩
  case round =>
    obtain ⟨i, rfl, hin, hbf, belW⟩ := hrel
    have bel : Below w.heap.size w wr := bx.trans (belW.mono bx.size)
    have hLn := HNn.out
    have hbig := HLn.out
    have c0 := HC.out wr bel
    by_cases hi : i < n
    · have hxi : NL[i]? = some NL[i] := List.getElem?_eq_getElem (by omega)
      generalize NL[i] = p at hxi
      have hpo := h.ok p (List.mem_of_getElem? hxi)
      obtain ⟨b, o, rfl, lb, hr⟩ : ∃ b o, a = some ⟨b, o, none⟩ ∧ b < w.heap.size ∧ w.rangeAt b (o + i * 68) (rnC p) := by
        rcases hrow with e | ⟨b, o, e, h1, h2⟩
        · rw [e] at hxi; simp at hxi
        · exact ⟨b, o, e, h1, h2 i p hxi⟩
      have HXI := hidMk hxi
      have HB := hidMk hbf
      clear hxi hbf
      go_upto_region 4 with fail
      clear c0
      have beldW : Below W.heap.size W wr.drew := belW.drew
      have bw : ∀ V, Below W.heap.size W V → Below w.heap.size w V := fun V b => bx.trans (b.mono bx.size)
      refine find4 d w.heap.size b o n c i p.1.v k.v (decide (p.1 = k)) (fun V => Below W.heap.size W V) _ wr _ rfl rfl rfl rfl beldW ?_ ?_ ?_ ?_ ?_ ?_ ?_
      · exact fun V hV => load_ns (HC.out V (bw V hV))
      · exact fun V => ix_rn hi (by omega) V
      · exact fun V hV => rn_id hpo (rangeAt_keep hr ((bw V hV).block _ lb))
      · exact fun V hV => HX.out V hV
      · exact fun V => guard_id _ _ p.1 k V _
      · exact fun V hV => eql_id p.1 k hpo.k hk V
      intro a' w' hw' ha
      subst ha
      simp only [Act.put, List.setIfInBounds_toArray, List.set_cons_zero, List.set_cons_succ]
      by_cases e : p.1 = k
      · rw [decide_eq_true e]
        go_wp2
        go_ret
        refine ⟨?_, bw _ hw'⟩
        have hp : p = (k, p.2) := by rw [← e]
        have hx2 := HXI.out
        rw [hp] at hx2
        have := fnd_first hx2 HB.out
        unfold fPos
        rw [this]
        rfl
      · rw [decide_eq_false e]
        go_wp2
        rw [show ((i : Int) + 1) = ((i + 1 : Nat) : Int) by omega]
        refine ⟨⟨i + 1, rfl, hi, fun j hj q hq => ?_, hw'⟩, ?_⟩
        · by_cases ej : j = i
          · subst ej
            rw [HXI.out] at hq
            cases hq
            exact e
          · exact HB.out j (by omega) q hq
        · show n - ((i + 1 : Nat) : Int).toNat < n - (i : Int).toNat
          omega
    · obtain rfl : i = n := by omega
      have hno : M.fnd NL k 0 = none := fnd_no (fun p hp => by
        obtain ⟨j, hj⟩ := List.getElem?_of_mem hp
        exact hbf j (by have := (List.getElem?_eq_some_iff.1 hj).1; omega) p hj)
      have HNO := hidMk hno
      clear hno hbf hLn hin hi
      go_wp2
      go_ret
      exact ⟨by unfold fPos; rw [HNO.out]; rfl, bel⟩
end Go.Proofs.Ytoofljkgdjjllab

namespace Go.Proofs.Ytoofljkgdjjllab
open Go.RowKit
set_option linter.unusedVariables false
set_option linter.unusedSimpArgs false

theorem fPos_none {NL : List (IdK × NodeV)} {k : IdK} (h : lookN NL k = none) : fPos NL k = -1 := by
  unfold fPos
  cases hf : M.fnd NL k 0 with
  | none => rfl
  | some q => unfold lookN M.look at h; rw [hf] at h; cases h
theorem fPos_some {NL : List (IdK × NodeV)} {k : IdK} {n : NodeV} (h : lookN NL k = some n) : ∃ j : Nat, fPos NL k = (j : Int) ∧ NL[j]? = some (k, n) ∧ j < NL.length := by
  unfold fPos
  unfold lookN M.look at h
  cases hf : M.fnd NL k 0 with
  | none => rw [hf] at h; cases h
  | some q =>
    obtain ⟨j, m⟩ := q
    rw [hf] at h
    cases h
    have := M.fnd_some hf
    exact ⟨j, rfl, this.1, this.2⟩
section
variable (d : Nat) (NL : List (IdK × NodeV)) (pv : Value)
set_option maxRecDepth 100000 in
set_option maxHeartbeats 2000000 in
theorem rlen_any (w : World) (h : RefAt w d NL pv) : Calls Try.prog 33 #[.pointer (some ⟨d, 0, none⟩)] w fun e w' => e = .returned (.int .i64 (NL.length : Int)) ∧ Below w.heap.size w w' := by
  obtain ⟨a, c, hc, _⟩ := h.cell
  have C0 : w.cell? ⟨d, 0, none⟩ = some (.slice a NL.length c) := by rw [cell_of_row _ _ 0 _ _ _ hc]; rfl
  clear hc
  generalize NL.length = n at *
  go_enter Try.func33, Try.ntmps33
  go_wp2
  go_ret
  exact ⟨rfl, Below.refl _ _⟩
set_option maxRecDepth 100000 in
set_option maxHeartbeats 2000000 in
theorem rhas_any (k : IdK) (w : World) (h : RefAt w d NL pv) (hk : k.ok) (hn : NL.length ≤ 1300000000000) :
    Calls Try.prog 47 #[.pointer (some ⟨d, 0, none⟩), k.v] w fun e w' => e = .returned (.bool (lookN NL k).isSome) ∧ Below w.heap.size w w' := by
  have HF := hidMk (fun (W : World) (b : Below w.heap.size w W) => find_any d NL pv k W (h.below b) hk hn)
  have hq : (0 ≤ fPos NL k) ↔ (lookN NL k).isSome = true := by
    cases hl : lookN NL k with
    | none => rw [fPos_none hl]; simp
    | some n => obtain ⟨j, e, _⟩ := fPos_some hl; rw [e]; simp
  generalize fPos NL k = z at *
  have hz : decide (0 ≤ z) = (lookN NL k).isSome := by rw [Bool.eq_iff_iff, decide_eq_true_eq]; exact hq
  generalize (lookN NL k).isSome = r at *
  clear hq
  unfold IdK.v
  go_enter Try.func47, Try.ntmps47
  obtain ⟨hx, bx, zx⟩ := box_id w k
  have ZX := hidMk zx
  have HZ := hidMk hz
  clear zx hz
  go_upto_region 1 with fail
  generalize w.alloc (.cells k.c.toArray 35) = W at *
  have HL := hidMk (load_id hk hx)
  go_wp2_with (first
    | (refine wpList_val rfl (exec_load (t := 35) (u := .pointer (some ⟨w.heap.size, 0, none⟩)) rfl rfl HL.out) ?_)
    | (go_at_call 54; refine (HF.out _ bx).mono ?_; rintro e w1 ⟨rfl, b1⟩)
    | fail)
  go_ret
  refine ⟨?_, bx.trans (b1.mono bx.size)⟩
  rw [← HZ.out]
  simp
end
end Go.Proofs.Ytoofljkgdjjllab

namespace Go.Proofs.Ytoofljkgdjjllab
open Go.RowKit
set_option linter.unusedVariables false
set_option linter.unusedSimpArgs false

abbrev RN := IdK × NodeV
def zRn : RN := (zId, zNode)
theorem zRn_ok : RnOk zRn := ⟨zId_ok, zId_ok⟩
theorem rn_one (p : RN) : ∀ v ∈ rnC p, v.oneCell' = true := by
  intro v hv
  simp only [rnC, List.mem_append, List.mem_cons, List.not_mem_nil, or_false] at hv
  rcases hv with h | h | rfl | rfl
  · exact IdK.one _ v h
  · exact IdK.one _ v h
  · rfl
  · rfl
def RnsAt (w : World) (a : Option Addr) (L : List RN) : Prop := L = [] ∨ ∃ b off, a = some ⟨b, off, none⟩ ∧ b < w.heap.size ∧ ∀ i h, L[i]? = some h → w.rangeAt b (off + 68 * i) (rnC h)
theorem RnsAt.below {w w' : World} {a : Option Addr} {L : List RN} (h : RnsAt w a L) (hb : Below w.heap.size w w') : RnsAt w' a L := by
  rcases h with h | ⟨b, off, e, hl, hr⟩
  · exact .inl h
  · exact .inr ⟨b, off, e, Nat.lt_of_lt_of_le hl hb.size, fun i x hx => rangeAt_keep (hr i x hx) (hb.block b hl)⟩
/-- Nodes, cell by cell. -/
def flatN (L : List RN) : List Value := L.flatMap rnC
theorem flatN_len : ∀ {L : List RN}, (∀ h ∈ L, RnOk h) → (flatN L).length = 68 * L.length
  | [], _ => rfl
  | x :: L, ok => by
    have := flatN_len (L := L) (fun h hh => ok h (by simp [hh]))
    simp only [flatN, List.flatMap_cons, List.length_append, rn_len (ok x (by simp)), List.length_cons] at this ⊢
    omega
theorem flatN_get : ∀ {L : List RN}, (∀ h ∈ L, RnOk h) → ∀ {i : Nat} {h : RN}, L[i]? = some h → ∀ {j : Nat} {v : Value}, (rnC h)[j]? = some v → (flatN L)[68 * i + j]? = some v
  | x :: L, ok, 0, h, hi, j, v, hj => by
    simp only [List.getElem?_cons_zero, Option.some.injEq] at hi
    subst hi
    have hl := (List.getElem?_eq_some_iff.1 hj).1
    rw [Nat.mul_zero, Nat.zero_add, flatN, List.flatMap_cons, List.getElem?_append_left hl]
    exact hj
  | x :: L, ok, i + 1, h, hi, j, v, hj => by
    simp only [List.getElem?_cons_succ] at hi
    have := flatN_get (L := L) (fun h hh => ok h (by simp [hh])) hi hj
    have l := rn_len (ok x (by simp))
    rw [flatN, List.flatMap_cons, List.getElem?_append_right (by omega), l, show 68 * (i + 1) + j - 68 = 68 * i + j by omega]
    exact this
  | [], _, i, h, hi, _, _, _ => by simp at hi
theorem flatN_inv : ∀ {L : List RN}, (∀ h ∈ L, RnOk h) → ∀ {p : Nat} {u : Value}, (flatN L)[p]? = some u → ∃ i h j, p = 68 * i + j ∧ L[i]? = some h ∧ (rnC h)[j]? = some u
  | [], _, p, u, hp => by simp [flatN] at hp
  | x :: L, ok, p, u, hp => by
    have l := rn_len (ok x (by simp))
    rw [flatN, List.flatMap_cons, List.getElem?_append] at hp
    by_cases h : p < (rnC x).length
    · rw [if_pos h] at hp
      exact ⟨0, x, p, by omega, rfl, hp⟩
    · rw [if_neg h] at hp
      obtain ⟨i, y, j, e, hi, hj⟩ := flatN_inv (L := L) (fun h hh => ok h (by simp [hh])) hp
      exact ⟨i + 1, y, j, by omega, hi, hj⟩
theorem flatN_one (L : List RN) : ∀ u ∈ flatN L, u.oneCell' = true := by
  intro u hu
  simp only [flatN, List.mem_flatMap] at hu
  obtain ⟨h, _, hv⟩ := hu
  exact rn_one h u hv
theorem flatN_app (L M : List RN) : flatN (L ++ M) = flatN L ++ flatN M := by simp [flatN]
/-- A row of nodes of the call's own. -/
def OwnN (w : World) (base : Nat) (v : Value) (L : List RN) : Prop := w.ownsRow base 100 68 v L.length (flatN L)
theorem OwnN.below {w w' : World} {base : Nat} {v : Value} {L : List RN} (h : OwnN w base v L) (hb : Below w.heap.size w w') : OwnN w' base v L := by
  refine ⟨h.1, ?_⟩
  rcases h.2 with hn | ⟨g, cap, cur, rfl, hbg, hg, rest⟩
  · exact .inl hn
  · exact .inr ⟨g, cap, cur, rfl, hbg, by rw [hb.block g (Array.getElem?_eq_some_iff.1 hg).1]; exact hg, rest⟩
theorem OwnN.keep {w w' : World} {base : Nat} {v : Value} {L : List RN} (h : OwnN w base v L) (hk : ∀ k, v.ownBlock = some k → w'.heap[k]? = w.heap[k]?) : OwnN w' base v L := by
  refine ⟨h.1, ?_⟩
  rcases h.2 with hn | ⟨g, cap, cur, rfl, hbg, hg, rest⟩
  · exact .inl hn
  · exact .inr ⟨g, cap, cur, rfl, hbg, by rw [hk g rfl]; exact hg, rest⟩
theorem OwnN.open {w : World} {base : Nat} {v : Value} {L : List RN} (h : OwnN w base v L) (ok : ∀ h ∈ L, RnOk h) : ∃ a c, v = .slice a L.length c ∧ RnsAt w a L ∧ L.length ≤ c := by
  rcases h.2 with ⟨rfl, hn⟩ | ⟨g, cap, cur, rfl, hbg, hg, hnc, hcm, hcs, htake⟩
  · obtain rfl : L = [] := List.eq_nil_of_length_eq_zero hn
    exact ⟨none, 0, rfl, .inl rfl, Nat.le_refl _⟩
  · refine ⟨some ⟨g, 0, none⟩, cap, rfl, .inr ⟨g, 0, rfl, (Array.getElem?_eq_some_iff.1 hg).1, fun i x hx j u hj => ?_⟩, hnc⟩
    have e := flatN_get ok hx hj
    rw [Nat.zero_add, cell_of_row w g _ cur 100 (0, 0) hg]
    rw [← htake, List.getElem?_take] at e
    split at e
    · simpa using e
    · cases e
theorem infoN : (Try.prog.info? 100).map (fun i => (i.zero, i.size, i.bytes)) = some (some (.agg (rnC zRn).toArray), 68, 104) := by kernel_rfl
theorem zcellsN : (Value.agg (rnC zRn).toArray).cells.size = 68 := by
  show (rnC zRn).toArray.size = 68
  rw [List.size_toArray, rn_len zRn_ok]
theorem run_appN (w : World) (base : Nat) (v : Value) (L : List RN) (a : Option Addr) (M : List RN) (c : Nat) (hown : OwnN w base v L) (hb : RnsAt w a M) (ok : ∀ h ∈ M, RnOk h) (h : L.length + M.length ≤ 2000000000000) (hbase : base ≤ w.heap.size) :
    ∃ v' w', (Builtin.append_ #[95, 95] 95 #[v, .slice a M.length c]).run Try.prog w = .ok v' w' ∧ OwnN w' base v' (L ++ M) ∧ w.grownBy w' v.ownBlock ∧ (v'.ownBlock = v.ownBlock ∨ v'.ownBlock = some w.heap.size) := by
  obtain ⟨i, hi, hz, hs, hby⟩ := info_parts infoN
  cases a with
  | some ad =>
    have hnews : ∀ j u, (flatN M)[j]? = some u → w.cell? (ad.add j) = some u := fun j u hj => by
      rcases hb with rfl | ⟨b, off, e, _, hc⟩
      · simp [flatN] at hj
      · cases e
        obtain ⟨k, x, r, rfl, hx, hr⟩ := flatN_inv ok hj
        rw [Addr.add_mid, ← Nat.add_assoc]
        exact hc k x hx r u hr
    obtain ⟨v', w', hr, h2, h3, h5⟩ := app_at (P := Try.prog) w base 95 95 100 i _ 68 104 Try.underlying95 hi hz hs hby zcellsN (by decide) v L.length (flatN L) hown ad M.length c (flatN M) (by rw [flatN_len ok, Nat.mul_comm]) hnews (flatN_one M) (by unfold maxLen; omega) (by omega) hbase
    refine ⟨v', w', hr, ?_, h3, h5⟩
    unfold OwnN
    rw [List.length_append, flatN_app]
    exact h2
  | none =>
    obtain rfl : M = [] := by
      rcases hb with rfl | ⟨b, off, e, _⟩
      · rfl
      · cases e
    rcases hown.2 with ⟨rfl, hn⟩ | ⟨g, cap, cur, rfl, hbg, hg, hnc, rest⟩
    · refine ⟨.slice none 0 0, w, ?_, by rw [List.append_nil]; exact hown, ⟨rfl, rfl, rfl, Nat.le_refl _, fun _ _ _ => rfl⟩, .inl rfl⟩
      simp [Builtin.append_, run_underlying Try.underlying95, sizeOf, typeInfo, hi, Builtin.lenOf, Builtin.firstCells, loadCells, loadCellsFrom]
    · refine ⟨.slice (some ⟨g, 0, none⟩) L.length cap, w, ?_, by rw [List.append_nil]; exact hown, ⟨rfl, rfl, rfl, Nat.le_refl _, fun _ _ _ => rfl⟩, .inl rfl⟩
      simp [Builtin.append_, run_underlying Try.underlying95, sizeOf, typeInfo, hi, Builtin.lenOf, Builtin.firstCells, hnc, storeCells]
theorem rns_lit (w : World) (h : RN) (t : TypeId) : RnsAt (w.alloc (.cells (rnC h).toArray t)) (some ⟨w.heap.size, 0, none⟩) [h] :=
  .inr ⟨w.heap.size, 0, rfl, by simp, fun i x hx j v hj => by
    have hl := (List.getElem?_eq_some_iff.1 hx).1
    obtain rfl : i = 0 := by simp at hl; omega
    simp at hx
    subst hx
    rw [Nat.mul_zero, Nat.add_zero, Nat.zero_add]
    exact cell_new w (rnC h) t j v hj⟩
theorem run_bsN (h : RN) (ok : RnOk h) (w : World) : (Instr.buildSlice 95 1 #[(0, .agg (rnC h).toArray)]).run Try.prog w = .ok (.slice (some ⟨w.heap.size, 0, none⟩) 1 1) (w.alloc (.cells (rnC h).toArray 100)) := by
  obtain ⟨ie, hi, hz, hs, hby⟩ := info_parts infoN
  refine run_buildSlice w 95 100 1 _ (rnC h).toArray ie _ Try.underlying95 hi hz (by rw [hs]; decide) (by rw [hs]; decide) ?_
  rw [hs]
  have := Go.Great.fill_whole (s := 68) (by decide) [.agg (rnC h).toArray] ((Array.range (1 * 68)).map ((Value.agg (rnC zRn).toArray).cells[· % (Value.agg (rnC zRn).toArray).cells.size]!)) (by intro v hv; simp at hv; subst hv; show (rnC h).toArray.size = 68; rw [List.size_toArray, rn_len ok]) (by simp)
  simpa [Value.cells] using this
section
variable {ops : Array Oper} {rest : List Oper} {o : Oper} {a : Act} {w : World} {Q : Exit → Act → World → Prop} {K : Act → World → Prop} {E : Prop}
theorem wpList_bsN (hg : o.guard = none) (x : Operand) (ho : o.op = .buildSlice 95 1 #[(0, x)]) (h : RN) (ok : RnOk h) (hx : a.eval x = .agg (rnC h).toArray)
    (hK : wpList Try.prog ops Q rest (a.put o.dst (.slice (some ⟨w.heap.size, 0, none⟩) 1 1)) (w.alloc (.cells (rnC h).toArray 100))) : wpList Try.prog ops Q (o :: rest) a w :=
  wpList_plain hg fun _ hK' => by
    unfold Oper.wp
    rw [exec_buildSlice ho hx (run_bsN h ok w)]
    exact hK' _ _ hK
theorem wpList_appN (hg : o.guard = none) (s x : Operand) (ho : o.op = .call { callee := .builtin .append, args := #[s, x], argTypes := #[95, 95] }) (ht : o.type = 95) (base : Nat) (v : Value) (L : List RN) (hs : a.eval s = v) (hown : OwnN w base v L)
    (aa : Option Addr) (m c : Nat) (M : List RN) (hx : a.eval x = .slice aa m c) (hm : M.length = m) (hb : RnsAt w aa M) (ok : ∀ h ∈ M, RnOk h) (hlen : L.length + M.length ≤ 2000000000000) (hbase : base ≤ w.heap.size)
    (h : ∀ v' w', OwnN w' base v' (L ++ M) → w.grownBy w' v.ownBlock → (v'.ownBlock = v.ownBlock ∨ v'.ownBlock = some w.heap.size) → wpList Try.prog ops Q rest (a.put o.dst v') w') : wpList Try.prog ops Q (o :: rest) a w :=
  wpList_plain hg fun _ hK' => by
    subst hm
    obtain ⟨v', w', hr, h2, h3, h4⟩ := run_appN w base v L aa M c hown hb ok hlen hbase
    unfold Oper.wp
    rw [exec_append ho hs hx (by rw [ht]; exact hr)]
    exact hK' _ _ (h v' w' h2 h3 h4)
theorem step_appN (hg : o.guard = none) (s x : Operand) (ho : o.op = .call { callee := .builtin .append, args := #[s, x], argTypes := #[95, 95] }) (ht : o.type = 95) (base : Nat) (v : Value) (L : List RN) (hs : a.eval s = v) (hown : OwnN w base v L)
    (aa : Option Addr) (m c : Nat) (M : List RN) (hx : a.eval x = .slice aa m c) (hm : M.length = m) (hb : RnsAt w aa M) (ok : ∀ h ∈ M, RnOk h) (hlen : L.length + M.length ≤ 2000000000000) (hbase : base ≤ w.heap.size)
    (h : ∀ v' w', OwnN w' base v' (L ++ M) → w.grownBy w' v.ownBlock → (v'.ownBlock = v.ownBlock ∨ v'.ownBlock = some w.heap.size) → K (a.put o.dst v') w') : if Region.wanted o (yielded ops a.tmps) = true then Oper.wp Try.prog o a w K Q else E := by
  subst hm
  obtain ⟨v', w', hr, h2, h3, h4⟩ := run_appN w base v L aa M c hown hb ok hlen hbase
  exact step_run hg (exec_append ho hs hx (by rw [ht]; exact hr)) (h v' w' h2 h3 h4)
end
theorem szRn : (Try.prog.info? 100).map (·.size) = some 68 := by kernel_rfl
theorem OwnN.ge {w : World} {base : Nat} {v : Value} {L : List RN} (h : OwnN w base v L) : ∀ j, v.ownBlock = some j → base ≤ j ∧ ∃ c, w.heap[j]? = some (.cells c 100 (0, 0)) := by
  intro j hj
  rcases h.2 with ⟨rfl, hn⟩ | ⟨g, cap, cur, rfl, hbg, hg, rest⟩
  · cases hj
  · obtain rfl : g = j := by simpa [Value.ownBlock] using hj
    exact ⟨hbg, _, hg⟩
theorem flatN_cons (x : RN) (L : List RN) : flatN (x :: L) = rnC x ++ flatN L := rfl
/-- A row with another Id at one place. -/
theorem own_setN {w : World} {base : Nat} {v : Value} {L : List RN} (own : OwnN w base v L) (ok : ∀ x ∈ L, RnOk x) {i : Nat} (hi : i < L.length) {x : RN} (hx : RnOk x) :
    ∃ g cap, v = .slice (some ⟨g, 0, none⟩) L.length cap ∧ g < w.heap.size ∧ ∃ w', (Instr.storeAt 100 (.pointer (some ⟨g, i * 68, none⟩)) (.agg (rnC x).toArray)).run Try.prog w = .ok () w' ∧ OwnN w' base v (L.set i x) ∧ Tch (fun j => v.ownBlock = some j) w w' ∧ w'.heap.size = w.heap.size := by
  rcases own.2 with ⟨rfl, hn⟩ | ⟨g, cap, cur, rfl, hbg, hg, hnc, hcm, hcs, htake⟩
  · omega
  · rw [Nat.mul_comm i 68]
    refine ⟨g, cap, rfl, (Array.getElem?_eq_some_iff.1 hg).1, w.setRow g (cur.toList.take (68 * i) ++ rnC x ++ cur.toList.drop (68 * i + (rnC x).length)).toArray, ?_, ?_, setRow_tch w g _, by simp [World.setRow]⟩
    · have hlen := rn_len hx
      have hb : 68 * i + 68 ≤ cur.size := by rw [hcs]; omega
      have h := run_storeCells_at Try.prog g (68 * i) 100 (rnC x) 0 cur w hg (by rw [hlen]; omega) (fun v hv => rn_one x v hv)
      rw [Nat.add_zero] at h
      have hs := szRn
      cases hq : Try.prog.info? 100 with
      | none => rw [hq] at hs; simp at hs
      | some ii =>
        rw [hq] at hs
        simp at hs
        have hcz : (rnC x).toArray.size = ii.size := by simp [hlen, hs]
        simp only [Instr.storeAt, Instr.sureAddr, Sem.run_bind, Sem.run_pure, Result.andThen_ok, storeVar, sizeOf, typeInfo, hq, Value.cells]
        simp [typeInfo, hq, hlen, hs, h]
    · have hA : ∃ A y B, L = A ++ y :: B ∧ A.length = i := ⟨L.take i, L[i], L.drop (i + 1), by rw [← List.drop_eq_getElem_cons hi, List.take_append_drop], by simp; omega⟩
      obtain ⟨A, y, B, rfl, hA⟩ := hA
      have okA : ∀ x ∈ A, RnOk x := fun x hx => ok x (by simp [hx])
      have okB : ∀ x ∈ B, RnOk x := fun x hx => ok x (by simp [hx])
      have oky : RnOk y := ok y (by simp)
      have hset : (A ++ y :: B).set i x = A ++ x :: B := by rw [← hA, List.set_append_right _ _ (Nat.le_refl _)]; simp
      rw [hset]
      have hfl : flatN (A ++ x :: B) = flatN A ++ rnC x ++ flatN B := by rw [flatN_app, flatN_cons]; simp
      have hfl' : flatN (A ++ y :: B) = flatN A ++ rnC y ++ flatN B := by rw [flatN_app, flatN_cons]; simp
      rw [hfl'] at htake
      have hlA := flatN_len okA
      have hlB := flatN_len okB
      have l1 := rn_len oky
      have l2 := rn_len hx
      have hlenx : (A ++ x :: B).length = (A ++ y :: B).length := by simp
      refine ⟨?_, Or.inr ⟨g, cap, _, by rw [hlenx], hbg, setRow_heap w g cur _ 100 (0, 0) hg, by rw [hlenx]; exact hnc, hcm, ?_, ?_⟩⟩
      · rw [hfl]; simp only [List.length_append, List.length_cons]; omega
      · rw [← hcs]
        simp only [List.length_append, List.length_cons] at hnc
        have : cur.toList.length = cur.size := by simp
        simp only [List.size_toArray, List.length_append, List.length_take, List.length_drop]
        omega
      · rw [List.toList_toArray, hfl, hlenx]
        refine take_seg htake ?_ (by omega) (by omega)
        simp only [List.length_append, List.length_cons]
        omega
end Go.Proofs.Ytoofljkgdjjllab

namespace Go.Proofs.Ytoofljkgdjjllab
open Go.RowKit
set_option linter.unusedVariables false
set_option linter.unusedSimpArgs false

/-- Values of one cell that lie in memory. -/
def Vals (w : World) (a : Option Addr) (X : List Value) : Prop := X = [] ∨ ∃ b off, a = some ⟨b, off, none⟩ ∧ ∀ j u, X[j]? = some u → w.cell? ⟨b, off + j, none⟩ = some u
/-- A row of the call's own. -/
def OwnV (w : World) (base : Nat) (e : TypeId) (v : Value) (X : List Value) : Prop := w.ownsRow base e 1 v X.length X
theorem Vals.below {w w' : World} {a : Option Addr} {X : List Value} (h : Vals w a X) (hb : Below w.heap.size w w') : Vals w' a X := by
  rcases h with rfl | ⟨b, off, rfl, hc⟩
  · exact .inl rfl
  · exact .inr ⟨b, off, rfl, fun j u hj => (hb.cell (p := ⟨b, off + j, none⟩) (block_lt_of_cell (hc j u hj))).trans (hc j u hj)⟩
theorem OwnV.below {w w' : World} {base : Nat} {e : TypeId} {v : Value} {X : List Value} (h : OwnV w base e v X) (hb : Below w.heap.size w w') : OwnV w' base e v X := by
  refine ⟨h.1, ?_⟩
  rcases h.2 with hn | ⟨g, cap, cur, rfl, hbg, hg, rest⟩
  · exact .inl hn
  · exact .inr ⟨g, cap, cur, rfl, hbg, by rw [hb.block g (Array.getElem?_eq_some_iff.1 hg).1]; exact hg, rest⟩
theorem OwnV.keep {w w' : World} {base : Nat} {e : TypeId} {v : Value} {X : List Value} (h : OwnV w base e v X) (hk : ∀ k, v.ownBlock = some k → w'.heap[k]? = w.heap[k]?) : OwnV w' base e v X := by
  refine ⟨h.1, ?_⟩
  rcases h.2 with hn | ⟨g, cap, cur, rfl, hbg, hg, rest⟩
  · exact .inl hn
  · exact .inr ⟨g, cap, cur, rfl, hbg, by rw [hk g rfl]; exact hg, rest⟩
theorem OwnV.ge {w : World} {base : Nat} {e : TypeId} {v : Value} {X : List Value} (h : OwnV w base e v X) : ∀ j, v.ownBlock = some j → base ≤ j ∧ ∃ c, w.heap[j]? = some (.cells c e (0, 0)) := by
  intro j hj
  rcases h.2 with ⟨rfl, hn⟩ | ⟨g, cap, cur, rfl, hbg, hg, rest⟩
  · cases hj
  · obtain rfl : g = j := by simpa [Value.ownBlock] using hj
    exact ⟨hbg, _, hg⟩
theorem OwnV.open {w : World} {base : Nat} {e : TypeId} {v : Value} {X : List Value} (h : OwnV w base e v X) :
    ∃ a cap, v = .slice a X.length cap ∧ X.length ≤ cap ∧ Vals w a X ∧ (a = none → X = [] ∧ cap = 0) := by
  rcases h.2 with ⟨rfl, hn⟩ | ⟨g, cap, cur, rfl, hbg, hg, hnc, hcm, hcs, htake⟩
  · obtain rfl : X = [] := List.eq_nil_of_length_eq_zero hn
    exact ⟨none, 0, rfl, Nat.le_refl _, .inl rfl, fun _ => ⟨rfl, rfl⟩⟩
  · refine ⟨some ⟨g, 0, none⟩, cap, rfl, hnc, .inr ⟨g, 0, rfl, fun j u hj => ?_⟩, fun h => by cases h⟩
    rw [Nat.zero_add, cell_of_row w g j cur e (0, 0) hg]
    rw [← htake, List.getElem?_take] at hj
    split at hj
    · simpa using hj
    · cases hj
theorem run_appV (T e y : TypeId) (z : Value) (ht : Try.prog.underlying T = some (.slice e)) (hi : (Try.prog.info? e).map (fun i => (i.zero, i.size, i.bytes)) = some (some z, 1, y)) (hy : y = 8 ∨ y = 24) (hz1 : z.cells.size = 1)
    (w : World) (base : Nat) (ty : TypeId) (v : Value) (L : List Value) (a : Option Addr) (M : List Value) (c : Nat) (hown : OwnV w base e v L) (hb : Vals w a M) (h1 : ∀ u ∈ M, u.oneCell' = true)
    (h : L.length + M.length ≤ 2000000000000) (hbase : base ≤ w.heap.size) :
    ∃ v' w', (Builtin.append_ #[T, T] ty #[v, .slice a M.length c]).run Try.prog w = .ok v' w' ∧ OwnV w' base e v' (L ++ M) ∧ w.grownBy w' v.ownBlock ∧ (v'.ownBlock = v.ownBlock ∨ v'.ownBlock = some w.heap.size) := by
  obtain ⟨i, hi, hz, hs, hby⟩ := info_parts hi
  cases a with
  | some ad =>
    have hnews : ∀ j u, M[j]? = some u → w.cell? (ad.add j) = some u := fun j u hj => by
      rcases hb with rfl | ⟨b, off, e, hc⟩
      · simp at hj
      · cases e
        rw [Addr.add_mid]
        exact hc j u hj
    obtain ⟨v', w', hr, h2, h3, h5⟩ := app_at (P := Try.prog) w base T ty e i z 1 y ht hi hz hs hby hz1 (by decide) v L.length L hown ad M.length c M (by omega) hnews h1 (by unfold maxLen; omega) (by rcases hy with rfl | rfl <;> omega) hbase
    refine ⟨v', w', hr, ?_, h3, h5⟩
    unfold OwnV
    rw [List.length_append]
    exact h2
  | none =>
    obtain rfl : M = [] := by
      rcases hb with rfl | ⟨b, off, e, _⟩
      · rfl
      · cases e
    rcases hown.2 with ⟨rfl, hn⟩ | ⟨g, cap, cur, rfl, hbg, hg, hnc, rest⟩
    · refine ⟨.slice none 0 0, w, ?_, by rw [List.append_nil]; exact hown, ⟨rfl, rfl, rfl, Nat.le_refl _, fun _ _ _ => rfl⟩, .inl rfl⟩
      simp [Builtin.append_, run_underlying ht, sizeOf, typeInfo, hi, Builtin.lenOf, Builtin.firstCells, loadCells, loadCellsFrom]
    · refine ⟨.slice (some ⟨g, 0, none⟩) L.length cap, w, ?_, by rw [List.append_nil]; exact hown, ⟨rfl, rfl, rfl, Nat.le_refl _, fun _ _ _ => rfl⟩, .inl rfl⟩
      simp [Builtin.append_, run_underlying ht, sizeOf, typeInfo, hi, Builtin.lenOf, Builtin.firstCells, hnc, storeCells]
end Go.Proofs.Ytoofljkgdjjllab

namespace Go.Proofs.Ytoofljkgdjjllab
open Go.RowKit
set_option linter.unusedVariables false
set_option linter.unusedSimpArgs false

theorem infoSt : (Try.prog.info? 9).map (fun i => (i.zero, i.size, i.bytes)) = some (some (.string ⟨#[]⟩), 1, 16) := by kernel_rfl
theorem infoBo : (Try.prog.info? 4).map (fun i => (i.zero, i.size, i.bytes)) = some (some (.bool false), 1, 1) := by kernel_rfl
theorem infoIn : (Try.prog.info? 3).map (fun i => (i.zero, i.size, i.bytes)) = some (some (.int .i64 0), 1, 8) := by kernel_rfl
theorem run_bsT (T e y : TypeId) (z : Value) (ht : Try.prog.underlying T = some (.slice e)) (hi : (Try.prog.info? e).map (fun i => (i.zero, i.size, i.bytes)) = some (some z, 1, y)) (hz : z.cells.size = 1) (v : Value) (hc : v.cells = #[v]) (w : World) : (Instr.buildSlice T 1 #[(0, v)]).run Try.prog w = .ok (.slice (some ⟨w.heap.size, 0, none⟩) 1 1) (w.alloc (.cells #[v] e)) := by
  obtain ⟨ie, hi, hz0, hs, hby⟩ := info_parts hi
  refine run_buildSlice w T e 1 _ #[v] ie _ ht hi hz0 (by rw [hs]; decide) (by rw [hs]; decide) ?_
  rw [hs]
  have := Go.Great.fill_whole (s := 1) (by decide) [v] ((Array.range (1 * 1)).map (z.cells[· % z.cells.size]!)) (by intro u hu; simp at hu; subst hu; rw [hc]; rfl) (by simp)
  simpa [hc] using this
/-- A row of one-cell values gets one more. -/
theorem run_appT (T e y : TypeId) (z : Value) (ht : Try.prog.underlying T = some (.slice e)) (hi : (Try.prog.info? e).map (fun i => (i.zero, i.size, i.bytes)) = some (some z, 1, y)) (hy : y ≤ 16) (hz1 : z.cells.size = 1)
    (w : World) (base : Nat) (v : Value) (L : List Value) (x : Value) (hown : OwnV w base e v L) (h1 : x.oneCell' = true) (hc : x.cells = #[x]) (h : L.length ≤ 5500000000000) (hbase : base ≤ w.heap.size) :
    ∃ lv v' w1 w', (Instr.buildSlice T 1 #[(0, x)]).run Try.prog w = .ok lv w1 ∧ (Builtin.append_ #[T, T] T #[v, lv]).run Try.prog w1 = .ok v' w' ∧ Below w.heap.size w w1 ∧ OwnV w' base e v' (L ++ [x]) ∧ Tch (fun j => v.ownBlock = some j) w w' ∧ (∀ j, v'.ownBlock = some j → v.ownBlock = some j ∨ w.heap.size ≤ j) := by
  have e1 := run_bsT T e y z ht hi hz1 x hc w
  have b1 : Below w.heap.size w (w.alloc (.cells #[x] e)) := (Below.refl _ _).alloc (Nat.le_refl _) _
  have c1 : (w.alloc (.cells #[x] e)).cell? ⟨w.heap.size, 0, none⟩ = some x := by
    rw [cell_of_row _ _ _ _ _ _ (heap_alloc_new _ _)]; rfl
  generalize w.alloc (.cells #[x] e) = w1 at *
  have z1 := b1.size
  obtain ⟨i, hi2, hz, hs, hby⟩ := info_parts hi
  obtain ⟨v', w', hr, h2, h3, h5⟩ := app_at (P := Try.prog) w1 base T T e i z 1 y ht hi2 hz hs hby hz1 (by decide) v L.length L (hown.below b1) ⟨w.heap.size, 0, none⟩ 1 1 [x] (by rfl) (fun j u hj => by
    have hl := (List.getElem?_eq_some_iff.1 hj).1
    obtain rfl : j = 0 := by simp at hl; omega
    simp at hj
    subst hj
    rw [Addr.add_mid]
    exact c1) (by intro u hu; simp at hu; subst hu; exact h1) (by unfold maxLen; omega) (by
      have : (L.length + 1 + (L.length + 1) / 4 + 192) * y ≤ (L.length + 1 + (L.length + 1) / 4 + 192) * 16 := Nat.mul_le_mul_left _ hy
      omega) (by omega)
  refine ⟨_, v', w1, w', e1, hr, b1, ?_, ?_, fun j hj => ?_⟩
  · unfold OwnV
    rw [List.length_append]
    exact h2
  · exact Tch.trans ⟨b1.os, b1.tape, b1.output, b1.size, fun j hj _ => b1.block j hj⟩ ⟨h3.os, h3.tape, h3.output, h3.size, fun j hj hO => h3.block j hj (fun q => hO q.symm)⟩
  · rcases h5 with q | q
    · exact Or.inl (by rw [← q]; exact hj)
    · rw [q] at hj; simp at hj; exact Or.inr (by omega)
/-- What is told, as lists. -/
structure TellV where
  n : Nat
  wk : List IdK
  un : List IdK
  ks : List ByteArray
  is : List Bool
  dp : List Int
def inV (z : Int) : Value := .int .i64 z
/-- What is told, in memory: six cells. -/
structure TS (B N : Nat) (w : World) (a b c d e : Value) (T : TellV) : Prop where
  wk : OwnI w B a T.wk
  un : OwnI w N b T.un
  ks : OwnV w N 9 c (T.ks.map Value.string)
  is : OwnV w N 4 d (T.is.map Value.bool)
  dp : OwnV w N 3 e (T.dp.map inV)
  wl : ∀ j, a.ownBlock = some j → j < N
section
variable {B N : Nat} {w w' : World} {a b c d e : Value} {T : TellV}
theorem TS.keep {Q : Nat → Prop} (h : TS B N w a b c d e T) (t : Tch Q w w') (hQ : ∀ j, (a.ownBlock = some j ∨ b.ownBlock = some j ∨ c.ownBlock = some j ∨ d.ownBlock = some j ∨ e.ownBlock = some j) → ¬ Q j) : TS B N w' a b c d e T := by
  have lt : ∀ {e : TypeId} {j : Nat}, (∃ c, w.heap[j]? = some (.cells c e (0, 0))) → j < w.heap.size := fun ⟨c, hc⟩ => (Array.getElem?_eq_some_iff.1 hc).1
  exact ⟨h.wk.keep fun j hj => t.block j (lt (h.wk.ge j hj).2) (hQ j (Or.inl hj)), h.un.keep fun j hj => t.block j (lt (h.un.ge j hj).2) (hQ j (Or.inr (Or.inl hj))), h.ks.keep fun j hj => t.block j (lt (h.ks.ge j hj).2) (hQ j (Or.inr (Or.inr (Or.inl hj)))), h.is.keep fun j hj => t.block j (lt (h.is.ge j hj).2) (hQ j (Or.inr (Or.inr (Or.inr (Or.inl hj))))), h.dp.keep fun j hj => t.block j (lt (h.dp.ge j hj).2) (hQ j (Or.inr (Or.inr (Or.inr (Or.inr hj))))), h.wl⟩
theorem TS.below (h : TS B N w a b c d e T) (bl : Below w.heap.size w w') : TS B N w' a b c d e T :=
  h.keep (Q := fun _ => False) ⟨bl.os, bl.tape, bl.output, bl.size, fun k hk _ => bl.block k hk⟩ fun _ _ q => q
end
section
variable {B N : Nat} {w : World} {a b c d e n0 : Value} {T : TellV} {bx : Nat} (hx : w.heap[bx]? = some (.cells #[n0, a, b, c, d, e] 49 (0, 0)))
include hx
theorem tell_cell2 : w.cell? ⟨bx, 2, none⟩ = some b := by rw [cell_of_row _ _ 2 _ _ _ hx]; rfl
theorem tell_cell3 : w.cell? ⟨bx, 3, none⟩ = some c := by rw [cell_of_row _ _ 3 _ _ _ hx]; rfl
theorem tell_cell4 : w.cell? ⟨bx, 4, none⟩ = some d := by rw [cell_of_row _ _ 4 _ _ _ hx]; rfl
theorem tell_cell5 : w.cell? ⟨bx, 5, none⟩ = some e := by rw [cell_of_row _ _ 5 _ _ _ hx]; rfl
theorem tell_set2 (u : Value) : (w.setCell ⟨bx, 2, none⟩ u).heap[bx]? = some (.cells #[n0, a, u, c, d, e] 49 (0, 0)) := by
  obtain ⟨hl, hv⟩ := Array.getElem?_eq_some_iff.1 hx
  simp [World.setCell, hl, Array.getElem_modify_self, hv]
theorem tell_set3 (u : Value) : (w.setCell ⟨bx, 3, none⟩ u).heap[bx]? = some (.cells #[n0, a, b, u, d, e] 49 (0, 0)) := by
  obtain ⟨hl, hv⟩ := Array.getElem?_eq_some_iff.1 hx
  simp [World.setCell, hl, Array.getElem_modify_self, hv]
theorem tell_set4 (u : Value) : (w.setCell ⟨bx, 4, none⟩ u).heap[bx]? = some (.cells #[n0, a, b, c, u, e] 49 (0, 0)) := by
  obtain ⟨hl, hv⟩ := Array.getElem?_eq_some_iff.1 hx
  simp [World.setCell, hl, Array.getElem_modify_self, hv]
theorem tell_set5 (u : Value) : (w.setCell ⟨bx, 5, none⟩ u).heap[bx]? = some (.cells #[n0, a, b, c, d, u] 49 (0, 0)) := by
  obtain ⟨hl, hv⟩ := Array.getElem?_eq_some_iff.1 hx
  simp [World.setCell, hl, Array.getElem_modify_self, hv]
theorem tell_store2 (p : Option Addr) (m q : Nat) : (Instr.storeAt 30 (.pointer (some ⟨bx, 2, none⟩)) (.slice p m q)).run Try.prog w = .ok () (w.setCell ⟨bx, 2, none⟩ (.slice p m q)) := by
  have hc := tell_cell2 hx
  have hf := frozen_of_row w bx 2 _ _ hx
  go_simp
theorem tell_store3 (p : Option Addr) (m q : Nat) : (Instr.storeAt 45 (.pointer (some ⟨bx, 3, none⟩)) (.slice p m q)).run Try.prog w = .ok () (w.setCell ⟨bx, 3, none⟩ (.slice p m q)) := by
  have hc := tell_cell3 hx
  have hf := frozen_of_row w bx 3 _ _ hx
  go_simp
theorem tell_store4 (p : Option Addr) (m q : Nat) : (Instr.storeAt 46 (.pointer (some ⟨bx, 4, none⟩)) (.slice p m q)).run Try.prog w = .ok () (w.setCell ⟨bx, 4, none⟩ (.slice p m q)) := by
  have hc := tell_cell4 hx
  have hf := frozen_of_row w bx 4 _ _ hx
  go_simp
theorem tell_store5 (p : Option Addr) (m q : Nat) : (Instr.storeAt 47 (.pointer (some ⟨bx, 5, none⟩)) (.slice p m q)).run Try.prog w = .ok () (w.setCell ⟨bx, 5, none⟩ (.slice p m q)) := by
  have hc := tell_cell5 hx
  have hf := frozen_of_row w bx 5 _ _ hx
  go_simp
/-- The struct's own block is none of the rows'. -/
theorem tell_not {X : List Value} {v : Value} {t : TypeId} (h : OwnV w N t v X) (ht : t ≠ 49) : v.ownBlock ≠ some bx := by
  intro q
  obtain ⟨_, cc, hc⟩ := h.ge bx q
  rw [hx] at hc
  simp at hc
  exact ht hc.2.symm
theorem tell_notI {X : List IdK} {v : Value} {M : Nat} (h : OwnI w M v X) : v.ownBlock ≠ some bx := by
  intro q
  obtain ⟨_, cc, hc⟩ := h.ge bx q
  rw [hx] at hc
  simp at hc
end
theorem tell_apart {N : Nat} {w : World} {t t' : TypeId} {v v' : Value} {X X' : List Value} (h : OwnV w N t v X) (h' : OwnV w N t' v' X') (ht : t ≠ t') {j : Nat} (q : v.ownBlock = some j) : v'.ownBlock ≠ some j := by
  intro q'
  obtain ⟨_, c, hc⟩ := h.ge j q
  obtain ⟨_, c', hc'⟩ := h'.ge j q'
  rw [hc] at hc'
  simp at hc'
  exact ht hc'.2
theorem tell_apartI {N M : Nat} {w : World} {t' : TypeId} {v v' : Value} {X : List IdK} {X' : List Value} (h : OwnI w M v X) (h' : OwnV w N t' v' X') (ht : t' ≠ 35) {j : Nat} (q : v.ownBlock = some j) : v'.ownBlock ≠ some j := by
  intro q'
  obtain ⟨_, c, hc⟩ := h.ge j q
  obtain ⟨_, c', hc'⟩ := h'.ge j q'
  rw [hc] at hc'
  simp at hc'
  exact ht hc'.2.symm
theorem set_tch0 (w : World) (d k : Nat) (u : Value) : Tch (fun j => j = d) w (w.setCell ⟨d, k, none⟩ u) := by
  have b := (Below.refl 0 w).setCell (p := ⟨d, k, none⟩) (Nat.zero_le _) u
  exact ⟨b.os, b.tape, b.output, b.size, fun j hj hn => Below.heap_setCell _ _ _ _ hn⟩
/-- One more in row 3. -/
theorem tell_more3 {B N : Nat} {w : World} {a b c d e n0 : Value} {T : TellV} {bx : Nat} (hx : w.heap[bx]? = some (.cells #[n0, a, b, c, d, e] 49 (0, 0))) (h : TS B N w a b c d e T) (hN : N ≤ w.heap.size) (hl : T.ks.length ≤ 5500000000000) (x : ByteArray) :
    ∃ lv q w1 w2 w3, (Instr.buildSlice 45 1 #[(0, .string x)]).run Try.prog w = .ok lv w1 ∧ (Builtin.append_ #[45, 45] 45 #[c, lv]).run Try.prog w1 = .ok q w2 ∧ (Instr.storeAt 45 (.pointer (some ⟨bx, 3, none⟩)) q).run Try.prog w2 = .ok () w3 ∧ Below w.heap.size w w1 ∧ w3.heap[bx]? = some (.cells #[n0, a, b, q, d, e] 49 (0, 0)) ∧ TS B N w3 a b q d e { T with ks := T.ks ++ [x] } ∧ Tch (fun j => j = bx ∨ N ≤ j) w w2 ∧ Tch (fun j => j = bx ∨ N ≤ j) w w3 := by
  obtain ⟨lv, q, w1, w2, e1, e2, b1, own2, t2, o2⟩ := run_appT 45 9 16 _ Try.underlying45 infoSt (by decide) rfl w N c _ (.string x) h.ks rfl rfl (by rw [List.length_map]; exact hl) hN
  have lt : ∀ {e : TypeId} {j : Nat}, (∃ c, w.heap[j]? = some (.cells c e (0, 0))) → j < w.heap.size := fun ⟨c, hc⟩ => (Array.getElem?_eq_some_iff.1 hc).1
  have hx2 := (t2.block bx (Array.getElem?_eq_some_iff.1 hx).1 (tell_not hx h.ks (by decide))).trans hx
  obtain ⟨ap, cp, eq, _⟩ := own2.open
  have es := tell_store3 hx2 ap (T.ks.map Value.string ++ [Value.string x]).length cp
  rw [← eq] at es
  have ts := set_tch0 w2 bx 3 q
  have own2' : OwnV (w2.setCell ⟨bx, 3, none⟩ q) N 9 q ((T.ks ++ [x]).map Value.string) := by
    rw [List.map_append]
    exact own2.keep fun j hj => ts.block j (by obtain ⟨_, c, q⟩ := own2.ge j hj; exact (Array.getElem?_eq_some_iff.1 q).1) (fun e => tell_not hx2 own2 (by decide) (by rw [← e]; exact hj))
  replace own2 := own2'
  have K : ∀ j, j < w.heap.size → j ≠ bx → ¬ c.ownBlock = some j → (w2.setCell ⟨bx, 3, none⟩ q).heap[j]? = w.heap[j]? := fun j lj h1 h2 => (ts.block j (Nat.lt_of_lt_of_le lj t2.size) h1).trans (t2.block j lj h2)
  have tt2 : Tch (fun j => j = bx ∨ N ≤ j) w w2 := t2.mono fun j _ hj => Or.inr (h.ks.ge j hj).1
  refine ⟨lv, q, w1, w2, _, e1, e2, es, b1, tell_set3 hx2 q, ⟨h.wk.keep fun j hj => K j (lt (h.wk.ge j hj).2) (fun e => tell_notI hx h.wk (by rw [← e]; exact hj)) (fun q => tell_apartI h.wk h.ks (by decide) hj q), h.un.keep fun j hj => K j (lt (h.un.ge j hj).2) (fun e => tell_notI hx h.un (by rw [← e]; exact hj)) (fun q => tell_apartI h.un h.ks (by decide) hj q), own2, h.is.keep fun j hj => K j (lt (h.is.ge j hj).2) (fun e => tell_not hx h.is (by decide) (by rw [← e]; exact hj)) (fun q => tell_apart h.ks h.is (by decide) q hj), h.dp.keep fun j hj => K j (lt (h.dp.ge j hj).2) (fun e => tell_not hx h.dp (by decide) (by rw [← e]; exact hj)) (fun q => tell_apart h.ks h.dp (by decide) q hj), h.wl⟩, tt2, tt2.trans (ts.mono fun j _ e => Or.inl e)⟩
/-- One more in row 4. -/
theorem tell_more4 {B N : Nat} {w : World} {a b c d e n0 : Value} {T : TellV} {bx : Nat} (hx : w.heap[bx]? = some (.cells #[n0, a, b, c, d, e] 49 (0, 0))) (h : TS B N w a b c d e T) (hN : N ≤ w.heap.size) (hl : T.is.length ≤ 5500000000000) (x : Bool) :
    ∃ lv q w1 w2 w3, (Instr.buildSlice 46 1 #[(0, .bool x)]).run Try.prog w = .ok lv w1 ∧ (Builtin.append_ #[46, 46] 46 #[d, lv]).run Try.prog w1 = .ok q w2 ∧ (Instr.storeAt 46 (.pointer (some ⟨bx, 4, none⟩)) q).run Try.prog w2 = .ok () w3 ∧ Below w.heap.size w w1 ∧ w3.heap[bx]? = some (.cells #[n0, a, b, c, q, e] 49 (0, 0)) ∧ TS B N w3 a b c q e { T with is := T.is ++ [x] } ∧ Tch (fun j => j = bx ∨ N ≤ j) w w2 ∧ Tch (fun j => j = bx ∨ N ≤ j) w w3 := by
  obtain ⟨lv, q, w1, w2, e1, e2, b1, own2, t2, o2⟩ := run_appT 46 4 1 _ Try.underlying46 infoBo (by decide) rfl w N d _ (.bool x) h.is rfl rfl (by rw [List.length_map]; exact hl) hN
  have lt : ∀ {e : TypeId} {j : Nat}, (∃ c, w.heap[j]? = some (.cells c e (0, 0))) → j < w.heap.size := fun ⟨c, hc⟩ => (Array.getElem?_eq_some_iff.1 hc).1
  have hx2 := (t2.block bx (Array.getElem?_eq_some_iff.1 hx).1 (tell_not hx h.is (by decide))).trans hx
  obtain ⟨ap, cp, eq, _⟩ := own2.open
  have es := tell_store4 hx2 ap (T.is.map Value.bool ++ [Value.bool x]).length cp
  rw [← eq] at es
  have ts := set_tch0 w2 bx 4 q
  have own2' : OwnV (w2.setCell ⟨bx, 4, none⟩ q) N 4 q ((T.is ++ [x]).map Value.bool) := by
    rw [List.map_append]
    exact own2.keep fun j hj => ts.block j (by obtain ⟨_, c, q⟩ := own2.ge j hj; exact (Array.getElem?_eq_some_iff.1 q).1) (fun e => tell_not hx2 own2 (by decide) (by rw [← e]; exact hj))
  replace own2 := own2'
  have K : ∀ j, j < w.heap.size → j ≠ bx → ¬ d.ownBlock = some j → (w2.setCell ⟨bx, 4, none⟩ q).heap[j]? = w.heap[j]? := fun j lj h1 h2 => (ts.block j (Nat.lt_of_lt_of_le lj t2.size) h1).trans (t2.block j lj h2)
  have tt2 : Tch (fun j => j = bx ∨ N ≤ j) w w2 := t2.mono fun j _ hj => Or.inr (h.is.ge j hj).1
  refine ⟨lv, q, w1, w2, _, e1, e2, es, b1, tell_set4 hx2 q, ⟨h.wk.keep fun j hj => K j (lt (h.wk.ge j hj).2) (fun e => tell_notI hx h.wk (by rw [← e]; exact hj)) (fun q => tell_apartI h.wk h.is (by decide) hj q), h.un.keep fun j hj => K j (lt (h.un.ge j hj).2) (fun e => tell_notI hx h.un (by rw [← e]; exact hj)) (fun q => tell_apartI h.un h.is (by decide) hj q), h.ks.keep fun j hj => K j (lt (h.ks.ge j hj).2) (fun e => tell_not hx h.ks (by decide) (by rw [← e]; exact hj)) (fun q => tell_apart h.is h.ks (by decide) q hj), own2, h.dp.keep fun j hj => K j (lt (h.dp.ge j hj).2) (fun e => tell_not hx h.dp (by decide) (by rw [← e]; exact hj)) (fun q => tell_apart h.is h.dp (by decide) q hj), h.wl⟩, tt2, tt2.trans (ts.mono fun j _ e => Or.inl e)⟩
/-- One more in row 5. -/
theorem tell_more5 {B N : Nat} {w : World} {a b c d e n0 : Value} {T : TellV} {bx : Nat} (hx : w.heap[bx]? = some (.cells #[n0, a, b, c, d, e] 49 (0, 0))) (h : TS B N w a b c d e T) (hN : N ≤ w.heap.size) (hl : T.dp.length ≤ 5500000000000) (x : Int) :
    ∃ lv q w1 w2 w3, (Instr.buildSlice 47 1 #[(0, .int .i64 x)]).run Try.prog w = .ok lv w1 ∧ (Builtin.append_ #[47, 47] 47 #[e, lv]).run Try.prog w1 = .ok q w2 ∧ (Instr.storeAt 47 (.pointer (some ⟨bx, 5, none⟩)) q).run Try.prog w2 = .ok () w3 ∧ Below w.heap.size w w1 ∧ w3.heap[bx]? = some (.cells #[n0, a, b, c, d, q] 49 (0, 0)) ∧ TS B N w3 a b c d q { T with dp := T.dp ++ [x] } ∧ Tch (fun j => j = bx ∨ N ≤ j) w w2 ∧ Tch (fun j => j = bx ∨ N ≤ j) w w3 := by
  obtain ⟨lv, q, w1, w2, e1, e2, b1, own2, t2, o2⟩ := run_appT 47 3 8 _ Try.underlying47 infoIn (by decide) rfl w N e _ (.int .i64 x) h.dp rfl rfl (by rw [List.length_map]; exact hl) hN
  have lt : ∀ {e : TypeId} {j : Nat}, (∃ c, w.heap[j]? = some (.cells c e (0, 0))) → j < w.heap.size := fun ⟨c, hc⟩ => (Array.getElem?_eq_some_iff.1 hc).1
  have hx2 := (t2.block bx (Array.getElem?_eq_some_iff.1 hx).1 (tell_not hx h.dp (by decide))).trans hx
  obtain ⟨ap, cp, eq, _⟩ := own2.open
  have es := tell_store5 hx2 ap (T.dp.map inV ++ [Value.int .i64 x]).length cp
  rw [← eq] at es
  have ts := set_tch0 w2 bx 5 q
  have own2' : OwnV (w2.setCell ⟨bx, 5, none⟩ q) N 3 q ((T.dp ++ [x]).map inV) := by
    rw [List.map_append]
    exact own2.keep fun j hj => ts.block j (by obtain ⟨_, c, q⟩ := own2.ge j hj; exact (Array.getElem?_eq_some_iff.1 q).1) (fun e => tell_not hx2 own2 (by decide) (by rw [← e]; exact hj))
  replace own2 := own2'
  have K : ∀ j, j < w.heap.size → j ≠ bx → ¬ e.ownBlock = some j → (w2.setCell ⟨bx, 5, none⟩ q).heap[j]? = w.heap[j]? := fun j lj h1 h2 => (ts.block j (Nat.lt_of_lt_of_le lj t2.size) h1).trans (t2.block j lj h2)
  have tt2 : Tch (fun j => j = bx ∨ N ≤ j) w w2 := t2.mono fun j _ hj => Or.inr (h.dp.ge j hj).1
  refine ⟨lv, q, w1, w2, _, e1, e2, es, b1, tell_set5 hx2 q, ⟨h.wk.keep fun j hj => K j (lt (h.wk.ge j hj).2) (fun e => tell_notI hx h.wk (by rw [← e]; exact hj)) (fun q => tell_apartI h.wk h.dp (by decide) hj q), h.un.keep fun j hj => K j (lt (h.un.ge j hj).2) (fun e => tell_notI hx h.un (by rw [← e]; exact hj)) (fun q => tell_apartI h.un h.dp (by decide) hj q), h.ks.keep fun j hj => K j (lt (h.ks.ge j hj).2) (fun e => tell_not hx h.ks (by decide) (by rw [← e]; exact hj)) (fun q => tell_apart h.dp h.ks (by decide) q hj), h.is.keep fun j hj => K j (lt (h.is.ge j hj).2) (fun e => tell_not hx h.is (by decide) (by rw [← e]; exact hj)) (fun q => tell_apart h.dp h.is (by decide) q hj), own2, h.wl⟩, tt2, tt2.trans (ts.mono fun j _ e => Or.inl e)⟩
/-- One more in row 2. -/
theorem tell_more2 {B N : Nat} {w : World} {a b c d e n0 : Value} {T : TellV} {bx : Nat} (hx : w.heap[bx]? = some (.cells #[n0, a, b, c, d, e] 49 (0, 0))) (h : TS B N w a b c d e T) (hN : N ≤ w.heap.size) (hl : T.un.length ≤ 5500000000000) (okU : ∀ x ∈ T.un, x.ok) (x : IdK) (okx : x.ok) :
    ∃ lv q w1 w2 w3, (Instr.buildSlice 30 1 #[(0, x.v)]).run Try.prog w = .ok lv w1 ∧ (Builtin.append_ #[30, 30] 30 #[b, lv]).run Try.prog w1 = .ok q w2 ∧ (Instr.storeAt 30 (.pointer (some ⟨bx, 2, none⟩)) q).run Try.prog w2 = .ok () w3 ∧ Below w.heap.size w w1 ∧ w3.heap[bx]? = some (.cells #[n0, a, q, c, d, e] 49 (0, 0)) ∧ TS B N w3 a q c d e { T with un := T.un ++ [x] } ∧ Tch (fun j => j = bx ∨ N ≤ j) w w2 ∧ Tch (fun j => j = bx ∨ N ≤ j) w w3 := by
  have e1 := run_bsI x okx w
  have i1 := ids_lit w x 35
  have b1 : Below w.heap.size w (w.alloc (.cells x.c.toArray 35)) := (Below.refl _ _).alloc (Nat.le_refl _) _
  generalize w.alloc (.cells x.c.toArray 35) = w1 at *
  have z1 := b1.size
  obtain ⟨q, w2, e2, own2, g2, o2⟩ := run_appI w1 N b T.un _ [x] 1 (h.un.below b1) i1 (by simpa using okx) (by simp; omega) (by omega)
  have t2 : Tch (fun j => b.ownBlock = some j) w w2 := Tch.trans ⟨b1.os, b1.tape, b1.output, b1.size, fun j hj _ => b1.block j hj⟩ ⟨g2.os, g2.tape, g2.output, g2.size, fun j hj hO => g2.block j hj (fun q => hO q.symm)⟩
  have lt : ∀ {e : TypeId} {j : Nat}, (∃ c, w.heap[j]? = some (.cells c e (0, 0))) → j < w.heap.size := fun ⟨c, hc⟩ => (Array.getElem?_eq_some_iff.1 hc).1
  have hx2 := (t2.block bx (Array.getElem?_eq_some_iff.1 hx).1 (tell_notI hx h.un)).trans hx
  have okN : ∀ y ∈ T.un ++ [x], y.ok := fun y hy => by
    rcases List.mem_append.1 hy with q | q
    · exact okU y q
    · simp at q; subst q; exact okx
  obtain ⟨ap, cp, eq, _⟩ := own2.open okN
  have es := tell_store2 hx2 ap (T.un ++ [x]).length cp
  rw [← eq] at es
  have ts := set_tch0 w2 bx 2 q
  have own3 : OwnI (w2.setCell ⟨bx, 2, none⟩ q) N q (T.un ++ [x]) := own2.keep fun j hj => ts.block j (by obtain ⟨_, c, q⟩ := own2.ge j hj; exact (Array.getElem?_eq_some_iff.1 q).1) (fun e => tell_notI hx2 own2 (by rw [← e]; exact hj))
  have K : ∀ j, j < w.heap.size → j ≠ bx → ¬ b.ownBlock = some j → (w2.setCell ⟨bx, 2, none⟩ q).heap[j]? = w.heap[j]? := fun j lj h1 h2 => (ts.block j (Nat.lt_of_lt_of_le lj t2.size) h1).trans (t2.block j lj h2)
  have tt2 : Tch (fun j => j = bx ∨ N ≤ j) w w2 := t2.mono fun j _ hj => Or.inr (h.un.ge j hj).1
  refine ⟨_, q, w1, w2, _, e1, e2, es, b1, tell_set2 hx2 q, ⟨h.wk.keep fun j hj => K j (lt (h.wk.ge j hj).2) (fun e => tell_notI hx h.wk (by rw [← e]; exact hj)) (fun q => by have := (h.un.ge j q).1; have := h.wl j hj; omega), own3, h.ks.keep fun j hj => K j (lt (h.ks.ge j hj).2) (fun e => tell_not hx h.ks (by decide) (by rw [← e]; exact hj)) (fun q => tell_apartI h.un h.ks (by decide) q hj), h.is.keep fun j hj => K j (lt (h.is.ge j hj).2) (fun e => tell_not hx h.is (by decide) (by rw [← e]; exact hj)) (fun q => tell_apartI h.un h.is (by decide) q hj), h.dp.keep fun j hj => K j (lt (h.dp.ge j hj).2) (fun e => tell_not hx h.dp (by decide) (by rw [← e]; exact hj)) (fun q => tell_apartI h.un h.dp (by decide) q hj), h.wl⟩, tt2, tt2.trans (ts.mono fun j _ e => Or.inl e)⟩
end Go.Proofs.Ytoofljkgdjjllab

namespace Go.Proofs.Ytoofljkgdjjllab
open Go.RowKit
set_option linter.unusedVariables false

section
variable {P : Program} {ops : Array Oper} {rest : List Oper} {o : Oper} {a : Act} {w w2 : World} {Q : Exit → Act → World → Prop}
/-- A step of a quiet region that gives a value. -/
theorem qk {v : Value} {d : Nat} (hw : Region.wanted o (yielded ops a.tmps) = true) (hr : (execOp a.eval o).run P w = .ok (.value v) w2) (h : ∀ a', a' = a.put (some d) v → wpList P ops Q rest a' w2) (hd : o.dst = some d := by rfl) : wpList P ops Q (o :: rest) a w :=
  wpList_step fun K hK => by
    rw [if_pos hw]
    unfold Oper.wp
    rw [hr]
    exact hK _ _ (by rw [hd]; exact h _ rfl)
/-- A store. -/
theorem qs (hw : Region.wanted o (yielded ops a.tmps) = true) (hr : (execOp a.eval o).run P w = .ok .skip w2) (h : wpList P ops Q rest a w2) (hd : o.dst = none := by rfl) : wpList P ops Q (o :: rest) a w :=
  wpList_step fun K hK => by
    rw [if_pos hw]
    unfold Oper.wp
    rw [hr]
    exact hK _ _ (by rw [hd]; exact h)
end
end Go.Proofs.Ytoofljkgdjjllab

namespace Go.Proofs.Ytoofljkgdjjllab
open Go.RowKit
set_option linter.unusedVariables false
set_option linter.unusedSimpArgs false

def told6_o0 : Oper := { dst := some 31, op := Op.fieldAddr 49 (Operand.tmp 5) 2, type := 0, pos := "outright.go:175", after := #[], guard := none }
def told6_o1 : Oper := { dst := some 32, op := Op.load 30 (Operand.tmp 31), type := 30, pos := "outright.go:175", after := #[{ on := 0, ground := Ground.data }], guard := none }
def told6_o2 : Oper := { dst := some 33, op := Op.load 35 (Operand.tmp 7), type := 35, pos := "outright.go:175", after := #[], guard := none }
def told6_o3 : Oper := { dst := some 34, op := Op.buildSlice 30 1 #[(0, Operand.tmp 33)], type := 30, pos := "outright.go:175", after := #[{ on := 2, ground := Ground.data }], guard := none }
def told6_o4 : Oper := { dst := some 35, op := Op.call { callee := Callee.builtin Builtin.append, args := #[Operand.tmp 32, Operand.tmp 34], argTypes := #[30, 30] }, type := 30, pos := "outright.go:175", after := #[{ on := 1, ground := Ground.data }, { on := 3, ground := Ground.data }], guard := none }
def told6_o5 : Oper := { dst := some 36, op := Op.fieldAddr 49 (Operand.tmp 5) 2, type := 0, pos := "outright.go:175", after := #[{ on := 0, ground := Ground.phase }, { on := 1, ground := Ground.phase }, { on := 2, ground := Ground.phase }, { on := 3, ground := Ground.phase }, { on := 4, ground := Ground.phase }], guard := none }
def told6_o6 : Oper := { dst := none, op := Op.store 30 (Operand.tmp 36) (Operand.tmp 35), type := 0, pos := "outright.go:175", after := #[{ on := 5, ground := Ground.data }, { on := 4, ground := Ground.data }, { on := 4, ground := Ground.chain }, { on := 0, ground := Ground.phase }, { on := 1, ground := Ground.phase }, { on := 2, ground := Ground.phase }, { on := 3, ground := Ground.phase }, { on := 4, ground := Ground.phase }], guard := none }
def told6_ops : Array Oper := #[told6_o0, told6_o1, told6_o2, told6_o3, told6_o4, told6_o5, told6_o6]
set_option maxRecDepth 100000 in
set_option maxHeartbeats 4000000 in
theorem told6 (bx : Nat) (pu xv ov lv qv : Value) (w w1 w2 w3 : World) (a : Act) (Q : Exit → Act → World → Prop) (hsz : a.tmps.size = 61)
    (t5 : a.tmps.getD 5 undef = .pointer (some ⟨bx, 0, none⟩))
    (t7 : a.tmps.getD 7 undef = pu)
    (GF : ∀ W, (Instr.fieldAt 49 (.pointer (some ⟨bx, 0, none⟩)) 2).run Try.prog W = .ok (.pointer (some ⟨bx, 2, none⟩)) W) (GL : (Instr.loadAt 30 (.pointer (some ⟨bx, 2, none⟩))).run Try.prog w = .ok ov w) (GU : (Instr.loadAt 35 pu).run Try.prog w = .ok xv w)
    (EB : (Instr.buildSlice 30 1 #[(0, xv)]).run Try.prog w = .ok lv w1) (EA : (Builtin.append_ #[30, 30] 30 #[ov, lv]).run Try.prog w1 = .ok qv w2) (ES : (Instr.storeAt 30 (.pointer (some ⟨bx, 2, none⟩)) qv).run Try.prog w2 = .ok () w3)
    (h : ∀ a', a' = ((((((a).put (some 31) (.pointer (some ⟨bx, 2, none⟩))).put (some 32) (ov)).put (some 33) (xv)).put (some 34) (lv)).put (some 35) (qv)).put (some 36) (.pointer (some ⟨bx, 2, none⟩)) → Q .normal a' w3) :
    (Code.region 6 told6_ops false).wp Try.prog Q a w := by
  refine wp_region_list ?_
  change wpList _ _ _ [told6_o0, told6_o1, told6_o2, told6_o3, told6_o4, told6_o5, told6_o6] _ _
  refine qk (by rfl) (exec_fieldAt rfl t5 (GF _)) (fun a0 e0 => ?_)
  rw [← e0] at h
  have z0 := pz e0 hsz
  replace t5 := pk e0 t5
  replace t7 := pk e0 t7
  have t31 := pq e0 hsz
  clear e0 hsz
  refine qk (by rfl) (exec_load rfl t31 GL) (fun a1 e1 => ?_)
  rw [← e1] at h
  have z1 := pz e1 z0
  replace t5 := pk e1 t5
  replace t7 := pk e1 t7
  clear t31
  have t32 := pq e1 z0
  clear e1 z0
  refine qk (by rfl) (exec_load rfl t7 GU) (fun a2 e2 => ?_)
  rw [← e2] at h
  have z2 := pz e2 z1
  replace t5 := pk e2 t5
  replace t32 := pk e2 t32
  clear t7
  have t33 := pq e2 z1
  clear e2 z1
  refine qk (by rfl) (exec_buildSlice rfl t33 EB) (fun a3 e3 => ?_)
  rw [← e3] at h
  have z3 := pz e3 z2
  replace t5 := pk e3 t5
  replace t32 := pk e3 t32
  clear t33
  have t34 := pq e3 z2
  clear e3 z2
  refine qk (by rfl) (exec_append rfl t32 t34 EA) (fun a4 e4 => ?_)
  rw [← e4] at h
  have z4 := pz e4 z3
  replace t5 := pk e4 t5
  clear t32 t34
  have t35 := pq e4 z3
  clear e4 z3
  refine qk (by rfl) (exec_fieldAt rfl t5 (GF _)) (fun a5 e5 => ?_)
  rw [← e5] at h
  have z5 := pz e5 z4
  replace t35 := pk e5 t35
  clear t5
  have t36 := pq e5 z4
  clear e5 z4
  refine qs (by rfl) (exec_store rfl t36 t35 ES) ?_
  exact wpList_nil (h _ rfl)
def told7_o0 : Oper := { dst := some 37, op := Op.fieldAddr 49 (Operand.tmp 5) 3, type := 0, pos := "outright.go:176", after := #[], guard := none }
def told7_o1 : Oper := { dst := some 38, op := Op.load 45 (Operand.tmp 37), type := 45, pos := "outright.go:176", after := #[{ on := 0, ground := Ground.data }], guard := none }
def told7_o2 : Oper := { dst := some 39, op := Op.move (Operand.tmp 8), type := 9, pos := "outright.go:176", after := #[], guard := none }
def told7_o3 : Oper := { dst := some 40, op := Op.buildSlice 45 1 #[(0, Operand.tmp 39)], type := 45, pos := "outright.go:176", after := #[{ on := 2, ground := Ground.data }], guard := none }
def told7_o4 : Oper := { dst := some 41, op := Op.call { callee := Callee.builtin Builtin.append, args := #[Operand.tmp 38, Operand.tmp 40], argTypes := #[45, 45] }, type := 45, pos := "outright.go:176", after := #[{ on := 1, ground := Ground.data }, { on := 3, ground := Ground.data }], guard := none }
def told7_o5 : Oper := { dst := some 42, op := Op.fieldAddr 49 (Operand.tmp 5) 3, type := 0, pos := "outright.go:176", after := #[{ on := 0, ground := Ground.phase }, { on := 1, ground := Ground.phase }, { on := 2, ground := Ground.phase }, { on := 3, ground := Ground.phase }, { on := 4, ground := Ground.phase }], guard := none }
def told7_o6 : Oper := { dst := none, op := Op.store 45 (Operand.tmp 42) (Operand.tmp 41), type := 0, pos := "outright.go:176", after := #[{ on := 5, ground := Ground.data }, { on := 4, ground := Ground.data }, { on := 4, ground := Ground.chain }, { on := 0, ground := Ground.phase }, { on := 1, ground := Ground.phase }, { on := 2, ground := Ground.phase }, { on := 3, ground := Ground.phase }, { on := 4, ground := Ground.phase }], guard := none }
def told7_ops : Array Oper := #[told7_o0, told7_o1, told7_o2, told7_o3, told7_o4, told7_o5, told7_o6]
set_option maxRecDepth 100000 in
set_option maxHeartbeats 4000000 in
theorem told7 (bx : Nat) (xv ov lv qv : Value) (w w1 w2 w3 : World) (a : Act) (Q : Exit → Act → World → Prop) (hsz : a.tmps.size = 61)
    (t5 : a.tmps.getD 5 undef = .pointer (some ⟨bx, 0, none⟩))
    (t8 : a.tmps.getD 8 undef = xv)
    (GF : ∀ W, (Instr.fieldAt 49 (.pointer (some ⟨bx, 0, none⟩)) 3).run Try.prog W = .ok (.pointer (some ⟨bx, 3, none⟩)) W) (GL : (Instr.loadAt 45 (.pointer (some ⟨bx, 3, none⟩))).run Try.prog w = .ok ov w)
    (EB : (Instr.buildSlice 45 1 #[(0, xv)]).run Try.prog w = .ok lv w1) (EA : (Builtin.append_ #[45, 45] 45 #[ov, lv]).run Try.prog w1 = .ok qv w2) (ES : (Instr.storeAt 45 (.pointer (some ⟨bx, 3, none⟩)) qv).run Try.prog w2 = .ok () w3)
    (h : ∀ a', a' = ((((((a).put (some 37) (.pointer (some ⟨bx, 3, none⟩))).put (some 38) (ov)).put (some 39) (xv)).put (some 40) (lv)).put (some 41) (qv)).put (some 42) (.pointer (some ⟨bx, 3, none⟩)) → Q .normal a' w3) :
    (Code.region 7 told7_ops false).wp Try.prog Q a w := by
  refine wp_region_list ?_
  change wpList _ _ _ [told7_o0, told7_o1, told7_o2, told7_o3, told7_o4, told7_o5, told7_o6] _ _
  refine qk (by rfl) (exec_fieldAt rfl t5 (GF _)) (fun a0 e0 => ?_)
  rw [← e0] at h
  have z0 := pz e0 hsz
  replace t5 := pk e0 t5
  replace t8 := pk e0 t8
  have t37 := pq e0 hsz
  clear e0 hsz
  refine qk (by rfl) (exec_load rfl t37 GL) (fun a1 e1 => ?_)
  rw [← e1] at h
  have z1 := pz e1 z0
  replace t5 := pk e1 t5
  replace t8 := pk e1 t8
  clear t37
  have t38 := pq e1 z0
  clear e1 z0
  refine qk (by rfl) (exec_move rfl t8) (fun a2 e2 => ?_)
  rw [← e2] at h
  have z2 := pz e2 z1
  replace t5 := pk e2 t5
  replace t38 := pk e2 t38
  clear t8
  have t39 := pq e2 z1
  clear e2 z1
  refine qk (by rfl) (exec_buildSlice rfl t39 EB) (fun a3 e3 => ?_)
  rw [← e3] at h
  have z3 := pz e3 z2
  replace t5 := pk e3 t5
  replace t38 := pk e3 t38
  clear t39
  have t40 := pq e3 z2
  clear e3 z2
  refine qk (by rfl) (exec_append rfl t38 t40 EA) (fun a4 e4 => ?_)
  rw [← e4] at h
  have z4 := pz e4 z3
  replace t5 := pk e4 t5
  clear t38 t40
  have t41 := pq e4 z3
  clear e4 z3
  refine qk (by rfl) (exec_fieldAt rfl t5 (GF _)) (fun a5 e5 => ?_)
  rw [← e5] at h
  have z5 := pz e5 z4
  replace t41 := pk e5 t41
  clear t5
  have t42 := pq e5 z4
  clear e5 z4
  refine qs (by rfl) (exec_store rfl t42 t41 ES) ?_
  exact wpList_nil (h _ rfl)
def told8_o0 : Oper := { dst := some 43, op := Op.fieldAddr 49 (Operand.tmp 5) 4, type := 0, pos := "outright.go:177", after := #[], guard := none }
def told8_o1 : Oper := { dst := some 44, op := Op.load 46 (Operand.tmp 43), type := 46, pos := "outright.go:177", after := #[{ on := 0, ground := Ground.data }], guard := none }
def told8_o2 : Oper := { dst := some 45, op := Op.move (Operand.tmp 9), type := 4, pos := "outright.go:177", after := #[], guard := none }
def told8_o3 : Oper := { dst := some 46, op := Op.buildSlice 46 1 #[(0, Operand.tmp 45)], type := 46, pos := "outright.go:177", after := #[{ on := 2, ground := Ground.data }], guard := none }
def told8_o4 : Oper := { dst := some 47, op := Op.call { callee := Callee.builtin Builtin.append, args := #[Operand.tmp 44, Operand.tmp 46], argTypes := #[46, 46] }, type := 46, pos := "outright.go:177", after := #[{ on := 1, ground := Ground.data }, { on := 3, ground := Ground.data }], guard := none }
def told8_o5 : Oper := { dst := some 48, op := Op.fieldAddr 49 (Operand.tmp 5) 4, type := 0, pos := "outright.go:177", after := #[{ on := 0, ground := Ground.phase }, { on := 1, ground := Ground.phase }, { on := 2, ground := Ground.phase }, { on := 3, ground := Ground.phase }, { on := 4, ground := Ground.phase }], guard := none }
def told8_o6 : Oper := { dst := none, op := Op.store 46 (Operand.tmp 48) (Operand.tmp 47), type := 0, pos := "outright.go:177", after := #[{ on := 5, ground := Ground.data }, { on := 4, ground := Ground.data }, { on := 4, ground := Ground.chain }, { on := 0, ground := Ground.phase }, { on := 1, ground := Ground.phase }, { on := 2, ground := Ground.phase }, { on := 3, ground := Ground.phase }, { on := 4, ground := Ground.phase }], guard := none }
def told8_ops : Array Oper := #[told8_o0, told8_o1, told8_o2, told8_o3, told8_o4, told8_o5, told8_o6]
set_option maxRecDepth 100000 in
set_option maxHeartbeats 4000000 in
theorem told8 (bx : Nat) (xv ov lv qv : Value) (w w1 w2 w3 : World) (a : Act) (Q : Exit → Act → World → Prop) (hsz : a.tmps.size = 61)
    (t5 : a.tmps.getD 5 undef = .pointer (some ⟨bx, 0, none⟩))
    (t9 : a.tmps.getD 9 undef = xv)
    (GF : ∀ W, (Instr.fieldAt 49 (.pointer (some ⟨bx, 0, none⟩)) 4).run Try.prog W = .ok (.pointer (some ⟨bx, 4, none⟩)) W) (GL : (Instr.loadAt 46 (.pointer (some ⟨bx, 4, none⟩))).run Try.prog w = .ok ov w)
    (EB : (Instr.buildSlice 46 1 #[(0, xv)]).run Try.prog w = .ok lv w1) (EA : (Builtin.append_ #[46, 46] 46 #[ov, lv]).run Try.prog w1 = .ok qv w2) (ES : (Instr.storeAt 46 (.pointer (some ⟨bx, 4, none⟩)) qv).run Try.prog w2 = .ok () w3)
    (h : ∀ a', a' = ((((((a).put (some 43) (.pointer (some ⟨bx, 4, none⟩))).put (some 44) (ov)).put (some 45) (xv)).put (some 46) (lv)).put (some 47) (qv)).put (some 48) (.pointer (some ⟨bx, 4, none⟩)) → Q .normal a' w3) :
    (Code.region 8 told8_ops false).wp Try.prog Q a w := by
  refine wp_region_list ?_
  change wpList _ _ _ [told8_o0, told8_o1, told8_o2, told8_o3, told8_o4, told8_o5, told8_o6] _ _
  refine qk (by rfl) (exec_fieldAt rfl t5 (GF _)) (fun a0 e0 => ?_)
  rw [← e0] at h
  have z0 := pz e0 hsz
  replace t5 := pk e0 t5
  replace t9 := pk e0 t9
  have t43 := pq e0 hsz
  clear e0 hsz
  refine qk (by rfl) (exec_load rfl t43 GL) (fun a1 e1 => ?_)
  rw [← e1] at h
  have z1 := pz e1 z0
  replace t5 := pk e1 t5
  replace t9 := pk e1 t9
  clear t43
  have t44 := pq e1 z0
  clear e1 z0
  refine qk (by rfl) (exec_move rfl t9) (fun a2 e2 => ?_)
  rw [← e2] at h
  have z2 := pz e2 z1
  replace t5 := pk e2 t5
  replace t44 := pk e2 t44
  clear t9
  have t45 := pq e2 z1
  clear e2 z1
  refine qk (by rfl) (exec_buildSlice rfl t45 EB) (fun a3 e3 => ?_)
  rw [← e3] at h
  have z3 := pz e3 z2
  replace t5 := pk e3 t5
  replace t44 := pk e3 t44
  clear t45
  have t46 := pq e3 z2
  clear e3 z2
  refine qk (by rfl) (exec_append rfl t44 t46 EA) (fun a4 e4 => ?_)
  rw [← e4] at h
  have z4 := pz e4 z3
  replace t5 := pk e4 t5
  clear t44 t46
  have t47 := pq e4 z3
  clear e4 z3
  refine qk (by rfl) (exec_fieldAt rfl t5 (GF _)) (fun a5 e5 => ?_)
  rw [← e5] at h
  have z5 := pz e5 z4
  replace t47 := pk e5 t47
  clear t5
  have t48 := pq e5 z4
  clear e5 z4
  refine qs (by rfl) (exec_store rfl t48 t47 ES) ?_
  exact wpList_nil (h _ rfl)
end Go.Proofs.Ytoofljkgdjjllab

