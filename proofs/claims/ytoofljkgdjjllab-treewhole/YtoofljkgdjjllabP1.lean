import Derived.Test.YtoofljkgdjjllabRg
import Derived.Test.YtoofljkgdjjllabP0
import Derived.Great.BuildSlice
import Derived.Deep.DeepAppendWide
import Derived.Maps.AppendAt
import Derived.OwnWalk
import Derived.Deep.RegionLaw
namespace Go.Proofs.Ytoofljkgdjjllab
open Go.RowKit
set_option linter.unusedVariables false
set_option linter.unusedSimpArgs false

theorem fg_49_4 (b o : Nat) (w : World) : (Instr.fieldAt 49 (.pointer (some ⟨b, o, none⟩)) 4).run Try.prog w = .ok (.pointer (some ⟨b, o + 4, none⟩)) w := by go_simp
theorem fg_49_5 (b o : Nat) (w : World) : (Instr.fieldAt 49 (.pointer (some ⟨b, o, none⟩)) 5).run Try.prog w = .ok (.pointer (some ⟨b, o + 5, none⟩)) w := by go_simp
def grown8_o0 : Oper := { dst := some 22, op := Op.move (Operand.tmp 0), type := 24, pos := "outright.go:19", after := #[], guard := none }
def grown8_o1 : Oper := { dst := some 23, op := Op.move (Operand.tmp 1), type := 22, pos := "outright.go:19", after := #[], guard := none }
def grown8_o2 : Oper := { dst := some 24, op := Op.move (Operand.tmp 6), type := 3, pos := "outright.go:19", after := #[], guard := none }
def grown8_o3 : Oper := { dst := some 25, op := Op.indexAddr 22 (Operand.tmp 23) (Operand.tmp 24), type := 0, pos := "outright.go:19", after := #[{ on := 1, ground := Ground.data }, { on := 2, ground := Ground.data }], guard := none }
def grown8_o4 : Oper := { dst := some 26, op := Op.fieldAddr 57 (Operand.tmp 25) 1, type := 0, pos := "outright.go:19", after := #[{ on := 3, ground := Ground.data }], guard := none }
def grown8_o5 : Oper := { dst := some 27, op := Op.load 35 (Operand.tmp 26), type := 35, pos := "outright.go:19", after := #[{ on := 4, ground := Ground.data }], guard := none }
def grown8_o6 : Oper := { dst := some 28, op := Op.move (Operand.tmp 1), type := 22, pos := "outright.go:19", after := #[], guard := none }
def grown8_o7 : Oper := { dst := some 29, op := Op.move (Operand.tmp 6), type := 3, pos := "outright.go:19", after := #[], guard := none }
def grown8_o8 : Oper := { dst := some 30, op := Op.indexAddr 22 (Operand.tmp 28) (Operand.tmp 29), type := 0, pos := "outright.go:19", after := #[{ on := 6, ground := Ground.data }, { on := 7, ground := Ground.data }], guard := none }
def grown8_o9 : Oper := { dst := some 31, op := Op.fieldAddr 57 (Operand.tmp 30) 2, type := 0, pos := "outright.go:19", after := #[{ on := 8, ground := Ground.data }], guard := none }
def grown8_o10 : Oper := { dst := some 32, op := Op.load 35 (Operand.tmp 31), type := 35, pos := "outright.go:19", after := #[{ on := 9, ground := Ground.data }], guard := none }
def grown8_o11 : Oper := { dst := some 33, op := Op.move (Operand.tmp 1), type := 22, pos := "outright.go:19", after := #[], guard := none }
def grown8_o12 : Oper := { dst := some 34, op := Op.move (Operand.tmp 6), type := 3, pos := "outright.go:19", after := #[], guard := none }
def grown8_o13 : Oper := { dst := some 35, op := Op.indexAddr 22 (Operand.tmp 33) (Operand.tmp 34), type := 0, pos := "outright.go:19", after := #[{ on := 11, ground := Ground.data }, { on := 12, ground := Ground.data }], guard := none }
def grown8_o14 : Oper := { dst := some 36, op := Op.fieldAddr 57 (Operand.tmp 35) 3, type := 0, pos := "outright.go:19", after := #[{ on := 13, ground := Ground.data }], guard := none }
def grown8_o15 : Oper := { dst := some 37, op := Op.load 9 (Operand.tmp 36), type := 9, pos := "outright.go:19", after := #[{ on := 14, ground := Ground.data }], guard := none }
def grown8_o16 : Oper := { dst := some 38, op := Op.call { callee := Callee.value (Operand.func 24), args := #[Operand.tmp 22, Operand.tmp 27, Operand.tmp 32, Operand.tmp 37], argTypes := #[24, 35, 35, 9] }, type := 58, pos := "outright.go:19", after := #[{ on := 0, ground := Ground.data }, { on := 5, ground := Ground.data }, { on := 10, ground := Ground.data }, { on := 15, ground := Ground.data }], guard := none }
def grown8_o17 : Oper := { dst := some 21, op := Op.move (Operand.tmp 38), type := 58, pos := "outright.go:19", after := #[{ on := 16, ground := Ground.data }], guard := none }
def grown8_o18 : Oper := { dst := some 39, op := Op.extract (Operand.tmp 21) 0, type := 53, pos := "outright.go:19", after := #[{ on := 17, ground := Ground.data }], guard := none }
def grown8_o19 : Oper := { dst := some 40, op := Op.extract (Operand.tmp 21) 1, type := 51, pos := "outright.go:19", after := #[{ on := 17, ground := Ground.data }, { on := 20, ground := Ground.gcOnly Departure.lateStores }], guard := none }
def grown8_o20 : Oper := { dst := some 7, op := Op.assign (Operand.tmp 39), type := 53, pos := "outright.go:19", after := #[{ on := 18, ground := Ground.data }, { on := 16, ground := Ground.chain }, { on := 0, ground := Ground.phase }, { on := 1, ground := Ground.phase }, { on := 2, ground := Ground.phase }, { on := 3, ground := Ground.phase }, { on := 4, ground := Ground.phase }, { on := 5, ground := Ground.phase }, { on := 6, ground := Ground.phase }, { on := 7, ground := Ground.phase }, { on := 8, ground := Ground.phase }, { on := 9, ground := Ground.phase }, { on := 10, ground := Ground.phase }, { on := 11, ground := Ground.phase }, { on := 12, ground := Ground.phase }, { on := 13, ground := Ground.phase }, { on := 14, ground := Ground.phase }, { on := 15, ground := Ground.phase }, { on := 16, ground := Ground.phase }, { on := 17, ground := Ground.phase }, { on := 18, ground := Ground.phase }, { on := 19, ground := Ground.textOnly Departure.lateStores }], guard := none }
def grown8_ops : Array Oper := #[grown8_o0, grown8_o1, grown8_o2, grown8_o3, grown8_o4, grown8_o5, grown8_o6, grown8_o7, grown8_o8, grown8_o9, grown8_o10, grown8_o11, grown8_o12, grown8_o13, grown8_o14, grown8_o15, grown8_o16, grown8_o17, grown8_o18, grown8_o19, grown8_o20]
set_option maxRecDepth 100000 in
set_option maxHeartbeats 4000000 in
theorem grown8 (S : World → Prop) (Po : Value → Value → World → Prop) (b p : Nat) (tv lv iv kv uv sv : Value) (a : Act) (w : World) (Q : Exit → Act → World → Prop) (hsz : a.tmps.size = 82)
    (t0 : a.tmps.getD 0 undef = tv)
    (t1 : a.tmps.getD 1 undef = lv)
    (t6 : a.tmps.getD 6 undef = iv)
    (h0 : S w.drew)
    (C : Calls Try.prog 24 #[tv, kv, uv, sv] w.drew fun e w' => ∃ t v, e = .returned (.tuple #[t, v]) ∧ S w' ∧ Po t v w')
    (G1 : ∀ W, (Instr.indexAt 22 (lv) (iv)).run Try.prog W = .ok (.pointer (some ⟨b, p, none⟩)) W)
    (G2 : ∀ W, S W → (Instr.loadAt 35 (.pointer (some ⟨b, p + 1, none⟩))).run Try.prog W = .ok (kv) W)
    (G3 : ∀ W, S W → (Instr.loadAt 35 (.pointer (some ⟨b, p + 34, none⟩))).run Try.prog W = .ok (uv) W)
    (G4 : ∀ W, S W → (Instr.loadAt 9 (.pointer (some ⟨b, p + 67, none⟩))).run Try.prog W = .ok (sv) W)
    (h : ∀ (t v : Value) (a' : Act) (w' : World), Po t v w' → a' = (((((((((((((((((((((a).put (some 22) (tv)).put (some 23) (lv)).put (some 24) (iv)).put (some 25) (.pointer (some ⟨b, p, none⟩))).put (some 26) (.pointer (some ⟨b, p + 1, none⟩))).put (some 27) (kv)).put (some 28) (lv)).put (some 29) (iv)).put (some 30) (.pointer (some ⟨b, p, none⟩))).put (some 31) (.pointer (some ⟨b, p + 34, none⟩))).put (some 32) (uv)).put (some 33) (lv)).put (some 34) (iv)).put (some 35) (.pointer (some ⟨b, p, none⟩))).put (some 36) (.pointer (some ⟨b, p + 67, none⟩))).put (some 37) (sv)).put (some 38) (.tuple #[t, v])).put (some 21) (.tuple #[t, v])).put (some 39) (t)).put (some 40) (v)).put (some 7) (t) → Q .normal a' w') :
    (Code.region 8 grown8_ops true).wp Try.prog Q a w := by
  refine wp_region_noPanic ?_
  refine wp_region_held_drew (S := fun w' => S w') (by kernel_rfl) (h0) (fun hHeld => ?_)
  refine tk 0 grown8_o0 (tv) (by rfl) (fun w1 hw => exec_move rfl t0) hHeld (fun a1 e1 => ?_)
  rw [← e1] at h
  have z1 := pz e1 hsz
  replace t1 := pk e1 t1
  replace t6 := pk e1 t6
  clear t0
  have t22 := pq e1 hsz
  clear e1 hsz
  refine tk 1 grown8_o1 (lv) (by rfl) (fun w1 hw => exec_move rfl t1) hHeld (fun a2 e2 => ?_)
  rw [← e2] at h
  have z2 := pz e2 z1
  replace t1 := pk e2 t1
  replace t6 := pk e2 t6
  replace t22 := pk e2 t22
  have t23 := pq e2 z1
  clear e2 z1
  refine tk 2 grown8_o2 (iv) (by rfl) (fun w1 hw => exec_move rfl t6) hHeld (fun a3 e3 => ?_)
  rw [← e3] at h
  have z3 := pz e3 z2
  replace t1 := pk e3 t1
  replace t6 := pk e3 t6
  replace t22 := pk e3 t22
  replace t23 := pk e3 t23
  have t24 := pq e3 z2
  clear e3 z2
  refine tk 3 grown8_o3 (.pointer (some ⟨b, p, none⟩)) (by rfl) (fun w1 hw => exec_indexAt rfl t23 t24 (G1 _)) hHeld (fun a4 e4 => ?_)
  rw [← e4] at h
  have z4 := pz e4 z3
  replace t1 := pk e4 t1
  replace t6 := pk e4 t6
  replace t22 := pk e4 t22
  clear t23 t24
  have t25 := pq e4 z3
  clear e4 z3
  refine tk 4 grown8_o4 (.pointer (some ⟨b, p + 1, none⟩)) (by rfl) (fun w1 hw => exec_fieldAt rfl t25 (fg_57_1 _ _ _)) hHeld (fun a5 e5 => ?_)
  rw [← e5] at h
  have z5 := pz e5 z4
  replace t1 := pk e5 t1
  replace t6 := pk e5 t6
  replace t22 := pk e5 t22
  clear t25
  have t26 := pq e5 z4
  clear e5 z4
  refine tk 5 grown8_o5 (kv) (by rfl) (fun w1 hw => exec_load rfl t26 (G2 _ hw)) hHeld (fun a6 e6 => ?_)
  rw [← e6] at h
  have z6 := pz e6 z5
  replace t1 := pk e6 t1
  replace t6 := pk e6 t6
  replace t22 := pk e6 t22
  clear t26
  have t27 := pq e6 z5
  clear e6 z5
  refine tk 6 grown8_o6 (lv) (by rfl) (fun w1 hw => exec_move rfl t1) hHeld (fun a7 e7 => ?_)
  rw [← e7] at h
  have z7 := pz e7 z6
  replace t1 := pk e7 t1
  replace t6 := pk e7 t6
  replace t22 := pk e7 t22
  replace t27 := pk e7 t27
  have t28 := pq e7 z6
  clear e7 z6
  refine tk 7 grown8_o7 (iv) (by rfl) (fun w1 hw => exec_move rfl t6) hHeld (fun a8 e8 => ?_)
  rw [← e8] at h
  have z8 := pz e8 z7
  replace t1 := pk e8 t1
  replace t6 := pk e8 t6
  replace t22 := pk e8 t22
  replace t27 := pk e8 t27
  replace t28 := pk e8 t28
  have t29 := pq e8 z7
  clear e8 z7
  refine tk 8 grown8_o8 (.pointer (some ⟨b, p, none⟩)) (by rfl) (fun w1 hw => exec_indexAt rfl t28 t29 (G1 _)) hHeld (fun a9 e9 => ?_)
  rw [← e9] at h
  have z9 := pz e9 z8
  replace t1 := pk e9 t1
  replace t6 := pk e9 t6
  replace t22 := pk e9 t22
  replace t27 := pk e9 t27
  clear t28 t29
  have t30 := pq e9 z8
  clear e9 z8
  refine tk 9 grown8_o9 (.pointer (some ⟨b, p + 34, none⟩)) (by rfl) (fun w1 hw => exec_fieldAt rfl t30 (fg_57_2 _ _ _)) hHeld (fun a10 e10 => ?_)
  rw [← e10] at h
  have z10 := pz e10 z9
  replace t1 := pk e10 t1
  replace t6 := pk e10 t6
  replace t22 := pk e10 t22
  replace t27 := pk e10 t27
  clear t30
  have t31 := pq e10 z9
  clear e10 z9
  refine tk 10 grown8_o10 (uv) (by rfl) (fun w1 hw => exec_load rfl t31 (G3 _ hw)) hHeld (fun a11 e11 => ?_)
  rw [← e11] at h
  have z11 := pz e11 z10
  replace t1 := pk e11 t1
  replace t6 := pk e11 t6
  replace t22 := pk e11 t22
  replace t27 := pk e11 t27
  clear t31
  have t32 := pq e11 z10
  clear e11 z10
  refine tk 11 grown8_o11 (lv) (by rfl) (fun w1 hw => exec_move rfl t1) hHeld (fun a12 e12 => ?_)
  rw [← e12] at h
  have z12 := pz e12 z11
  replace t6 := pk e12 t6
  replace t22 := pk e12 t22
  replace t27 := pk e12 t27
  replace t32 := pk e12 t32
  clear t1
  have t33 := pq e12 z11
  clear e12 z11
  refine tk 12 grown8_o12 (iv) (by rfl) (fun w1 hw => exec_move rfl t6) hHeld (fun a13 e13 => ?_)
  rw [← e13] at h
  have z13 := pz e13 z12
  replace t22 := pk e13 t22
  replace t27 := pk e13 t27
  replace t32 := pk e13 t32
  replace t33 := pk e13 t33
  clear t6
  have t34 := pq e13 z12
  clear e13 z12
  refine tk 13 grown8_o13 (.pointer (some ⟨b, p, none⟩)) (by rfl) (fun w1 hw => exec_indexAt rfl t33 t34 (G1 _)) hHeld (fun a14 e14 => ?_)
  rw [← e14] at h
  have z14 := pz e14 z13
  replace t22 := pk e14 t22
  replace t27 := pk e14 t27
  replace t32 := pk e14 t32
  clear t33 t34
  have t35 := pq e14 z13
  clear e14 z13
  refine tk 14 grown8_o14 (.pointer (some ⟨b, p + 67, none⟩)) (by rfl) (fun w1 hw => exec_fieldAt rfl t35 (fg_57_3 _ _ _)) hHeld (fun a15 e15 => ?_)
  rw [← e15] at h
  have z15 := pz e15 z14
  replace t22 := pk e15 t22
  replace t27 := pk e15 t27
  replace t32 := pk e15 t32
  clear t35
  have t36 := pq e15 z14
  clear e15 z14
  refine tk 15 grown8_o15 (sv) (by rfl) (fun w1 hw => exec_load rfl t36 (G4 _ hw)) hHeld (fun a16 e16 => ?_)
  rw [← e16] at h
  have z16 := pz e16 z15
  replace t22 := pk e16 t22
  replace t27 := pk e16 t27
  replace t32 := pk e16 t32
  clear t36
  have t37 := pq e16 z15
  clear e16 z15
  refine wpAnyH_ready (rs := [16]) (by kernel_rfl) (by simp) ?_
  refine AllReadyH.cons (o := grown8_o16) rfl (fun K hK => ?_) AllReadyH.nil
  rw [if_pos (by rfl)]
  unfold grown8_o16 at hK ⊢
  go_simp
  refine (C).mono ?_
  rintro e x17 ⟨t, v, rfl, hs, hq⟩
  try go_wp2_with fail
  replace h := h t v
  refine hK.out _ _ (hs) (fun hHeld => ?_)
  clear hK K
  change wpAnyH _ _ _ _ _ _ _ (a16.put (some 38) (.tuple #[t, v])) _
  obtain ⟨a17, e17⟩ : ∃ act, act = a16.put (some 38) (.tuple #[t, v]) := ⟨_, rfl⟩
  rw [← e17] at h ⊢
  have z17 := pz e17 z16
  clear t22 t27 t32 t37
  have t38 := pq e17 z16
  clear e17 z16
  refine tk 17 grown8_o17 (.tuple #[t, v]) (by rfl) (fun w1 hw => exec_move rfl t38) hHeld (fun a18 e18 => ?_)
  rw [← e18] at h
  have z18 := pz e18 z17
  clear t38
  have t21 := pq e18 z17
  clear e18 z17
  refine tk 18 grown8_o18 (t) (by rfl) (fun w1 hw => exec_extract rfl t21 rfl) hHeld (fun a19 e19 => ?_)
  rw [← e19] at h
  have z19 := pz e19 z18
  replace t21 := pk e19 t21
  have t39 := pq e19 z18
  clear e19 z18
  refine tk 19 grown8_o19 (v) (by rfl) (fun w1 hw => exec_extract rfl t21 rfl) hHeld (fun a20 e20 => ?_)
  rw [← e20] at h
  have z20 := pz e20 z19
  replace t39 := pk e20 t39
  clear t21
  clear e20 z19
  refine tk 20 grown8_o20 (t) (by rfl) (fun w1 hw => exec_assign rfl t39) hHeld (fun a21 e21 => ?_)
  rw [← e21] at h
  have z21 := pz e21 z20
  clear t39
  clear e21 z20
  exact wpAnyH_done (by kernel_rfl) (NoPanic.normal (h _ _ (hq) rfl)) _
def grown10_o0 : Oper := { dst := some 44, op := Op.move (Operand.tmp 0), type := 24, pos := "outright.go:21", after := #[], guard := none }
def grown10_o1 : Oper := { dst := some 45, op := Op.move (Operand.tmp 1), type := 22, pos := "outright.go:21", after := #[], guard := none }
def grown10_o2 : Oper := { dst := some 46, op := Op.move (Operand.tmp 6), type := 3, pos := "outright.go:21", after := #[], guard := none }
def grown10_o3 : Oper := { dst := some 47, op := Op.indexAddr 22 (Operand.tmp 45) (Operand.tmp 46), type := 0, pos := "outright.go:21", after := #[{ on := 1, ground := Ground.data }, { on := 2, ground := Ground.data }], guard := none }
def grown10_o4 : Oper := { dst := some 48, op := Op.fieldAddr 57 (Operand.tmp 47) 1, type := 0, pos := "outright.go:21", after := #[{ on := 3, ground := Ground.data }], guard := none }
def grown10_o5 : Oper := { dst := some 49, op := Op.load 35 (Operand.tmp 48), type := 35, pos := "outright.go:21", after := #[{ on := 4, ground := Ground.data }], guard := none }
def grown10_o6 : Oper := { dst := some 50, op := Op.move (Operand.tmp 1), type := 22, pos := "outright.go:21", after := #[], guard := none }
def grown10_o7 : Oper := { dst := some 51, op := Op.move (Operand.tmp 6), type := 3, pos := "outright.go:21", after := #[], guard := none }
def grown10_o8 : Oper := { dst := some 52, op := Op.indexAddr 22 (Operand.tmp 50) (Operand.tmp 51), type := 0, pos := "outright.go:21", after := #[{ on := 6, ground := Ground.data }, { on := 7, ground := Ground.data }], guard := none }
def grown10_o9 : Oper := { dst := some 53, op := Op.fieldAddr 57 (Operand.tmp 52) 2, type := 0, pos := "outright.go:21", after := #[{ on := 8, ground := Ground.data }], guard := none }
def grown10_o10 : Oper := { dst := some 54, op := Op.load 35 (Operand.tmp 53), type := 35, pos := "outright.go:21", after := #[{ on := 9, ground := Ground.data }], guard := none }
def grown10_o11 : Oper := { dst := some 55, op := Op.move (Operand.tmp 1), type := 22, pos := "outright.go:21", after := #[], guard := none }
def grown10_o12 : Oper := { dst := some 56, op := Op.move (Operand.tmp 6), type := 3, pos := "outright.go:21", after := #[], guard := none }
def grown10_o13 : Oper := { dst := some 57, op := Op.indexAddr 22 (Operand.tmp 55) (Operand.tmp 56), type := 0, pos := "outright.go:21", after := #[{ on := 11, ground := Ground.data }, { on := 12, ground := Ground.data }], guard := none }
def grown10_o14 : Oper := { dst := some 58, op := Op.fieldAddr 57 (Operand.tmp 57) 3, type := 0, pos := "outright.go:21", after := #[{ on := 13, ground := Ground.data }], guard := none }
def grown10_o15 : Oper := { dst := some 59, op := Op.load 9 (Operand.tmp 58), type := 9, pos := "outright.go:21", after := #[{ on := 14, ground := Ground.data }], guard := none }
def grown10_o16 : Oper := { dst := some 60, op := Op.call { callee := Callee.value (Operand.func 25), args := #[Operand.tmp 44, Operand.tmp 49, Operand.tmp 54, Operand.tmp 59], argTypes := #[24, 35, 35, 9] }, type := 58, pos := "outright.go:21", after := #[{ on := 0, ground := Ground.data }, { on := 5, ground := Ground.data }, { on := 10, ground := Ground.data }, { on := 15, ground := Ground.data }], guard := none }
def grown10_o17 : Oper := { dst := some 43, op := Op.move (Operand.tmp 60), type := 58, pos := "outright.go:21", after := #[{ on := 16, ground := Ground.data }], guard := none }
def grown10_o18 : Oper := { dst := some 61, op := Op.extract (Operand.tmp 43) 0, type := 53, pos := "outright.go:21", after := #[{ on := 17, ground := Ground.data }], guard := none }
def grown10_o19 : Oper := { dst := some 62, op := Op.extract (Operand.tmp 43) 1, type := 51, pos := "outright.go:21", after := #[{ on := 17, ground := Ground.data }, { on := 20, ground := Ground.gcOnly Departure.lateStores }], guard := none }
def grown10_o20 : Oper := { dst := some 7, op := Op.assign (Operand.tmp 61), type := 53, pos := "outright.go:21", after := #[{ on := 18, ground := Ground.data }, { on := 16, ground := Ground.chain }, { on := 0, ground := Ground.phase }, { on := 1, ground := Ground.phase }, { on := 2, ground := Ground.phase }, { on := 3, ground := Ground.phase }, { on := 4, ground := Ground.phase }, { on := 5, ground := Ground.phase }, { on := 6, ground := Ground.phase }, { on := 7, ground := Ground.phase }, { on := 8, ground := Ground.phase }, { on := 9, ground := Ground.phase }, { on := 10, ground := Ground.phase }, { on := 11, ground := Ground.phase }, { on := 12, ground := Ground.phase }, { on := 13, ground := Ground.phase }, { on := 14, ground := Ground.phase }, { on := 15, ground := Ground.phase }, { on := 16, ground := Ground.phase }, { on := 17, ground := Ground.phase }, { on := 18, ground := Ground.phase }, { on := 19, ground := Ground.textOnly Departure.lateStores }], guard := none }
def grown10_ops : Array Oper := #[grown10_o0, grown10_o1, grown10_o2, grown10_o3, grown10_o4, grown10_o5, grown10_o6, grown10_o7, grown10_o8, grown10_o9, grown10_o10, grown10_o11, grown10_o12, grown10_o13, grown10_o14, grown10_o15, grown10_o16, grown10_o17, grown10_o18, grown10_o19, grown10_o20]
set_option maxRecDepth 100000 in
set_option maxHeartbeats 4000000 in
theorem grown10 (S : World → Prop) (Po : Value → Value → World → Prop) (b p : Nat) (tv lv iv kv uv sv : Value) (a : Act) (w : World) (Q : Exit → Act → World → Prop) (hsz : a.tmps.size = 82)
    (t0 : a.tmps.getD 0 undef = tv)
    (t1 : a.tmps.getD 1 undef = lv)
    (t6 : a.tmps.getD 6 undef = iv)
    (h0 : S w.drew)
    (C : Calls Try.prog 25 #[tv, kv, uv, sv] w.drew fun e w' => ∃ t v, e = .returned (.tuple #[t, v]) ∧ S w' ∧ Po t v w')
    (G1 : ∀ W, (Instr.indexAt 22 (lv) (iv)).run Try.prog W = .ok (.pointer (some ⟨b, p, none⟩)) W)
    (G2 : ∀ W, S W → (Instr.loadAt 35 (.pointer (some ⟨b, p + 1, none⟩))).run Try.prog W = .ok (kv) W)
    (G3 : ∀ W, S W → (Instr.loadAt 35 (.pointer (some ⟨b, p + 34, none⟩))).run Try.prog W = .ok (uv) W)
    (G4 : ∀ W, S W → (Instr.loadAt 9 (.pointer (some ⟨b, p + 67, none⟩))).run Try.prog W = .ok (sv) W)
    (h : ∀ (t v : Value) (a' : Act) (w' : World), Po t v w' → a' = (((((((((((((((((((((a).put (some 44) (tv)).put (some 45) (lv)).put (some 46) (iv)).put (some 47) (.pointer (some ⟨b, p, none⟩))).put (some 48) (.pointer (some ⟨b, p + 1, none⟩))).put (some 49) (kv)).put (some 50) (lv)).put (some 51) (iv)).put (some 52) (.pointer (some ⟨b, p, none⟩))).put (some 53) (.pointer (some ⟨b, p + 34, none⟩))).put (some 54) (uv)).put (some 55) (lv)).put (some 56) (iv)).put (some 57) (.pointer (some ⟨b, p, none⟩))).put (some 58) (.pointer (some ⟨b, p + 67, none⟩))).put (some 59) (sv)).put (some 60) (.tuple #[t, v])).put (some 43) (.tuple #[t, v])).put (some 61) (t)).put (some 62) (v)).put (some 7) (t) → Q .normal a' w') :
    (Code.region 10 grown10_ops true).wp Try.prog Q a w := by
  refine wp_region_noPanic ?_
  refine wp_region_held_drew (S := fun w' => S w') (by kernel_rfl) (h0) (fun hHeld => ?_)
  refine tk 0 grown10_o0 (tv) (by rfl) (fun w1 hw => exec_move rfl t0) hHeld (fun a1 e1 => ?_)
  rw [← e1] at h
  have z1 := pz e1 hsz
  replace t1 := pk e1 t1
  replace t6 := pk e1 t6
  clear t0
  have t44 := pq e1 hsz
  clear e1 hsz
  refine tk 1 grown10_o1 (lv) (by rfl) (fun w1 hw => exec_move rfl t1) hHeld (fun a2 e2 => ?_)
  rw [← e2] at h
  have z2 := pz e2 z1
  replace t1 := pk e2 t1
  replace t6 := pk e2 t6
  replace t44 := pk e2 t44
  have t45 := pq e2 z1
  clear e2 z1
  refine tk 2 grown10_o2 (iv) (by rfl) (fun w1 hw => exec_move rfl t6) hHeld (fun a3 e3 => ?_)
  rw [← e3] at h
  have z3 := pz e3 z2
  replace t1 := pk e3 t1
  replace t6 := pk e3 t6
  replace t44 := pk e3 t44
  replace t45 := pk e3 t45
  have t46 := pq e3 z2
  clear e3 z2
  refine tk 3 grown10_o3 (.pointer (some ⟨b, p, none⟩)) (by rfl) (fun w1 hw => exec_indexAt rfl t45 t46 (G1 _)) hHeld (fun a4 e4 => ?_)
  rw [← e4] at h
  have z4 := pz e4 z3
  replace t1 := pk e4 t1
  replace t6 := pk e4 t6
  replace t44 := pk e4 t44
  clear t45 t46
  have t47 := pq e4 z3
  clear e4 z3
  refine tk 4 grown10_o4 (.pointer (some ⟨b, p + 1, none⟩)) (by rfl) (fun w1 hw => exec_fieldAt rfl t47 (fg_57_1 _ _ _)) hHeld (fun a5 e5 => ?_)
  rw [← e5] at h
  have z5 := pz e5 z4
  replace t1 := pk e5 t1
  replace t6 := pk e5 t6
  replace t44 := pk e5 t44
  clear t47
  have t48 := pq e5 z4
  clear e5 z4
  refine tk 5 grown10_o5 (kv) (by rfl) (fun w1 hw => exec_load rfl t48 (G2 _ hw)) hHeld (fun a6 e6 => ?_)
  rw [← e6] at h
  have z6 := pz e6 z5
  replace t1 := pk e6 t1
  replace t6 := pk e6 t6
  replace t44 := pk e6 t44
  clear t48
  have t49 := pq e6 z5
  clear e6 z5
  refine tk 6 grown10_o6 (lv) (by rfl) (fun w1 hw => exec_move rfl t1) hHeld (fun a7 e7 => ?_)
  rw [← e7] at h
  have z7 := pz e7 z6
  replace t1 := pk e7 t1
  replace t6 := pk e7 t6
  replace t44 := pk e7 t44
  replace t49 := pk e7 t49
  have t50 := pq e7 z6
  clear e7 z6
  refine tk 7 grown10_o7 (iv) (by rfl) (fun w1 hw => exec_move rfl t6) hHeld (fun a8 e8 => ?_)
  rw [← e8] at h
  have z8 := pz e8 z7
  replace t1 := pk e8 t1
  replace t6 := pk e8 t6
  replace t44 := pk e8 t44
  replace t49 := pk e8 t49
  replace t50 := pk e8 t50
  have t51 := pq e8 z7
  clear e8 z7
  refine tk 8 grown10_o8 (.pointer (some ⟨b, p, none⟩)) (by rfl) (fun w1 hw => exec_indexAt rfl t50 t51 (G1 _)) hHeld (fun a9 e9 => ?_)
  rw [← e9] at h
  have z9 := pz e9 z8
  replace t1 := pk e9 t1
  replace t6 := pk e9 t6
  replace t44 := pk e9 t44
  replace t49 := pk e9 t49
  clear t50 t51
  have t52 := pq e9 z8
  clear e9 z8
  refine tk 9 grown10_o9 (.pointer (some ⟨b, p + 34, none⟩)) (by rfl) (fun w1 hw => exec_fieldAt rfl t52 (fg_57_2 _ _ _)) hHeld (fun a10 e10 => ?_)
  rw [← e10] at h
  have z10 := pz e10 z9
  replace t1 := pk e10 t1
  replace t6 := pk e10 t6
  replace t44 := pk e10 t44
  replace t49 := pk e10 t49
  clear t52
  have t53 := pq e10 z9
  clear e10 z9
  refine tk 10 grown10_o10 (uv) (by rfl) (fun w1 hw => exec_load rfl t53 (G3 _ hw)) hHeld (fun a11 e11 => ?_)
  rw [← e11] at h
  have z11 := pz e11 z10
  replace t1 := pk e11 t1
  replace t6 := pk e11 t6
  replace t44 := pk e11 t44
  replace t49 := pk e11 t49
  clear t53
  have t54 := pq e11 z10
  clear e11 z10
  refine tk 11 grown10_o11 (lv) (by rfl) (fun w1 hw => exec_move rfl t1) hHeld (fun a12 e12 => ?_)
  rw [← e12] at h
  have z12 := pz e12 z11
  replace t6 := pk e12 t6
  replace t44 := pk e12 t44
  replace t49 := pk e12 t49
  replace t54 := pk e12 t54
  clear t1
  have t55 := pq e12 z11
  clear e12 z11
  refine tk 12 grown10_o12 (iv) (by rfl) (fun w1 hw => exec_move rfl t6) hHeld (fun a13 e13 => ?_)
  rw [← e13] at h
  have z13 := pz e13 z12
  replace t44 := pk e13 t44
  replace t49 := pk e13 t49
  replace t54 := pk e13 t54
  replace t55 := pk e13 t55
  clear t6
  have t56 := pq e13 z12
  clear e13 z12
  refine tk 13 grown10_o13 (.pointer (some ⟨b, p, none⟩)) (by rfl) (fun w1 hw => exec_indexAt rfl t55 t56 (G1 _)) hHeld (fun a14 e14 => ?_)
  rw [← e14] at h
  have z14 := pz e14 z13
  replace t44 := pk e14 t44
  replace t49 := pk e14 t49
  replace t54 := pk e14 t54
  clear t55 t56
  have t57 := pq e14 z13
  clear e14 z13
  refine tk 14 grown10_o14 (.pointer (some ⟨b, p + 67, none⟩)) (by rfl) (fun w1 hw => exec_fieldAt rfl t57 (fg_57_3 _ _ _)) hHeld (fun a15 e15 => ?_)
  rw [← e15] at h
  have z15 := pz e15 z14
  replace t44 := pk e15 t44
  replace t49 := pk e15 t49
  replace t54 := pk e15 t54
  clear t57
  have t58 := pq e15 z14
  clear e15 z14
  refine tk 15 grown10_o15 (sv) (by rfl) (fun w1 hw => exec_load rfl t58 (G4 _ hw)) hHeld (fun a16 e16 => ?_)
  rw [← e16] at h
  have z16 := pz e16 z15
  replace t44 := pk e16 t44
  replace t49 := pk e16 t49
  replace t54 := pk e16 t54
  clear t58
  have t59 := pq e16 z15
  clear e16 z15
  refine wpAnyH_ready (rs := [16]) (by kernel_rfl) (by simp) ?_
  refine AllReadyH.cons (o := grown10_o16) rfl (fun K hK => ?_) AllReadyH.nil
  rw [if_pos (by rfl)]
  unfold grown10_o16 at hK ⊢
  go_simp
  refine (C).mono ?_
  rintro e x17 ⟨t, v, rfl, hs, hq⟩
  try go_wp2_with fail
  replace h := h t v
  refine hK.out _ _ (hs) (fun hHeld => ?_)
  clear hK K
  change wpAnyH _ _ _ _ _ _ _ (a16.put (some 60) (.tuple #[t, v])) _
  obtain ⟨a17, e17⟩ : ∃ act, act = a16.put (some 60) (.tuple #[t, v]) := ⟨_, rfl⟩
  rw [← e17] at h ⊢
  have z17 := pz e17 z16
  clear t44 t49 t54 t59
  have t60 := pq e17 z16
  clear e17 z16
  refine tk 17 grown10_o17 (.tuple #[t, v]) (by rfl) (fun w1 hw => exec_move rfl t60) hHeld (fun a18 e18 => ?_)
  rw [← e18] at h
  have z18 := pz e18 z17
  clear t60
  have t43 := pq e18 z17
  clear e18 z17
  refine tk 18 grown10_o18 (t) (by rfl) (fun w1 hw => exec_extract rfl t43 rfl) hHeld (fun a19 e19 => ?_)
  rw [← e19] at h
  have z19 := pz e19 z18
  replace t43 := pk e19 t43
  have t61 := pq e19 z18
  clear e19 z18
  refine tk 19 grown10_o19 (v) (by rfl) (fun w1 hw => exec_extract rfl t43 rfl) hHeld (fun a20 e20 => ?_)
  rw [← e20] at h
  have z20 := pz e20 z19
  replace t61 := pk e20 t61
  clear t43
  clear e20 z19
  refine tk 20 grown10_o20 (t) (by rfl) (fun w1 hw => exec_assign rfl t61) hHeld (fun a21 e21 => ?_)
  rw [← e21] at h
  have z21 := pz e21 z20
  clear t61
  clear e21 z20
  exact wpAnyH_done (by kernel_rfl) (NoPanic.normal (h _ _ (hq) rfl)) _
def count6_o0 : Oper := { dst := some 18, op := Op.move (Operand.tmp 3), type := 74, pos := "outright.go:37", after := #[], guard := none }
def count6_o1 : Oper := { dst := some 19, op := Op.move (Operand.tmp 0), type := 22, pos := "outright.go:37", after := #[], guard := none }
def count6_o2 : Oper := { dst := some 20, op := Op.move (Operand.tmp 4), type := 3, pos := "outright.go:37", after := #[], guard := none }
def count6_o3 : Oper := { dst := some 21, op := Op.indexAddr 22 (Operand.tmp 19) (Operand.tmp 20), type := 0, pos := "outright.go:37", after := #[{ on := 1, ground := Ground.data }, { on := 2, ground := Ground.data }], guard := none }
def count6_o4 : Oper := { dst := some 22, op := Op.fieldAddr 57 (Operand.tmp 21) 1, type := 0, pos := "outright.go:37", after := #[{ on := 3, ground := Ground.data }], guard := none }
def count6_o5 : Oper := { dst := some 23, op := Op.load 35 (Operand.tmp 22), type := 35, pos := "outright.go:37", after := #[{ on := 4, ground := Ground.data }], guard := none }
def count6_o6 : Oper := { dst := some 24, op := Op.move (Operand.tmp 0), type := 22, pos := "outright.go:37", after := #[], guard := none }
def count6_o7 : Oper := { dst := some 25, op := Op.move (Operand.tmp 4), type := 3, pos := "outright.go:37", after := #[], guard := none }
def count6_o8 : Oper := { dst := some 26, op := Op.indexAddr 22 (Operand.tmp 24) (Operand.tmp 25), type := 0, pos := "outright.go:37", after := #[{ on := 6, ground := Ground.data }, { on := 7, ground := Ground.data }], guard := none }
def count6_o9 : Oper := { dst := some 27, op := Op.fieldAddr 57 (Operand.tmp 26) 2, type := 0, pos := "outright.go:37", after := #[{ on := 8, ground := Ground.data }], guard := none }
def count6_o10 : Oper := { dst := some 28, op := Op.load 35 (Operand.tmp 27), type := 35, pos := "outright.go:37", after := #[{ on := 9, ground := Ground.data }], guard := none }
def count6_o11 : Oper := { dst := some 29, op := Op.move (Operand.tmp 0), type := 22, pos := "outright.go:37", after := #[], guard := none }
def count6_o12 : Oper := { dst := some 30, op := Op.move (Operand.tmp 4), type := 3, pos := "outright.go:37", after := #[], guard := none }
def count6_o13 : Oper := { dst := some 31, op := Op.indexAddr 22 (Operand.tmp 29) (Operand.tmp 30), type := 0, pos := "outright.go:37", after := #[{ on := 11, ground := Ground.data }, { on := 12, ground := Ground.data }], guard := none }
def count6_o14 : Oper := { dst := some 32, op := Op.fieldAddr 57 (Operand.tmp 31) 3, type := 0, pos := "outright.go:37", after := #[{ on := 13, ground := Ground.data }], guard := none }
def count6_o15 : Oper := { dst := some 33, op := Op.load 9 (Operand.tmp 32), type := 9, pos := "outright.go:37", after := #[{ on := 14, ground := Ground.data }], guard := none }
def count6_o16 : Oper := { dst := some 34, op := Op.call { callee := Callee.value (Operand.func 32), args := #[Operand.tmp 18, Operand.tmp 23, Operand.tmp 28, Operand.tmp 33], argTypes := #[74, 35, 35, 9] }, type := 51, pos := "outright.go:37", after := #[{ on := 0, ground := Ground.data }, { on := 5, ground := Ground.data }, { on := 10, ground := Ground.data }, { on := 15, ground := Ground.data }], guard := none }
def count6_ops : Array Oper := #[count6_o0, count6_o1, count6_o2, count6_o3, count6_o4, count6_o5, count6_o6, count6_o7, count6_o8, count6_o9, count6_o10, count6_o11, count6_o12, count6_o13, count6_o14, count6_o15, count6_o16]
set_option maxRecDepth 100000 in
set_option maxHeartbeats 4000000 in
theorem count6 (S : World → Prop) (Po : World → Prop) (b p : Nat) (dv lv iv kv uv sv : Value) (a : Act) (w : World) (Q : Exit → Act → World → Prop) (hsz : a.tmps.size = 37)
    (t3 : a.tmps.getD 3 undef = dv)
    (t0 : a.tmps.getD 0 undef = lv)
    (t4 : a.tmps.getD 4 undef = iv)
    (h0 : S w.drew)
    (C : Calls Try.prog 32 #[dv, kv, uv, sv] w.drew fun e w' => ∃ v, e = .returned v ∧ S w' ∧ Po w')
    (G1 : ∀ W, (Instr.indexAt 22 (lv) (iv)).run Try.prog W = .ok (.pointer (some ⟨b, p, none⟩)) W)
    (G2 : ∀ W, S W → (Instr.loadAt 35 (.pointer (some ⟨b, p + 1, none⟩))).run Try.prog W = .ok (kv) W)
    (G3 : ∀ W, S W → (Instr.loadAt 35 (.pointer (some ⟨b, p + 34, none⟩))).run Try.prog W = .ok (uv) W)
    (G4 : ∀ W, S W → (Instr.loadAt 9 (.pointer (some ⟨b, p + 67, none⟩))).run Try.prog W = .ok (sv) W)
    (h : ∀ (v : Value) (a' : Act) (w' : World), Po w' → a' = (((((((((((((((((a).put (some 18) (dv)).put (some 19) (lv)).put (some 20) (iv)).put (some 21) (.pointer (some ⟨b, p, none⟩))).put (some 22) (.pointer (some ⟨b, p + 1, none⟩))).put (some 23) (kv)).put (some 24) (lv)).put (some 25) (iv)).put (some 26) (.pointer (some ⟨b, p, none⟩))).put (some 27) (.pointer (some ⟨b, p + 34, none⟩))).put (some 28) (uv)).put (some 29) (lv)).put (some 30) (iv)).put (some 31) (.pointer (some ⟨b, p, none⟩))).put (some 32) (.pointer (some ⟨b, p + 67, none⟩))).put (some 33) (sv)).put (some 34) (v) → Q .normal a' w') :
    (Code.region 6 count6_ops true).wp Try.prog Q a w := by
  refine wp_region_noPanic ?_
  refine wp_region_held_drew (S := fun w' => S w') (by kernel_rfl) (h0) (fun hHeld => ?_)
  refine tk 0 count6_o0 (dv) (by rfl) (fun w1 hw => exec_move rfl t3) hHeld (fun a1 e1 => ?_)
  rw [← e1] at h
  have z1 := pz e1 hsz
  replace t0 := pk e1 t0
  replace t4 := pk e1 t4
  clear t3
  have t18 := pq e1 hsz
  clear e1 hsz
  refine tk 1 count6_o1 (lv) (by rfl) (fun w1 hw => exec_move rfl t0) hHeld (fun a2 e2 => ?_)
  rw [← e2] at h
  have z2 := pz e2 z1
  replace t0 := pk e2 t0
  replace t4 := pk e2 t4
  replace t18 := pk e2 t18
  have t19 := pq e2 z1
  clear e2 z1
  refine tk 2 count6_o2 (iv) (by rfl) (fun w1 hw => exec_move rfl t4) hHeld (fun a3 e3 => ?_)
  rw [← e3] at h
  have z3 := pz e3 z2
  replace t0 := pk e3 t0
  replace t4 := pk e3 t4
  replace t18 := pk e3 t18
  replace t19 := pk e3 t19
  have t20 := pq e3 z2
  clear e3 z2
  refine tk 3 count6_o3 (.pointer (some ⟨b, p, none⟩)) (by rfl) (fun w1 hw => exec_indexAt rfl t19 t20 (G1 _)) hHeld (fun a4 e4 => ?_)
  rw [← e4] at h
  have z4 := pz e4 z3
  replace t0 := pk e4 t0
  replace t4 := pk e4 t4
  replace t18 := pk e4 t18
  clear t19 t20
  have t21 := pq e4 z3
  clear e4 z3
  refine tk 4 count6_o4 (.pointer (some ⟨b, p + 1, none⟩)) (by rfl) (fun w1 hw => exec_fieldAt rfl t21 (fg_57_1 _ _ _)) hHeld (fun a5 e5 => ?_)
  rw [← e5] at h
  have z5 := pz e5 z4
  replace t0 := pk e5 t0
  replace t4 := pk e5 t4
  replace t18 := pk e5 t18
  clear t21
  have t22 := pq e5 z4
  clear e5 z4
  refine tk 5 count6_o5 (kv) (by rfl) (fun w1 hw => exec_load rfl t22 (G2 _ hw)) hHeld (fun a6 e6 => ?_)
  rw [← e6] at h
  have z6 := pz e6 z5
  replace t0 := pk e6 t0
  replace t4 := pk e6 t4
  replace t18 := pk e6 t18
  clear t22
  have t23 := pq e6 z5
  clear e6 z5
  refine tk 6 count6_o6 (lv) (by rfl) (fun w1 hw => exec_move rfl t0) hHeld (fun a7 e7 => ?_)
  rw [← e7] at h
  have z7 := pz e7 z6
  replace t0 := pk e7 t0
  replace t4 := pk e7 t4
  replace t18 := pk e7 t18
  replace t23 := pk e7 t23
  have t24 := pq e7 z6
  clear e7 z6
  refine tk 7 count6_o7 (iv) (by rfl) (fun w1 hw => exec_move rfl t4) hHeld (fun a8 e8 => ?_)
  rw [← e8] at h
  have z8 := pz e8 z7
  replace t0 := pk e8 t0
  replace t4 := pk e8 t4
  replace t18 := pk e8 t18
  replace t23 := pk e8 t23
  replace t24 := pk e8 t24
  have t25 := pq e8 z7
  clear e8 z7
  refine tk 8 count6_o8 (.pointer (some ⟨b, p, none⟩)) (by rfl) (fun w1 hw => exec_indexAt rfl t24 t25 (G1 _)) hHeld (fun a9 e9 => ?_)
  rw [← e9] at h
  have z9 := pz e9 z8
  replace t0 := pk e9 t0
  replace t4 := pk e9 t4
  replace t18 := pk e9 t18
  replace t23 := pk e9 t23
  clear t24 t25
  have t26 := pq e9 z8
  clear e9 z8
  refine tk 9 count6_o9 (.pointer (some ⟨b, p + 34, none⟩)) (by rfl) (fun w1 hw => exec_fieldAt rfl t26 (fg_57_2 _ _ _)) hHeld (fun a10 e10 => ?_)
  rw [← e10] at h
  have z10 := pz e10 z9
  replace t0 := pk e10 t0
  replace t4 := pk e10 t4
  replace t18 := pk e10 t18
  replace t23 := pk e10 t23
  clear t26
  have t27 := pq e10 z9
  clear e10 z9
  refine tk 10 count6_o10 (uv) (by rfl) (fun w1 hw => exec_load rfl t27 (G3 _ hw)) hHeld (fun a11 e11 => ?_)
  rw [← e11] at h
  have z11 := pz e11 z10
  replace t0 := pk e11 t0
  replace t4 := pk e11 t4
  replace t18 := pk e11 t18
  replace t23 := pk e11 t23
  clear t27
  have t28 := pq e11 z10
  clear e11 z10
  refine tk 11 count6_o11 (lv) (by rfl) (fun w1 hw => exec_move rfl t0) hHeld (fun a12 e12 => ?_)
  rw [← e12] at h
  have z12 := pz e12 z11
  replace t4 := pk e12 t4
  replace t18 := pk e12 t18
  replace t23 := pk e12 t23
  replace t28 := pk e12 t28
  clear t0
  have t29 := pq e12 z11
  clear e12 z11
  refine tk 12 count6_o12 (iv) (by rfl) (fun w1 hw => exec_move rfl t4) hHeld (fun a13 e13 => ?_)
  rw [← e13] at h
  have z13 := pz e13 z12
  replace t18 := pk e13 t18
  replace t23 := pk e13 t23
  replace t28 := pk e13 t28
  replace t29 := pk e13 t29
  clear t4
  have t30 := pq e13 z12
  clear e13 z12
  refine tk 13 count6_o13 (.pointer (some ⟨b, p, none⟩)) (by rfl) (fun w1 hw => exec_indexAt rfl t29 t30 (G1 _)) hHeld (fun a14 e14 => ?_)
  rw [← e14] at h
  have z14 := pz e14 z13
  replace t18 := pk e14 t18
  replace t23 := pk e14 t23
  replace t28 := pk e14 t28
  clear t29 t30
  have t31 := pq e14 z13
  clear e14 z13
  refine tk 14 count6_o14 (.pointer (some ⟨b, p + 67, none⟩)) (by rfl) (fun w1 hw => exec_fieldAt rfl t31 (fg_57_3 _ _ _)) hHeld (fun a15 e15 => ?_)
  rw [← e15] at h
  have z15 := pz e15 z14
  replace t18 := pk e15 t18
  replace t23 := pk e15 t23
  replace t28 := pk e15 t28
  clear t31
  have t32 := pq e15 z14
  clear e15 z14
  refine tk 15 count6_o15 (sv) (by rfl) (fun w1 hw => exec_load rfl t32 (G4 _ hw)) hHeld (fun a16 e16 => ?_)
  rw [← e16] at h
  have z16 := pz e16 z15
  replace t18 := pk e16 t18
  replace t23 := pk e16 t23
  replace t28 := pk e16 t28
  clear t32
  have t33 := pq e16 z15
  clear e16 z15
  refine wpAnyH_ready (rs := [16]) (by kernel_rfl) (by simp) ?_
  refine AllReadyH.cons (o := count6_o16) rfl (fun K hK => ?_) AllReadyH.nil
  rw [if_pos (by rfl)]
  unfold count6_o16 at hK ⊢
  go_simp
  refine (C).mono ?_
  rintro e x17 ⟨v, rfl, hs, hq⟩
  try go_wp2_with fail
  replace h := h v
  refine hK.out _ _ (hs) (fun hHeld => ?_)
  clear hK K
  change wpAnyH _ _ _ _ _ _ _ (a16.put (some 34) (v)) _
  obtain ⟨a17, e17⟩ : ∃ act, act = a16.put (some 34) (v) := ⟨_, rfl⟩
  rw [← e17] at h ⊢
  have z17 := pz e17 z16
  clear t18 t23 t28 t33
  clear e17 z16
  exact wpAnyH_done (by kernel_rfl) (NoPanic.normal (h _ _ (hq) rfl)) _
def told9_o0 : Oper := { dst := some 49, op := Op.fieldAddr 49 (Operand.tmp 5) 5, type := 0, pos := "outright.go:178", after := #[], guard := none }
def told9_o1 : Oper := { dst := some 50, op := Op.load 47 (Operand.tmp 49), type := 47, pos := "outright.go:178", after := #[{ on := 0, ground := Ground.data }], guard := none }
def told9_o2 : Oper := { dst := some 51, op := Op.move (Operand.tmp 0), type := 24, pos := "outright.go:178", after := #[], guard := none }
def told9_o3 : Oper := { dst := some 52, op := Op.move (Operand.tmp 1), type := 30, pos := "outright.go:178", after := #[], guard := none }
def told9_o4 : Oper := { dst := some 53, op := Op.move (Operand.tmp 6), type := 3, pos := "outright.go:178", after := #[], guard := none }
def told9_o5 : Oper := { dst := some 54, op := Op.indexAddr 30 (Operand.tmp 52) (Operand.tmp 53), type := 0, pos := "outright.go:178", after := #[{ on := 3, ground := Ground.data }, { on := 4, ground := Ground.data }], guard := none }
def told9_o6 : Oper := { dst := some 55, op := Op.load 35 (Operand.tmp 54), type := 35, pos := "outright.go:178", after := #[{ on := 5, ground := Ground.data }], guard := none }
def told9_o7 : Oper := { dst := some 56, op := Op.call { callee := Callee.value (Operand.func 18), args := #[Operand.tmp 51, Operand.tmp 55], argTypes := #[24, 35] }, type := 3, pos := "outright.go:178", after := #[{ on := 2, ground := Ground.data }, { on := 6, ground := Ground.data }], guard := none }
def told9_o8 : Oper := { dst := some 57, op := Op.buildSlice 47 1 #[(0, Operand.tmp 56)], type := 47, pos := "outright.go:178", after := #[{ on := 7, ground := Ground.data }], guard := none }
def told9_o9 : Oper := { dst := some 58, op := Op.call { callee := Callee.builtin Builtin.append, args := #[Operand.tmp 50, Operand.tmp 57], argTypes := #[47, 47] }, type := 47, pos := "outright.go:178", after := #[{ on := 1, ground := Ground.data }, { on := 8, ground := Ground.data }, { on := 7, ground := Ground.chain }], guard := none }
def told9_o10 : Oper := { dst := some 59, op := Op.fieldAddr 49 (Operand.tmp 5) 5, type := 0, pos := "outright.go:178", after := #[{ on := 0, ground := Ground.phase }, { on := 1, ground := Ground.phase }, { on := 2, ground := Ground.phase }, { on := 3, ground := Ground.phase }, { on := 4, ground := Ground.phase }, { on := 5, ground := Ground.phase }, { on := 6, ground := Ground.phase }, { on := 7, ground := Ground.phase }, { on := 8, ground := Ground.phase }, { on := 9, ground := Ground.phase }], guard := none }
def told9_o11 : Oper := { dst := none, op := Op.store 47 (Operand.tmp 59) (Operand.tmp 58), type := 0, pos := "outright.go:178", after := #[{ on := 10, ground := Ground.data }, { on := 9, ground := Ground.data }, { on := 9, ground := Ground.chain }, { on := 0, ground := Ground.phase }, { on := 1, ground := Ground.phase }, { on := 2, ground := Ground.phase }, { on := 3, ground := Ground.phase }, { on := 4, ground := Ground.phase }, { on := 5, ground := Ground.phase }, { on := 6, ground := Ground.phase }, { on := 7, ground := Ground.phase }, { on := 8, ground := Ground.phase }, { on := 9, ground := Ground.phase }], guard := none }
def told9_ops : Array Oper := #[told9_o0, told9_o1, told9_o2, told9_o3, told9_o4, told9_o5, told9_o6, told9_o7, told9_o8, told9_o9, told9_o10, told9_o11]
set_option maxRecDepth 100000 in
set_option maxHeartbeats 4000000 in
theorem told9 (bx b p : Nat) (tv lv iv kv ov : Value) (S : World → Prop) (Cc Fin : Value → World → Prop) (a : Act) (w : World) (Q : Exit → Act → World → Prop) (hsz : a.tmps.size = 61)
    (t0 : a.tmps.getD 0 undef = tv)
    (t1 : a.tmps.getD 1 undef = lv)
    (t5 : a.tmps.getD 5 undef = .pointer (some ⟨bx, 0, none⟩))
    (t6 : a.tmps.getD 6 undef = iv)
    (GF : ∀ W, (Instr.fieldAt 49 (.pointer (some ⟨bx, 0, none⟩)) 5).run Try.prog W = .ok (.pointer (some ⟨bx, 5, none⟩)) W) (GX : ∀ W, (Instr.indexAt 30 lv iv).run Try.prog W = .ok (.pointer (some ⟨b, p, none⟩)) W) (GK : ∀ W, S W → (Instr.loadAt 35 (.pointer (some ⟨b, p, none⟩))).run Try.prog W = .ok kv W)
    (S0 : S w.drew) (K0 : (Instr.loadAt 47 (.pointer (some ⟨bx, 5, none⟩))).run Try.prog w.drew = .ok ov w.drew) (C0 : Calls Try.prog 18 #[tv, kv] w.drew fun e w' => ∃ dv, e = .returned dv ∧ Cc dv w')
    (HST : ∀ dv X, Cc dv X → ∃ nv w2 qv w3 w4, (Instr.buildSlice 47 1 #[(0, dv)]).run Try.prog X = .ok nv w2 ∧ (Builtin.append_ #[47, 47] 47 #[ov, nv]).run Try.prog w2 = .ok qv w3 ∧ (Instr.storeAt 47 (.pointer (some ⟨bx, 5, none⟩)) qv).run Try.prog w3 = .ok () w4 ∧ S X ∧ S w2 ∧ S w3 ∧ S w4 ∧ (Instr.loadAt 47 (.pointer (some ⟨bx, 5, none⟩))).run Try.prog X = .ok ov X ∧ (Instr.loadAt 47 (.pointer (some ⟨bx, 5, none⟩))).run Try.prog w2 = .ok ov w2 ∧ Fin dv w4)
    (h1 : ∀ (dv nv qv : Value) (a' : Act) (w' : World), Fin dv w' → a' = (((((((((((a).put (some 49) (.pointer (some ⟨bx, 5, none⟩))).put (some 51) (tv)).put (some 52) (lv)).put (some 53) (iv)).put (some 54) (.pointer (some ⟨b, p, none⟩))).put (some 55) (kv)).put (some 50) (ov)).put (some 56) (dv)).put (some 57) (nv)).put (some 58) (qv)).put (some 59) (.pointer (some ⟨bx, 5, none⟩)) → Q .normal a' w')
    (h2 : ∀ (dv nv qv : Value) (a' : Act) (w' : World), Fin dv w' → a' = (((((((((((a).put (some 49) (.pointer (some ⟨bx, 5, none⟩))).put (some 51) (tv)).put (some 52) (lv)).put (some 53) (iv)).put (some 54) (.pointer (some ⟨b, p, none⟩))).put (some 55) (kv)).put (some 56) (dv)).put (some 50) (ov)).put (some 57) (nv)).put (some 58) (qv)).put (some 59) (.pointer (some ⟨bx, 5, none⟩)) → Q .normal a' w')
    (h3 : ∀ (dv nv qv : Value) (a' : Act) (w' : World), Fin dv w' → a' = (((((((((((a).put (some 49) (.pointer (some ⟨bx, 5, none⟩))).put (some 51) (tv)).put (some 52) (lv)).put (some 53) (iv)).put (some 54) (.pointer (some ⟨b, p, none⟩))).put (some 55) (kv)).put (some 56) (dv)).put (some 57) (nv)).put (some 50) (ov)).put (some 58) (qv)).put (some 59) (.pointer (some ⟨bx, 5, none⟩)) → Q .normal a' w') :
    (Code.region 9 told9_ops true).wp Try.prog Q a w := by
  refine wp_region_noPanic ?_
  refine wp_region_held_drew (S := fun w' => S w') (by kernel_rfl) (S0) (fun hHeld => ?_)
  refine tk 0 told9_o0 (.pointer (some ⟨bx, 5, none⟩)) (by rfl) (fun w1 hw => exec_fieldAt rfl t5 (GF _)) hHeld (fun a1 e1 => ?_)
  rw [← e1] at h1 h2 h3
  have z1 := pz e1 hsz
  replace t0 := pk e1 t0
  replace t1 := pk e1 t1
  replace t5 := pk e1 t5
  replace t6 := pk e1 t6
  have t49 := pq e1 hsz
  clear e1 hsz
  refine tk 2 told9_o2 (tv) (by rfl) (fun w1 hw => exec_move rfl t0) hHeld (fun a2 e2 => ?_)
  rw [← e2] at h1 h2 h3
  have z2 := pz e2 z1
  replace t1 := pk e2 t1
  replace t5 := pk e2 t5
  replace t6 := pk e2 t6
  replace t49 := pk e2 t49
  clear t0
  have t51 := pq e2 z1
  clear e2 z1
  refine tk 3 told9_o3 (lv) (by rfl) (fun w1 hw => exec_move rfl t1) hHeld (fun a3 e3 => ?_)
  rw [← e3] at h1 h2 h3
  have z3 := pz e3 z2
  replace t5 := pk e3 t5
  replace t6 := pk e3 t6
  replace t49 := pk e3 t49
  replace t51 := pk e3 t51
  clear t1
  have t52 := pq e3 z2
  clear e3 z2
  refine tk 4 told9_o4 (iv) (by rfl) (fun w1 hw => exec_move rfl t6) hHeld (fun a4 e4 => ?_)
  rw [← e4] at h1 h2 h3
  have z4 := pz e4 z3
  replace t5 := pk e4 t5
  replace t49 := pk e4 t49
  replace t51 := pk e4 t51
  replace t52 := pk e4 t52
  clear t6
  have t53 := pq e4 z3
  clear e4 z3
  refine tk 5 told9_o5 (.pointer (some ⟨b, p, none⟩)) (by rfl) (fun w1 hw => exec_indexAt rfl t52 t53 (GX _)) hHeld (fun a5 e5 => ?_)
  rw [← e5] at h1 h2 h3
  have z5 := pz e5 z4
  replace t5 := pk e5 t5
  replace t49 := pk e5 t49
  replace t51 := pk e5 t51
  clear t52 t53
  have t54 := pq e5 z4
  clear e5 z4
  refine tk 6 told9_o6 (kv) (by rfl) (fun w1 hw => exec_load rfl t54 (GK _ hw)) hHeld (fun a6 e6 => ?_)
  rw [← e6] at h1 h2 h3
  have z6 := pz e6 z5
  replace t5 := pk e6 t5
  replace t49 := pk e6 t49
  replace t51 := pk e6 t51
  clear t54
  have t55 := pq e6 z5
  clear e6 z5
  refine wpAnyH_ready (rs := [1, 7]) (by kernel_rfl) (by simp) ?_
  refine AllReadyH.cons (o := told9_o1) rfl (fun K hK => ?_) (AllReadyH.cons (o := told9_o7) rfl (fun K hK => ?_) (AllReadyH.nil))
  · clear h2 h3
    have X := exec_load (P := Try.prog) (a := a6) (o := told9_o1) rfl t49 K0
    rw [if_pos (by rfl), Oper.wp, X]
    show K _ _
    clear X
    refine hK.out _ _ (S0) (fun hHeld => ?_)
    clear hK K
    change wpAnyH _ _ _ _ _ _ _ (a6.put (some 50) (ov)) _
    obtain ⟨a7, e7⟩ : ∃ act, act = a6.put (some 50) (ov) := ⟨_, rfl⟩
    rw [← e7] at h1 ⊢
    have z7 := pz e7 z6
    replace t5 := pk e7 t5
    replace t51 := pk e7 t51
    replace t55 := pk e7 t55
    clear t49
    have t50 := pq e7 z6
    clear e7 z6
    refine wpAnyH_ready (rs := [7]) (by kernel_rfl) (by simp) ?_
    refine AllReadyH.cons (o := told9_o7) rfl (fun K hK => ?_) AllReadyH.nil
    rw [if_pos (by rfl)]
    unfold told9_o7 at hK ⊢
    go_simp
    refine (C0).mono ?_
    rintro e x8 ⟨dv, rfl, hc⟩
    try go_wp2_with fail
    obtain ⟨nv, w2, qv, w3, w4, EB, EA, ES, S1, S2, S3, S4, K1, K2, FN⟩ := HST dv x8 hc; (try replace h1 := h1 dv nv qv); (try replace h2 := h2 dv nv qv); (try replace h3 := h3 dv nv qv)
    refine hK.out _ _ (S1) (fun hHeld => ?_)
    clear hK K
    change wpAnyH _ _ _ _ _ _ _ (a7.put (some 56) (dv)) _
    obtain ⟨a8, e8⟩ : ∃ act, act = a7.put (some 56) (dv) := ⟨_, rfl⟩
    rw [← e8] at h1 ⊢
    have z8 := pz e8 z7
    replace t5 := pk e8 t5
    replace t50 := pk e8 t50
    clear t51 t55
    have t56 := pq e8 z7
    clear e8 z7
    refine wpAnyH_ready (rs := [8]) (by kernel_rfl) (by simp) ?_
    refine AllReadyH.cons (o := told9_o8) rfl (fun K hK => ?_) AllReadyH.nil
    have X := exec_buildSlice (P := Try.prog) (a := a8) (o := told9_o8) rfl t56 EB
    rw [if_pos (by rfl), Oper.wp, X]
    show K _ _
    clear X
    refine hK.out _ _ (S2) (fun hHeld => ?_)
    clear hK K
    change wpAnyH _ _ _ _ _ _ _ (a8.put (some 57) (nv)) _
    obtain ⟨a9, e9⟩ : ∃ act, act = a8.put (some 57) (nv) := ⟨_, rfl⟩
    rw [← e9] at h1 ⊢
    have z9 := pz e9 z8
    replace t5 := pk e9 t5
    replace t50 := pk e9 t50
    clear t56
    have t57 := pq e9 z8
    clear e9 z8
    refine wpAnyH_ready (rs := [9]) (by kernel_rfl) (by simp) ?_
    refine AllReadyH.cons (o := told9_o9) rfl (fun K hK => ?_) AllReadyH.nil
    have X := exec_append (P := Try.prog) (a := a9) (o := told9_o9) rfl t50 t57 EA
    rw [if_pos (by rfl), Oper.wp, X]
    show K _ _
    clear X
    refine hK.out _ _ (S3) (fun hHeld => ?_)
    clear hK K
    change wpAnyH _ _ _ _ _ _ _ (a9.put (some 58) (qv)) _
    obtain ⟨a10, e10⟩ : ∃ act, act = a9.put (some 58) (qv) := ⟨_, rfl⟩
    rw [← e10] at h1 ⊢
    have z10 := pz e10 z9
    replace t5 := pk e10 t5
    clear t50 t57
    have t58 := pq e10 z9
    clear e10 z9
    refine tk 10 told9_o10 (.pointer (some ⟨bx, 5, none⟩)) (by rfl) (fun w1 hw => exec_fieldAt rfl t5 (GF _)) hHeld (fun a11 e11 => ?_)
    rw [← e11] at h1
    have z11 := pz e11 z10
    replace t58 := pk e11 t58
    clear t5
    have t59 := pq e11 z10
    clear e11 z10
    refine wpAnyH_ready (rs := [11]) (by kernel_rfl) (by simp) ?_
    refine AllReadyH.cons (o := told9_o11) rfl (fun K hK => ?_) AllReadyH.nil
    have X := exec_store (P := Try.prog) (a := a11) (o := told9_o11) rfl t59 t58 ES
    rw [if_pos (by rfl), Oper.wp, X]
    show K _ _
    clear X
    refine hK.out _ _ (S4) (fun hHeld => ?_)
    clear hK K
    exact wpAnyH_done (by kernel_rfl) (NoPanic.normal (h1 _ _ (FN) rfl)) _
  · clear h1
    rw [if_pos (by rfl)]
    unfold told9_o7 at hK ⊢
    go_simp
    refine (C0).mono ?_
    rintro e x13 ⟨dv, rfl, hc⟩
    try go_wp2_with fail
    obtain ⟨nv, w2, qv, w3, w4, EB, EA, ES, S1, S2, S3, S4, K1, K2, FN⟩ := HST dv x13 hc; (try replace h1 := h1 dv nv qv); (try replace h2 := h2 dv nv qv); (try replace h3 := h3 dv nv qv)
    refine hK.out _ _ (S1) (fun hHeld => ?_)
    clear hK K
    change wpAnyH _ _ _ _ _ _ _ (a6.put (some 56) (dv)) _
    obtain ⟨a13, e13⟩ : ∃ act, act = a6.put (some 56) (dv) := ⟨_, rfl⟩
    rw [← e13] at h2 h3 ⊢
    have z13 := pz e13 z6
    replace t5 := pk e13 t5
    replace t49 := pk e13 t49
    clear t51 t55
    have t56 := pq e13 z6
    clear e13 z6
    refine wpAnyH_ready (rs := [1, 8]) (by kernel_rfl) (by simp) ?_
    refine AllReadyH.cons (o := told9_o1) rfl (fun K hK => ?_) (AllReadyH.cons (o := told9_o8) rfl (fun K hK => ?_) (AllReadyH.nil))
    · clear h3
      have X := exec_load (P := Try.prog) (a := a13) (o := told9_o1) rfl t49 K1
      rw [if_pos (by rfl), Oper.wp, X]
      show K _ _
      clear X
      refine hK.out _ _ (S1) (fun hHeld => ?_)
      clear hK K
      change wpAnyH _ _ _ _ _ _ _ (a13.put (some 50) (ov)) _
      obtain ⟨a14, e14⟩ : ∃ act, act = a13.put (some 50) (ov) := ⟨_, rfl⟩
      rw [← e14] at h2 ⊢
      have z14 := pz e14 z13
      replace t5 := pk e14 t5
      replace t56 := pk e14 t56
      clear t49
      have t50 := pq e14 z13
      clear e14 z13
      refine wpAnyH_ready (rs := [8]) (by kernel_rfl) (by simp) ?_
      refine AllReadyH.cons (o := told9_o8) rfl (fun K hK => ?_) AllReadyH.nil
      have X := exec_buildSlice (P := Try.prog) (a := a14) (o := told9_o8) rfl t56 EB
      rw [if_pos (by rfl), Oper.wp, X]
      show K _ _
      clear X
      refine hK.out _ _ (S2) (fun hHeld => ?_)
      clear hK K
      change wpAnyH _ _ _ _ _ _ _ (a14.put (some 57) (nv)) _
      obtain ⟨a15, e15⟩ : ∃ act, act = a14.put (some 57) (nv) := ⟨_, rfl⟩
      rw [← e15] at h2 ⊢
      have z15 := pz e15 z14
      replace t5 := pk e15 t5
      replace t50 := pk e15 t50
      clear t56
      have t57 := pq e15 z14
      clear e15 z14
      refine wpAnyH_ready (rs := [9]) (by kernel_rfl) (by simp) ?_
      refine AllReadyH.cons (o := told9_o9) rfl (fun K hK => ?_) AllReadyH.nil
      have X := exec_append (P := Try.prog) (a := a15) (o := told9_o9) rfl t50 t57 EA
      rw [if_pos (by rfl), Oper.wp, X]
      show K _ _
      clear X
      refine hK.out _ _ (S3) (fun hHeld => ?_)
      clear hK K
      change wpAnyH _ _ _ _ _ _ _ (a15.put (some 58) (qv)) _
      obtain ⟨a16, e16⟩ : ∃ act, act = a15.put (some 58) (qv) := ⟨_, rfl⟩
      rw [← e16] at h2 ⊢
      have z16 := pz e16 z15
      replace t5 := pk e16 t5
      clear t50 t57
      have t58 := pq e16 z15
      clear e16 z15
      refine tk 10 told9_o10 (.pointer (some ⟨bx, 5, none⟩)) (by rfl) (fun w1 hw => exec_fieldAt rfl t5 (GF _)) hHeld (fun a17 e17 => ?_)
      rw [← e17] at h2
      have z17 := pz e17 z16
      replace t58 := pk e17 t58
      clear t5
      have t59 := pq e17 z16
      clear e17 z16
      refine wpAnyH_ready (rs := [11]) (by kernel_rfl) (by simp) ?_
      refine AllReadyH.cons (o := told9_o11) rfl (fun K hK => ?_) AllReadyH.nil
      have X := exec_store (P := Try.prog) (a := a17) (o := told9_o11) rfl t59 t58 ES
      rw [if_pos (by rfl), Oper.wp, X]
      show K _ _
      clear X
      refine hK.out _ _ (S4) (fun hHeld => ?_)
      clear hK K
      exact wpAnyH_done (by kernel_rfl) (NoPanic.normal (h2 _ _ (FN) rfl)) _
    · clear h2
      have X := exec_buildSlice (P := Try.prog) (a := a13) (o := told9_o8) rfl t56 EB
      rw [if_pos (by rfl), Oper.wp, X]
      show K _ _
      clear X
      refine hK.out _ _ (S2) (fun hHeld => ?_)
      clear hK K
      change wpAnyH _ _ _ _ _ _ _ (a13.put (some 57) (nv)) _
      obtain ⟨a19, e19⟩ : ∃ act, act = a13.put (some 57) (nv) := ⟨_, rfl⟩
      rw [← e19] at h3 ⊢
      have z19 := pz e19 z13
      replace t5 := pk e19 t5
      replace t49 := pk e19 t49
      clear t56
      have t57 := pq e19 z13
      clear e19 z13
      refine wpAnyH_ready (rs := [1]) (by kernel_rfl) (by simp) ?_
      refine AllReadyH.cons (o := told9_o1) rfl (fun K hK => ?_) AllReadyH.nil
      have X := exec_load (P := Try.prog) (a := a19) (o := told9_o1) rfl t49 K2
      rw [if_pos (by rfl), Oper.wp, X]
      show K _ _
      clear X
      refine hK.out _ _ (S2) (fun hHeld => ?_)
      clear hK K
      change wpAnyH _ _ _ _ _ _ _ (a19.put (some 50) (ov)) _
      obtain ⟨a20, e20⟩ : ∃ act, act = a19.put (some 50) (ov) := ⟨_, rfl⟩
      rw [← e20] at h3 ⊢
      have z20 := pz e20 z19
      replace t5 := pk e20 t5
      replace t57 := pk e20 t57
      clear t49
      have t50 := pq e20 z19
      clear e20 z19
      refine wpAnyH_ready (rs := [9]) (by kernel_rfl) (by simp) ?_
      refine AllReadyH.cons (o := told9_o9) rfl (fun K hK => ?_) AllReadyH.nil
      have X := exec_append (P := Try.prog) (a := a20) (o := told9_o9) rfl t50 t57 EA
      rw [if_pos (by rfl), Oper.wp, X]
      show K _ _
      clear X
      refine hK.out _ _ (S3) (fun hHeld => ?_)
      clear hK K
      change wpAnyH _ _ _ _ _ _ _ (a20.put (some 58) (qv)) _
      obtain ⟨a21, e21⟩ : ∃ act, act = a20.put (some 58) (qv) := ⟨_, rfl⟩
      rw [← e21] at h3 ⊢
      have z21 := pz e21 z20
      replace t5 := pk e21 t5
      clear t57 t50
      have t58 := pq e21 z20
      clear e21 z20
      refine tk 10 told9_o10 (.pointer (some ⟨bx, 5, none⟩)) (by rfl) (fun w1 hw => exec_fieldAt rfl t5 (GF _)) hHeld (fun a22 e22 => ?_)
      rw [← e22] at h3
      have z22 := pz e22 z21
      replace t58 := pk e22 t58
      clear t5
      have t59 := pq e22 z21
      clear e22 z21
      refine wpAnyH_ready (rs := [11]) (by kernel_rfl) (by simp) ?_
      refine AllReadyH.cons (o := told9_o11) rfl (fun K hK => ?_) AllReadyH.nil
      have X := exec_store (P := Try.prog) (a := a22) (o := told9_o11) rfl t59 t58 ES
      rw [if_pos (by rfl), Oper.wp, X]
      show K _ _
      clear X
      refine hK.out _ _ (S4) (fun hHeld => ?_)
      clear hK K
      exact wpAnyH_done (by kernel_rfl) (NoPanic.normal (h3 _ _ (FN) rfl)) _
def same6_o0 : Oper := { dst := some 51, op := Op.fieldAddr 49 (Operand.tmp 2) 4, type := 0, pos := "outright.go:188", after := #[], guard := none }
def same6_o1 : Oper := { dst := some 52, op := Op.load 46 (Operand.tmp 51), type := 46, pos := "outright.go:188", after := #[{ on := 0, ground := Ground.data }], guard := none }
def same6_o2 : Oper := { dst := some 53, op := Op.move (Operand.tmp 5), type := 3, pos := "outright.go:188", after := #[], guard := none }
def same6_o3 : Oper := { dst := some 54, op := Op.indexAddr 46 (Operand.tmp 52) (Operand.tmp 53), type := 0, pos := "outright.go:188", after := #[{ on := 1, ground := Ground.data }, { on := 2, ground := Ground.data }], guard := none }
def same6_o4 : Oper := { dst := some 55, op := Op.load 4 (Operand.tmp 54), type := 4, pos := "outright.go:188", after := #[{ on := 3, ground := Ground.data }], guard := none }
def same6_o5 : Oper := { dst := some 56, op := Op.fieldAddr 49 (Operand.tmp 3) 4, type := 0, pos := "outright.go:188", after := #[], guard := none }
def same6_o6 : Oper := { dst := some 57, op := Op.load 46 (Operand.tmp 56), type := 46, pos := "outright.go:188", after := #[{ on := 5, ground := Ground.data }], guard := none }
def same6_o7 : Oper := { dst := some 58, op := Op.move (Operand.tmp 5), type := 3, pos := "outright.go:188", after := #[], guard := none }
def same6_o8 : Oper := { dst := some 59, op := Op.indexAddr 46 (Operand.tmp 57) (Operand.tmp 58), type := 0, pos := "outright.go:188", after := #[{ on := 6, ground := Ground.data }, { on := 7, ground := Ground.data }], guard := none }
def same6_o9 : Oper := { dst := some 60, op := Op.load 4 (Operand.tmp 59), type := 4, pos := "outright.go:188", after := #[{ on := 8, ground := Ground.data }], guard := none }
def same6_o10 : Oper := { dst := some 61, op := Op.binOp BinOp.neq 4 (Operand.tmp 55) (Operand.tmp 60) 4, type := 4, pos := "outright.go:188", after := #[{ on := 4, ground := Ground.data }, { on := 9, ground := Ground.data }], guard := none }
def same6_o11 : Oper := { dst := some 62, op := Op.move (Operand.tmp 61), type := 4, pos := "outright.go:188", after := #[{ on := 10, ground := Ground.data }], guard := none }
def same6_o12 : Oper := { dst := some 63, op := Op.fieldAddr 49 (Operand.tmp 2) 5, type := 0, pos := "outright.go:188", after := #[{ on := 11, ground := Ground.guard }], guard := some (11, false) }
def same6_o13 : Oper := { dst := some 64, op := Op.load 47 (Operand.tmp 63), type := 47, pos := "outright.go:188", after := #[{ on := 12, ground := Ground.data }, { on := 11, ground := Ground.guard }], guard := some (11, false) }
def same6_o14 : Oper := { dst := some 65, op := Op.move (Operand.tmp 5), type := 3, pos := "outright.go:188", after := #[{ on := 11, ground := Ground.guard }], guard := some (11, false) }
def same6_o15 : Oper := { dst := some 66, op := Op.indexAddr 47 (Operand.tmp 64) (Operand.tmp 65), type := 0, pos := "outright.go:188", after := #[{ on := 13, ground := Ground.data }, { on := 14, ground := Ground.data }, { on := 11, ground := Ground.guard }], guard := some (11, false) }
def same6_o16 : Oper := { dst := some 67, op := Op.load 3 (Operand.tmp 66), type := 3, pos := "outright.go:188", after := #[{ on := 15, ground := Ground.data }, { on := 11, ground := Ground.guard }], guard := some (11, false) }
def same6_o17 : Oper := { dst := some 68, op := Op.fieldAddr 49 (Operand.tmp 3) 5, type := 0, pos := "outright.go:188", after := #[{ on := 11, ground := Ground.guard }], guard := some (11, false) }
def same6_o18 : Oper := { dst := some 69, op := Op.load 47 (Operand.tmp 68), type := 47, pos := "outright.go:188", after := #[{ on := 17, ground := Ground.data }, { on := 11, ground := Ground.guard }], guard := some (11, false) }
def same6_o19 : Oper := { dst := some 70, op := Op.move (Operand.tmp 5), type := 3, pos := "outright.go:188", after := #[{ on := 11, ground := Ground.guard }], guard := some (11, false) }
def same6_o20 : Oper := { dst := some 71, op := Op.indexAddr 47 (Operand.tmp 69) (Operand.tmp 70), type := 0, pos := "outright.go:188", after := #[{ on := 18, ground := Ground.data }, { on := 19, ground := Ground.data }, { on := 11, ground := Ground.guard }], guard := some (11, false) }
def same6_o21 : Oper := { dst := some 72, op := Op.load 3 (Operand.tmp 71), type := 3, pos := "outright.go:188", after := #[{ on := 20, ground := Ground.data }, { on := 11, ground := Ground.guard }], guard := some (11, false) }
def same6_o22 : Oper := { dst := some 73, op := Op.binOp BinOp.neq 3 (Operand.tmp 67) (Operand.tmp 72) 3, type := 4, pos := "outright.go:188", after := #[{ on := 16, ground := Ground.data }, { on := 21, ground := Ground.data }, { on := 11, ground := Ground.guard }], guard := some (11, false) }
def same6_o23 : Oper := { dst := some 74, op := Op.pick (Operand.tmp 62) (Operand.const (Value.bool true)) (Operand.tmp 73), type := 4, pos := "outright.go:188", after := #[{ on := 11, ground := Ground.data }, { on := 22, ground := Ground.data }], guard := none }
def same6_ops : Array Oper := #[same6_o0, same6_o1, same6_o2, same6_o3, same6_o4, same6_o5, same6_o6, same6_o7, same6_o8, same6_o9, same6_o10, same6_o11, same6_o12, same6_o13, same6_o14, same6_o15, same6_o16, same6_o17, same6_o18, same6_o19, same6_o20, same6_o21, same6_o22, same6_o23]
set_option maxRecDepth 100000 in
set_option maxHeartbeats 4000000 in
theorem same6 (S : World → Prop) (ba bb ka o1 kb o2 kc o3 kd o4 : Nat) (iv la lb ma mb zv : Value) (q : Bool) (a : Act) (w : World) (Q : Exit → Act → World → Prop) (hsz : a.tmps.size = 75)
    (t2 : a.tmps.getD 2 undef = .pointer (some ⟨ba, 0, none⟩))
    (t3 : a.tmps.getD 3 undef = .pointer (some ⟨bb, 0, none⟩))
    (t5 : a.tmps.getD 5 undef = iv)
    (h0 : S w.drew)
    (G1 : ∀ W, S W → (Instr.loadAt 46 (.pointer (some ⟨ba, 0 + 4, none⟩))).run Try.prog W = .ok (la) W)
    (G2 : ∀ W, (Instr.indexAt 46 (la) (iv)).run Try.prog W = .ok (.pointer (some ⟨ka, o1, none⟩)) W)
    (G3 : ∀ W, S W → (Instr.loadAt 4 (.pointer (some ⟨ka, o1, none⟩))).run Try.prog W = .ok (.bool q) W)
    (G4 : ∀ W, S W → (Instr.loadAt 46 (.pointer (some ⟨bb, 0 + 4, none⟩))).run Try.prog W = .ok (lb) W)
    (G5 : ∀ W, (Instr.indexAt 46 (lb) (iv)).run Try.prog W = .ok (.pointer (some ⟨kb, o2, none⟩)) W)
    (G6 : ∀ W, S W → (Instr.loadAt 4 (.pointer (some ⟨kb, o2, none⟩))).run Try.prog W = .ok (.bool q) W)
    (G7 : ∀ W, (eqGuard BinOp.neq 4 (Operand.tmp 55) (Operand.tmp 60) (.bool q) (.bool q)).run Try.prog W = .ok () W)
    (G8 : ∀ W, S W → (binOp BinOp.neq 4 (.bool q) (.bool q)).run Try.prog W = .ok (.bool false) W)
    (G9 : ∀ W, S W → (Instr.loadAt 47 (.pointer (some ⟨ba, 0 + 5, none⟩))).run Try.prog W = .ok (ma) W)
    (G10 : ∀ W, (Instr.indexAt 47 (ma) (iv)).run Try.prog W = .ok (.pointer (some ⟨kc, o3, none⟩)) W)
    (G11 : ∀ W, S W → (Instr.loadAt 3 (.pointer (some ⟨kc, o3, none⟩))).run Try.prog W = .ok (zv) W)
    (G12 : ∀ W, S W → (Instr.loadAt 47 (.pointer (some ⟨bb, 0 + 5, none⟩))).run Try.prog W = .ok (mb) W)
    (G13 : ∀ W, (Instr.indexAt 47 (mb) (iv)).run Try.prog W = .ok (.pointer (some ⟨kd, o4, none⟩)) W)
    (G14 : ∀ W, S W → (Instr.loadAt 3 (.pointer (some ⟨kd, o4, none⟩))).run Try.prog W = .ok (zv) W)
    (G15 : ∀ W, (eqGuard BinOp.neq 3 (Operand.tmp 67) (Operand.tmp 72) (zv) (zv)).run Try.prog W = .ok () W)
    (G16 : ∀ W, S W → (binOp BinOp.neq 3 (zv) (zv)).run Try.prog W = .ok (.bool false) W)
    (h : ∀ (a' : Act) (w' : World), S w' → a' = ((((((((((((((((((((((((a).put (some 51) (.pointer (some ⟨ba, 0 + 4, none⟩))).put (some 52) (la)).put (some 53) (iv)).put (some 54) (.pointer (some ⟨ka, o1, none⟩))).put (some 55) (.bool q)).put (some 56) (.pointer (some ⟨bb, 0 + 4, none⟩))).put (some 57) (lb)).put (some 58) (iv)).put (some 59) (.pointer (some ⟨kb, o2, none⟩))).put (some 60) (.bool q)).put (some 61) (.bool false)).put (some 62) (.bool false)).put (some 63) (.pointer (some ⟨ba, 0 + 5, none⟩))).put (some 64) (ma)).put (some 65) (iv)).put (some 66) (.pointer (some ⟨kc, o3, none⟩))).put (some 67) (zv)).put (some 68) (.pointer (some ⟨bb, 0 + 5, none⟩))).put (some 69) (mb)).put (some 70) (iv)).put (some 71) (.pointer (some ⟨kd, o4, none⟩))).put (some 72) (zv)).put (some 73) (.bool false)).put (some 74) (.bool false) → Q .normal a' w') :
    (Code.region 6 same6_ops true).wp Try.prog Q a w := by
  refine wp_region_noPanic ?_
  refine wp_region_held_drew (S := fun w' => S w') (by kernel_rfl) (h0) (fun hHeld => ?_)
  change wpAnyH _ _ _ _ _ _ _ a _
  refine tk 0 same6_o0 (.pointer (some ⟨ba, 0 + 4, none⟩)) (by rfl) (fun w1 hw => exec_fieldAt rfl t2 (fg_49_4 _ _ _)) hHeld (fun a1 e1 => ?_)
  rw [← e1] at h
  have z1 := pz e1 hsz
  replace t2 := pk e1 t2
  replace t3 := pk e1 t3
  replace t5 := pk e1 t5
  have t51 := pq e1 hsz
  clear e1 hsz
  refine tk 1 same6_o1 (la) (by rfl) (fun w1 hw => exec_load rfl t51 (G1 _ hw)) hHeld (fun a2 e2 => ?_)
  rw [← e2] at h
  have z2 := pz e2 z1
  replace t2 := pk e2 t2
  replace t3 := pk e2 t3
  replace t5 := pk e2 t5
  clear t51
  have t52 := pq e2 z1
  clear e2 z1
  refine tk 2 same6_o2 (iv) (by rfl) (fun w1 hw => exec_move rfl t5) hHeld (fun a3 e3 => ?_)
  rw [← e3] at h
  have z3 := pz e3 z2
  replace t2 := pk e3 t2
  replace t3 := pk e3 t3
  replace t5 := pk e3 t5
  replace t52 := pk e3 t52
  have t53 := pq e3 z2
  clear e3 z2
  refine tk 3 same6_o3 (.pointer (some ⟨ka, o1, none⟩)) (by rfl) (fun w1 hw => exec_indexAt rfl t52 t53 (G2 _)) hHeld (fun a4 e4 => ?_)
  rw [← e4] at h
  have z4 := pz e4 z3
  replace t2 := pk e4 t2
  replace t3 := pk e4 t3
  replace t5 := pk e4 t5
  clear t52 t53
  have t54 := pq e4 z3
  clear e4 z3
  refine tk 4 same6_o4 (.bool q) (by rfl) (fun w1 hw => exec_load rfl t54 (G3 _ hw)) hHeld (fun a5 e5 => ?_)
  rw [← e5] at h
  have z5 := pz e5 z4
  replace t2 := pk e5 t2
  replace t3 := pk e5 t3
  replace t5 := pk e5 t5
  clear t54
  have t55 := pq e5 z4
  clear e5 z4
  refine tk 5 same6_o5 (.pointer (some ⟨bb, 0 + 4, none⟩)) (by rfl) (fun w1 hw => exec_fieldAt rfl t3 (fg_49_4 _ _ _)) hHeld (fun a6 e6 => ?_)
  rw [← e6] at h
  have z6 := pz e6 z5
  replace t2 := pk e6 t2
  replace t3 := pk e6 t3
  replace t5 := pk e6 t5
  replace t55 := pk e6 t55
  have t56 := pq e6 z5
  clear e6 z5
  refine tk 6 same6_o6 (lb) (by rfl) (fun w1 hw => exec_load rfl t56 (G4 _ hw)) hHeld (fun a7 e7 => ?_)
  rw [← e7] at h
  have z7 := pz e7 z6
  replace t2 := pk e7 t2
  replace t3 := pk e7 t3
  replace t5 := pk e7 t5
  replace t55 := pk e7 t55
  clear t56
  have t57 := pq e7 z6
  clear e7 z6
  refine tk 7 same6_o7 (iv) (by rfl) (fun w1 hw => exec_move rfl t5) hHeld (fun a8 e8 => ?_)
  rw [← e8] at h
  have z8 := pz e8 z7
  replace t2 := pk e8 t2
  replace t3 := pk e8 t3
  replace t5 := pk e8 t5
  replace t55 := pk e8 t55
  replace t57 := pk e8 t57
  have t58 := pq e8 z7
  clear e8 z7
  refine tk 8 same6_o8 (.pointer (some ⟨kb, o2, none⟩)) (by rfl) (fun w1 hw => exec_indexAt rfl t57 t58 (G5 _)) hHeld (fun a9 e9 => ?_)
  rw [← e9] at h
  have z9 := pz e9 z8
  replace t2 := pk e9 t2
  replace t3 := pk e9 t3
  replace t5 := pk e9 t5
  replace t55 := pk e9 t55
  clear t57 t58
  have t59 := pq e9 z8
  clear e9 z8
  refine tk 9 same6_o9 (.bool q) (by rfl) (fun w1 hw => exec_load rfl t59 (G6 _ hw)) hHeld (fun a10 e10 => ?_)
  rw [← e10] at h
  have z10 := pz e10 z9
  replace t2 := pk e10 t2
  replace t3 := pk e10 t3
  replace t5 := pk e10 t5
  replace t55 := pk e10 t55
  clear t59
  have t60 := pq e10 z9
  clear e10 z9
  refine tk 10 same6_o10 (.bool false) (by rfl) (fun w1 hw => exec_binOp rfl t55 t60 (G7 _) (G8 _ hw)) hHeld (fun a11 e11 => ?_)
  rw [← e11] at h
  have z11 := pz e11 z10
  replace t2 := pk e11 t2
  replace t3 := pk e11 t3
  replace t5 := pk e11 t5
  clear t55 t60
  have t61 := pq e11 z10
  clear e11 z10
  refine tk 11 same6_o11 (.bool false) (by rfl) (fun w1 hw => exec_move rfl t61) hHeld (fun a12 e12 => ?_)
  rw [← e12] at h
  have z12 := pz e12 z11
  replace t2 := pk e12 t2
  replace t3 := pk e12 t3
  replace t5 := pk e12 t5
  clear t61
  have t62 := pq e12 z11
  clear e12 z11
  refine tk 12 same6_o12 (.pointer (some ⟨ba, 0 + 5, none⟩)) (by simp [Region.wanted, yielded, same6_ops, same6_o12, same6_o11, tget z12 (by decide) t62]) (fun w1 hw => exec_fieldAt rfl t2 (fg_49_5 _ _ _)) hHeld (fun a13 e13 => ?_)
  rw [← e13] at h
  have z13 := pz e13 z12
  replace t3 := pk e13 t3
  replace t5 := pk e13 t5
  replace t62 := pk e13 t62
  clear t2
  have t63 := pq e13 z12
  clear e13 z12
  refine tk 13 same6_o13 (ma) (by simp [Region.wanted, yielded, same6_ops, same6_o13, same6_o11, tget z13 (by decide) t62]) (fun w1 hw => exec_load rfl t63 (G9 _ hw)) hHeld (fun a14 e14 => ?_)
  rw [← e14] at h
  have z14 := pz e14 z13
  replace t3 := pk e14 t3
  replace t5 := pk e14 t5
  replace t62 := pk e14 t62
  clear t63
  have t64 := pq e14 z13
  clear e14 z13
  refine tk 14 same6_o14 (iv) (by simp [Region.wanted, yielded, same6_ops, same6_o14, same6_o11, tget z14 (by decide) t62]) (fun w1 hw => exec_move rfl t5) hHeld (fun a15 e15 => ?_)
  rw [← e15] at h
  have z15 := pz e15 z14
  replace t3 := pk e15 t3
  replace t5 := pk e15 t5
  replace t62 := pk e15 t62
  replace t64 := pk e15 t64
  have t65 := pq e15 z14
  clear e15 z14
  refine tk 15 same6_o15 (.pointer (some ⟨kc, o3, none⟩)) (by simp [Region.wanted, yielded, same6_ops, same6_o15, same6_o11, tget z15 (by decide) t62]) (fun w1 hw => exec_indexAt rfl t64 t65 (G10 _)) hHeld (fun a16 e16 => ?_)
  rw [← e16] at h
  have z16 := pz e16 z15
  replace t3 := pk e16 t3
  replace t5 := pk e16 t5
  replace t62 := pk e16 t62
  clear t64 t65
  have t66 := pq e16 z15
  clear e16 z15
  refine tk 16 same6_o16 (zv) (by simp [Region.wanted, yielded, same6_ops, same6_o16, same6_o11, tget z16 (by decide) t62]) (fun w1 hw => exec_load rfl t66 (G11 _ hw)) hHeld (fun a17 e17 => ?_)
  rw [← e17] at h
  have z17 := pz e17 z16
  replace t3 := pk e17 t3
  replace t5 := pk e17 t5
  replace t62 := pk e17 t62
  clear t66
  have t67 := pq e17 z16
  clear e17 z16
  refine tk 17 same6_o17 (.pointer (some ⟨bb, 0 + 5, none⟩)) (by simp [Region.wanted, yielded, same6_ops, same6_o17, same6_o11, tget z17 (by decide) t62]) (fun w1 hw => exec_fieldAt rfl t3 (fg_49_5 _ _ _)) hHeld (fun a18 e18 => ?_)
  rw [← e18] at h
  have z18 := pz e18 z17
  replace t5 := pk e18 t5
  replace t62 := pk e18 t62
  replace t67 := pk e18 t67
  clear t3
  have t68 := pq e18 z17
  clear e18 z17
  refine tk 18 same6_o18 (mb) (by simp [Region.wanted, yielded, same6_ops, same6_o18, same6_o11, tget z18 (by decide) t62]) (fun w1 hw => exec_load rfl t68 (G12 _ hw)) hHeld (fun a19 e19 => ?_)
  rw [← e19] at h
  have z19 := pz e19 z18
  replace t5 := pk e19 t5
  replace t62 := pk e19 t62
  replace t67 := pk e19 t67
  clear t68
  have t69 := pq e19 z18
  clear e19 z18
  refine tk 19 same6_o19 (iv) (by simp [Region.wanted, yielded, same6_ops, same6_o19, same6_o11, tget z19 (by decide) t62]) (fun w1 hw => exec_move rfl t5) hHeld (fun a20 e20 => ?_)
  rw [← e20] at h
  have z20 := pz e20 z19
  replace t62 := pk e20 t62
  replace t67 := pk e20 t67
  replace t69 := pk e20 t69
  clear t5
  have t70 := pq e20 z19
  clear e20 z19
  refine tk 20 same6_o20 (.pointer (some ⟨kd, o4, none⟩)) (by simp [Region.wanted, yielded, same6_ops, same6_o20, same6_o11, tget z20 (by decide) t62]) (fun w1 hw => exec_indexAt rfl t69 t70 (G13 _)) hHeld (fun a21 e21 => ?_)
  rw [← e21] at h
  have z21 := pz e21 z20
  replace t62 := pk e21 t62
  replace t67 := pk e21 t67
  clear t69 t70
  have t71 := pq e21 z20
  clear e21 z20
  refine tk 21 same6_o21 (zv) (by simp [Region.wanted, yielded, same6_ops, same6_o21, same6_o11, tget z21 (by decide) t62]) (fun w1 hw => exec_load rfl t71 (G14 _ hw)) hHeld (fun a22 e22 => ?_)
  rw [← e22] at h
  have z22 := pz e22 z21
  replace t62 := pk e22 t62
  replace t67 := pk e22 t67
  clear t71
  have t72 := pq e22 z21
  clear e22 z21
  refine tk 22 same6_o22 (.bool false) (by simp [Region.wanted, yielded, same6_ops, same6_o22, same6_o11, tget z22 (by decide) t62]) (fun w1 hw => exec_binOp rfl t67 t72 (G15 _) (G16 _ hw)) hHeld (fun a23 e23 => ?_)
  rw [← e23] at h
  have z23 := pz e23 z22
  replace t62 := pk e23 t62
  clear t67 t72
  have t73 := pq e23 z22
  clear e23 z22
  refine tk 23 same6_o23 (.bool false) (by rfl) (fun w1 hw => by unfold same6_o23; go_simp) hHeld (fun a24 e24 => ?_)
  rw [← e24] at h
  have z24 := pz e24 z23
  clear t62 t73
  clear e24 z23
  exact wpAnyH_done (by kernel_rfl) (NoPanic.normal (h _ _ (hHeld) rfl)) _
def texts6_o0 : Oper := { dst := some 17, op := Op.move (Operand.tmp 0), type := 45, pos := "mem.go:153", after := #[], guard := none }
def texts6_o1 : Oper := { dst := some 18, op := Op.move (Operand.tmp 5), type := 3, pos := "mem.go:153", after := #[], guard := none }
def texts6_o2 : Oper := { dst := some 19, op := Op.indexAddr 45 (Operand.tmp 17) (Operand.tmp 18), type := 0, pos := "mem.go:153", after := #[{ on := 0, ground := Ground.data }, { on := 1, ground := Ground.data }], guard := none }
def texts6_o3 : Oper := { dst := some 20, op := Op.load 9 (Operand.tmp 19), type := 9, pos := "mem.go:153", after := #[{ on := 2, ground := Ground.data }], guard := none }
def texts6_o4 : Oper := { dst := some 21, op := Op.move (Operand.tmp 1), type := 45, pos := "mem.go:153", after := #[], guard := none }
def texts6_o5 : Oper := { dst := some 22, op := Op.move (Operand.tmp 5), type := 3, pos := "mem.go:153", after := #[], guard := none }
def texts6_o6 : Oper := { dst := some 23, op := Op.indexAddr 45 (Operand.tmp 21) (Operand.tmp 22), type := 0, pos := "mem.go:153", after := #[{ on := 4, ground := Ground.data }, { on := 5, ground := Ground.data }], guard := none }
def texts6_o7 : Oper := { dst := some 24, op := Op.load 9 (Operand.tmp 23), type := 9, pos := "mem.go:153", after := #[{ on := 6, ground := Ground.data }], guard := none }
def texts6_o8 : Oper := { dst := some 25, op := Op.binOp BinOp.neq 9 (Operand.tmp 20) (Operand.tmp 24) 9, type := 4, pos := "mem.go:153", after := #[{ on := 3, ground := Ground.data }, { on := 7, ground := Ground.data }], guard := none }
def texts6_ops : Array Oper := #[texts6_o0, texts6_o1, texts6_o2, texts6_o3, texts6_o4, texts6_o5, texts6_o6, texts6_o7, texts6_o8]
set_option maxRecDepth 100000 in
set_option maxHeartbeats 4000000 in
theorem texts6 (S : World → Prop) (ka p kb q : Nat) (iv la lb : Value) (s : ByteArray) (a : Act) (w : World) (Q : Exit → Act → World → Prop) (hsz : a.tmps.size = 26)
    (t0 : a.tmps.getD 0 undef = la)
    (t1 : a.tmps.getD 1 undef = lb)
    (t5 : a.tmps.getD 5 undef = iv)
    (h0 : S w.drew)
    (G1 : ∀ W, (Instr.indexAt 45 (la) (iv)).run Try.prog W = .ok (.pointer (some ⟨ka, p, none⟩)) W)
    (G2 : ∀ W, S W → (Instr.loadAt 9 (.pointer (some ⟨ka, p, none⟩))).run Try.prog W = .ok (.string s) W)
    (G3 : ∀ W, (Instr.indexAt 45 (lb) (iv)).run Try.prog W = .ok (.pointer (some ⟨kb, q, none⟩)) W)
    (G4 : ∀ W, S W → (Instr.loadAt 9 (.pointer (some ⟨kb, q, none⟩))).run Try.prog W = .ok (.string s) W)
    (G5 : ∀ W, (eqGuard BinOp.neq 9 (Operand.tmp 20) (Operand.tmp 24) (.string s) (.string s)).run Try.prog W = .ok () W)
    (G6 : ∀ W, S W → (binOp BinOp.neq 9 (.string s) (.string s)).run Try.prog W = .ok (.bool false) W)
    (h : ∀ (a' : Act) (w' : World), S w' → a' = (((((((((a).put (some 17) (la)).put (some 18) (iv)).put (some 19) (.pointer (some ⟨ka, p, none⟩))).put (some 20) (.string s)).put (some 21) (lb)).put (some 22) (iv)).put (some 23) (.pointer (some ⟨kb, q, none⟩))).put (some 24) (.string s)).put (some 25) (.bool false) → Q .normal a' w') :
    (Code.region 6 texts6_ops true).wp Try.prog Q a w := by
  refine wp_region_noPanic ?_
  refine wp_region_held_drew (S := fun w' => S w') (by kernel_rfl) (h0) (fun hHeld => ?_)
  refine tk 0 texts6_o0 (la) (by rfl) (fun w1 hw => exec_move rfl t0) hHeld (fun a1 e1 => ?_)
  rw [← e1] at h
  have z1 := pz e1 hsz
  replace t1 := pk e1 t1
  replace t5 := pk e1 t5
  clear t0
  have t17 := pq e1 hsz
  clear e1 hsz
  refine tk 1 texts6_o1 (iv) (by rfl) (fun w1 hw => exec_move rfl t5) hHeld (fun a2 e2 => ?_)
  rw [← e2] at h
  have z2 := pz e2 z1
  replace t1 := pk e2 t1
  replace t5 := pk e2 t5
  replace t17 := pk e2 t17
  have t18 := pq e2 z1
  clear e2 z1
  refine tk 2 texts6_o2 (.pointer (some ⟨ka, p, none⟩)) (by rfl) (fun w1 hw => exec_indexAt rfl t17 t18 (G1 _)) hHeld (fun a3 e3 => ?_)
  rw [← e3] at h
  have z3 := pz e3 z2
  replace t1 := pk e3 t1
  replace t5 := pk e3 t5
  clear t17 t18
  have t19 := pq e3 z2
  clear e3 z2
  refine tk 3 texts6_o3 (.string s) (by rfl) (fun w1 hw => exec_load rfl t19 (G2 _ hw)) hHeld (fun a4 e4 => ?_)
  rw [← e4] at h
  have z4 := pz e4 z3
  replace t1 := pk e4 t1
  replace t5 := pk e4 t5
  clear t19
  have t20 := pq e4 z3
  clear e4 z3
  refine tk 4 texts6_o4 (lb) (by rfl) (fun w1 hw => exec_move rfl t1) hHeld (fun a5 e5 => ?_)
  rw [← e5] at h
  have z5 := pz e5 z4
  replace t5 := pk e5 t5
  replace t20 := pk e5 t20
  clear t1
  have t21 := pq e5 z4
  clear e5 z4
  refine tk 5 texts6_o5 (iv) (by rfl) (fun w1 hw => exec_move rfl t5) hHeld (fun a6 e6 => ?_)
  rw [← e6] at h
  have z6 := pz e6 z5
  replace t20 := pk e6 t20
  replace t21 := pk e6 t21
  clear t5
  have t22 := pq e6 z5
  clear e6 z5
  refine tk 6 texts6_o6 (.pointer (some ⟨kb, q, none⟩)) (by rfl) (fun w1 hw => exec_indexAt rfl t21 t22 (G3 _)) hHeld (fun a7 e7 => ?_)
  rw [← e7] at h
  have z7 := pz e7 z6
  replace t20 := pk e7 t20
  clear t21 t22
  have t23 := pq e7 z6
  clear e7 z6
  refine tk 7 texts6_o7 (.string s) (by rfl) (fun w1 hw => exec_load rfl t23 (G4 _ hw)) hHeld (fun a8 e8 => ?_)
  rw [← e8] at h
  have z8 := pz e8 z7
  replace t20 := pk e8 t20
  clear t23
  have t24 := pq e8 z7
  clear e8 z7
  refine tk 8 texts6_o8 (.bool false) (by rfl) (fun w1 hw => exec_binOp rfl t20 t24 (G5 _) (G6 _ hw)) hHeld (fun a9 e9 => ?_)
  rw [← e9] at h
  have z9 := pz e9 z8
  clear t20 t24
  clear e9 z8
  exact wpAnyH_done (by kernel_rfl) (NoPanic.normal (h _ _ (hHeld) rfl)) _
end Go.Proofs.Ytoofljkgdjjllab

namespace Go.Proofs.Ytoofljkgdjjllab
open Go.RowKit
set_option linter.unusedVariables false
set_option linter.unusedSimpArgs false

theorem fg_98_0 (b o : Nat) (w : World) : (Instr.fieldAt 98 (.pointer (some ⟨b, o, none⟩)) 0).run Try.prog w = .ok (.pointer (some ⟨b, o + 0, none⟩)) w := by go_simp
theorem fg_98_1 (b o : Nat) (w : World) : (Instr.fieldAt 98 (.pointer (some ⟨b, o, none⟩)) 1).run Try.prog w = .ok (.pointer (some ⟨b, o + 1, none⟩)) w := by go_simp
theorem fg_100_0 (b o : Nat) (w : World) : (Instr.fieldAt 100 (.pointer (some ⟨b, o, none⟩)) 0).run Try.prog w = .ok (.pointer (some ⟨b, o + 0, none⟩)) w := by go_simp
theorem fg_100_1 (b o : Nat) (w : World) : (Instr.fieldAt 100 (.pointer (some ⟨b, o, none⟩)) 1).run Try.prog w = .ok (.pointer (some ⟨b, o + 33, none⟩)) w := by go_simp
theorem fg_100_2 (b o : Nat) (w : World) : (Instr.fieldAt 100 (.pointer (some ⟨b, o, none⟩)) 2).run Try.prog w = .ok (.pointer (some ⟨b, o + 66, none⟩)) w := by go_simp
theorem fg_100_3 (b o : Nat) (w : World) : (Instr.fieldAt 100 (.pointer (some ⟨b, o, none⟩)) 3).run Try.prog w = .ok (.pointer (some ⟨b, o + 67, none⟩)) w := by go_simp
def find4_o0 : Oper := { dst := some 19, op := Op.move (Operand.tmp 0), type := 74, pos := "ref.go:47", after := #[], guard := none }
def find4_o1 : Oper := { dst := some 20, op := Op.nilCheck (Operand.tmp 19), type := 0, pos := "ref.go:47", after := #[{ on := 0, ground := Ground.data }], guard := none }
def find4_o2 : Oper := { dst := some 21, op := Op.fieldAddr 98 (Operand.tmp 20) 0, type := 0, pos := "ref.go:47", after := #[{ on := 1, ground := Ground.data }], guard := none }
def find4_o3 : Oper := { dst := some 22, op := Op.load 95 (Operand.tmp 21), type := 95, pos := "ref.go:47", after := #[{ on := 2, ground := Ground.data }], guard := none }
def find4_o4 : Oper := { dst := some 23, op := Op.move (Operand.tmp 5), type := 3, pos := "ref.go:47", after := #[], guard := none }
def find4_o5 : Oper := { dst := some 24, op := Op.indexAddr 95 (Operand.tmp 22) (Operand.tmp 23), type := 0, pos := "ref.go:47", after := #[{ on := 3, ground := Ground.data }, { on := 4, ground := Ground.data }], guard := none }
def find4_o6 : Oper := { dst := some 25, op := Op.fieldAddr 100 (Operand.tmp 24) 0, type := 0, pos := "ref.go:47", after := #[{ on := 5, ground := Ground.data }], guard := none }
def find4_o7 : Oper := { dst := some 26, op := Op.load 35 (Operand.tmp 25), type := 35, pos := "ref.go:47", after := #[{ on := 6, ground := Ground.data }], guard := none }
def find4_o8 : Oper := { dst := some 27, op := Op.load 35 (Operand.tmp 3), type := 35, pos := "ref.go:47", after := #[], guard := none }
def find4_o9 : Oper := { dst := some 28, op := Op.binOp BinOp.eql 35 (Operand.tmp 26) (Operand.tmp 27) 35, type := 4, pos := "ref.go:47", after := #[{ on := 7, ground := Ground.data }, { on := 8, ground := Ground.data }], guard := none }
def find4_ops : Array Oper := #[find4_o0, find4_o1, find4_o2, find4_o3, find4_o4, find4_o5, find4_o6, find4_o7, find4_o8, find4_o9]
set_option maxRecDepth 100000 in
set_option maxHeartbeats 4000000 in
theorem find4 (d bi nb no n c i : Nat) (xv kv : Value) (q : Bool) (S : World → Prop) (a : Act) (w : World) (Q : Exit → Act → World → Prop) (hsz : a.tmps.size = 30)
    (t0 : a.tmps.getD 0 undef = .pointer (some ⟨d, 0, none⟩))
    (t3 : a.tmps.getD 3 undef = .pointer (some ⟨bi, 0, none⟩))
    (t5 : a.tmps.getD 5 undef = .int .i64 (i : Int))
    (h0 : S w.drew)
    (G1 : ∀ W, S W → (Instr.loadAt 95 (.pointer (some ⟨d, 0 + 0, none⟩))).run Try.prog W = .ok (.slice (some ⟨nb, no, none⟩) n c) W)
    (G2 : ∀ W, (Instr.indexAt 95 (.slice (some ⟨nb, no, none⟩) n c) (.int .i64 (i : Int))).run Try.prog W = .ok (.pointer (some ⟨nb, no + i * 68, none⟩)) W)
    (G3 : ∀ W, S W → (Instr.loadAt 35 (.pointer (some ⟨nb, no + i * 68 + 0, none⟩))).run Try.prog W = .ok (xv) W)
    (G4 : ∀ W, S W → (Instr.loadAt 35 (.pointer (some ⟨bi, 0, none⟩))).run Try.prog W = .ok (kv) W)
    (G5 : ∀ W, (eqGuard BinOp.eql 35 (Operand.tmp 26) (Operand.tmp 27) (xv) (kv)).run Try.prog W = .ok () W)
    (G6 : ∀ W, S W → (binOp BinOp.eql 35 (xv) (kv)).run Try.prog W = .ok (.bool q) W)
    (h : ∀ (a' : Act) (w' : World), S w' → a' = ((((((((((a).put (some 19) (.pointer (some ⟨d, 0, none⟩))).put (some 20) (.pointer (some ⟨d, 0, none⟩))).put (some 21) (.pointer (some ⟨d, 0 + 0, none⟩))).put (some 22) (.slice (some ⟨nb, no, none⟩) n c)).put (some 23) (.int .i64 (i : Int))).put (some 24) (.pointer (some ⟨nb, no + i * 68, none⟩))).put (some 25) (.pointer (some ⟨nb, no + i * 68 + 0, none⟩))).put (some 26) (xv)).put (some 27) (kv)).put (some 28) (.bool q) → Q .normal a' w') :
    (Code.region 4 find4_ops true).wp Try.prog Q a w := by
  refine wp_region_noPanic ?_
  refine wp_region_held_drew (S := fun w' => S w') (by kernel_rfl) (h0) (fun hHeld => ?_)
  refine tk 0 find4_o0 (.pointer (some ⟨d, 0, none⟩)) (by rfl) (fun w1 hw => exec_move rfl t0) hHeld (fun a1 e1 => ?_)
  rw [← e1] at h
  have z1 := pz e1 hsz
  clear t0
  replace t3 := pk e1 t3
  replace t5 := pk e1 t5
  have t19 := pq e1 hsz
  clear e1 hsz
  refine tk 1 find4_o1 (.pointer (some ⟨d, 0, none⟩)) (by rfl) (fun w1 hw => exec_nilCheck rfl t19) hHeld (fun a2 e2 => ?_)
  rw [← e2] at h
  have z2 := pz e2 z1
  replace t3 := pk e2 t3
  replace t5 := pk e2 t5
  clear t19
  have t20 := pq e2 z1
  clear e2 z1
  refine tk 2 find4_o2 (.pointer (some ⟨d, 0 + 0, none⟩)) (by rfl) (fun w1 hw => exec_fieldAt rfl t20 (fg_98_0 _ _ _)) hHeld (fun a3 e3 => ?_)
  rw [← e3] at h
  have z3 := pz e3 z2
  replace t3 := pk e3 t3
  replace t5 := pk e3 t5
  clear t20
  have t21 := pq e3 z2
  clear e3 z2
  refine tk 3 find4_o3 (.slice (some ⟨nb, no, none⟩) n c) (by rfl) (fun w1 hw => exec_load rfl t21 (G1 _ hw)) hHeld (fun a4 e4 => ?_)
  rw [← e4] at h
  have z4 := pz e4 z3
  replace t3 := pk e4 t3
  replace t5 := pk e4 t5
  clear t21
  have t22 := pq e4 z3
  clear e4 z3
  refine tk 4 find4_o4 (.int .i64 (i : Int)) (by rfl) (fun w1 hw => exec_move rfl t5) hHeld (fun a5 e5 => ?_)
  rw [← e5] at h
  have z5 := pz e5 z4
  replace t3 := pk e5 t3
  clear t5
  replace t22 := pk e5 t22
  have t23 := pq e5 z4
  clear e5 z4
  refine tk 5 find4_o5 (.pointer (some ⟨nb, no + i * 68, none⟩)) (by rfl) (fun w1 hw => exec_indexAt rfl t22 t23 (G2 _)) hHeld (fun a6 e6 => ?_)
  rw [← e6] at h
  have z6 := pz e6 z5
  replace t3 := pk e6 t3
  clear t22
  clear t23
  have t24 := pq e6 z5
  clear e6 z5
  refine tk 6 find4_o6 (.pointer (some ⟨nb, no + i * 68 + 0, none⟩)) (by rfl) (fun w1 hw => exec_fieldAt rfl t24 (fg_100_0 _ _ _)) hHeld (fun a7 e7 => ?_)
  rw [← e7] at h
  have z7 := pz e7 z6
  replace t3 := pk e7 t3
  clear t24
  have t25 := pq e7 z6
  clear e7 z6
  refine tk 7 find4_o7 (xv) (by rfl) (fun w1 hw => exec_load rfl t25 (G3 _ hw)) hHeld (fun a8 e8 => ?_)
  rw [← e8] at h
  have z8 := pz e8 z7
  replace t3 := pk e8 t3
  clear t25
  have t26 := pq e8 z7
  clear e8 z7
  refine tk 8 find4_o8 (kv) (by rfl) (fun w1 hw => exec_load rfl t3 (G4 _ hw)) hHeld (fun a9 e9 => ?_)
  rw [← e9] at h
  have z9 := pz e9 z8
  clear t3
  replace t26 := pk e9 t26
  have t27 := pq e9 z8
  clear e9 z8
  refine tk 9 find4_o9 (.bool q) (by rfl) (fun w1 hw => exec_binOp rfl t26 t27 (G5 _) (G6 _ hw)) hHeld (fun a10 e10 => ?_)
  rw [← e10] at h
  have z10 := pz e10 z9
  clear t26
  clear t27
  clear e10 z9
  exact wpAnyH_done (by kernel_rfl) (NoPanic.normal (h _ _ (hHeld) rfl)) _
end Go.Proofs.Ytoofljkgdjjllab

namespace Go.Proofs.Ytoofljkgdjjllab
open Go.RowKit
set_option linter.unusedVariables false
set_option linter.unusedSimpArgs false

def named5_o0 : Oper := { dst := some 13, op := Op.move (Operand.tmp 3), type := 30, pos := "law.go:117", after := #[], guard := none }
def named5_o1 : Oper := { dst := some 14, op := Op.move (Operand.tmp 0), type := 22, pos := "law.go:117", after := #[], guard := none }
def named5_o2 : Oper := { dst := some 15, op := Op.move (Operand.tmp 4), type := 3, pos := "law.go:117", after := #[], guard := none }
def named5_o3 : Oper := { dst := some 16, op := Op.indexAddr 22 (Operand.tmp 14) (Operand.tmp 15), type := 0, pos := "law.go:117", after := #[{ on := 1, ground := Ground.data }, { on := 2, ground := Ground.data }], guard := none }
def named5_o4 : Oper := { dst := some 17, op := Op.fieldAddr 57 (Operand.tmp 16) 1, type := 0, pos := "law.go:117", after := #[{ on := 3, ground := Ground.data }], guard := none }
def named5_o5 : Oper := { dst := some 18, op := Op.load 35 (Operand.tmp 17), type := 35, pos := "law.go:117", after := #[{ on := 4, ground := Ground.data }], guard := none }
def named5_o6 : Oper := { dst := some 19, op := Op.move (Operand.tmp 0), type := 22, pos := "law.go:117", after := #[], guard := none }
def named5_o7 : Oper := { dst := some 20, op := Op.move (Operand.tmp 4), type := 3, pos := "law.go:117", after := #[], guard := none }
def named5_o8 : Oper := { dst := some 21, op := Op.indexAddr 22 (Operand.tmp 19) (Operand.tmp 20), type := 0, pos := "law.go:117", after := #[{ on := 6, ground := Ground.data }, { on := 7, ground := Ground.data }], guard := none }
def named5_o9 : Oper := { dst := some 22, op := Op.fieldAddr 57 (Operand.tmp 21) 2, type := 0, pos := "law.go:117", after := #[{ on := 8, ground := Ground.data }], guard := none }
def named5_o10 : Oper := { dst := some 23, op := Op.load 35 (Operand.tmp 22), type := 35, pos := "law.go:117", after := #[{ on := 9, ground := Ground.data }], guard := none }
def named5_o11 : Oper := { dst := some 24, op := Op.buildSlice 30 2 #[(0, Operand.tmp 18), (1, Operand.tmp 23)], type := 30, pos := "law.go:117", after := #[{ on := 5, ground := Ground.data }, { on := 10, ground := Ground.data }], guard := none }
def named5_o12 : Oper := { dst := some 25, op := Op.call { callee := Callee.builtin Builtin.append, args := #[Operand.tmp 13, Operand.tmp 24], argTypes := #[30, 30] }, type := 30, pos := "law.go:117", after := #[{ on := 0, ground := Ground.data }, { on := 11, ground := Ground.data }], guard := none }
def named5_o13 : Oper := { dst := some 3, op := Op.assign (Operand.tmp 25), type := 30, pos := "law.go:117", after := #[{ on := 12, ground := Ground.data }, { on := 12, ground := Ground.chain }, { on := 0, ground := Ground.phase }, { on := 1, ground := Ground.phase }, { on := 2, ground := Ground.phase }, { on := 3, ground := Ground.phase }, { on := 4, ground := Ground.phase }, { on := 5, ground := Ground.phase }, { on := 6, ground := Ground.phase }, { on := 7, ground := Ground.phase }, { on := 8, ground := Ground.phase }, { on := 9, ground := Ground.phase }, { on := 10, ground := Ground.phase }, { on := 11, ground := Ground.phase }, { on := 12, ground := Ground.phase }], guard := none }
def named5_ops : Array Oper := #[named5_o0, named5_o1, named5_o2, named5_o3, named5_o4, named5_o5, named5_o6, named5_o7, named5_o8, named5_o9, named5_o10, named5_o11, named5_o12, named5_o13]
set_option maxRecDepth 100000 in
set_option maxHeartbeats 4000000 in
theorem named5 (b o n c i : Nat) (uv av bv lv rv : Value) (w1 w2 : World) (S : World → Prop) (a : Act) (w : World) (Q : Exit → Act → World → Prop) (hsz : a.tmps.size = 27)
    (t0 : a.tmps.getD 0 undef = .slice (some ⟨b, o, none⟩) n c)
    (t3 : a.tmps.getD 3 undef = uv)
    (t4 : a.tmps.getD 4 undef = .int .i64 (i : Int))
    (h0 : S w.drew) (S1 : S w1) (S2 : S w2) (EB : (Instr.buildSlice 30 2 #[(0, av), (1, bv)]).run Try.prog w.drew = .ok lv w1) (EA : (Builtin.append_ #[30, 30] 30 #[uv, lv]).run Try.prog w1 = .ok rv w2)
    (G1 : ∀ W, (Instr.indexAt 22 (.slice (some ⟨b, o, none⟩) n c) (.int .i64 (i : Int))).run Try.prog W = .ok (.pointer (some ⟨b, o + i * 69, none⟩)) W)
    (G2 : ∀ W, S W → (Instr.loadAt 35 (.pointer (some ⟨b, o + i * 69 + 1, none⟩))).run Try.prog W = .ok (av) W)
    (G3 : ∀ W, S W → (Instr.loadAt 35 (.pointer (some ⟨b, o + i * 69 + 34, none⟩))).run Try.prog W = .ok (bv) W)
    (h : ∀ (a' : Act) (w' : World), w' = w2 → a' = ((((((((((((((a).put (some 13) (uv)).put (some 14) (.slice (some ⟨b, o, none⟩) n c)).put (some 15) (.int .i64 (i : Int))).put (some 16) (.pointer (some ⟨b, o + i * 69, none⟩))).put (some 17) (.pointer (some ⟨b, o + i * 69 + 1, none⟩))).put (some 18) (av)).put (some 19) (.slice (some ⟨b, o, none⟩) n c)).put (some 20) (.int .i64 (i : Int))).put (some 21) (.pointer (some ⟨b, o + i * 69, none⟩))).put (some 22) (.pointer (some ⟨b, o + i * 69 + 34, none⟩))).put (some 23) (bv)).put (some 24) (lv)).put (some 25) (rv)).put (some 3) (rv) → Q .normal a' w') :
    (Code.region 5 named5_ops true).wp Try.prog Q a w := by
  refine wp_region_noPanic ?_
  refine wp_region_held_drew (S := fun w' => S w') (by kernel_rfl) (h0) (fun hHeld => ?_)
  refine tk 0 named5_o0 (uv) (by rfl) (fun w1 hw => exec_move rfl t3) hHeld (fun a1 e1 => ?_)
  rw [← e1] at h
  have z1 := pz e1 hsz
  replace t0 := pk e1 t0
  clear t3
  replace t4 := pk e1 t4
  have t13 := pq e1 hsz
  clear e1 hsz
  refine tk 1 named5_o1 (.slice (some ⟨b, o, none⟩) n c) (by rfl) (fun w1 hw => exec_move rfl t0) hHeld (fun a2 e2 => ?_)
  rw [← e2] at h
  have z2 := pz e2 z1
  replace t0 := pk e2 t0
  replace t4 := pk e2 t4
  replace t13 := pk e2 t13
  have t14 := pq e2 z1
  clear e2 z1
  refine tk 2 named5_o2 (.int .i64 (i : Int)) (by rfl) (fun w1 hw => exec_move rfl t4) hHeld (fun a3 e3 => ?_)
  rw [← e3] at h
  have z3 := pz e3 z2
  replace t0 := pk e3 t0
  replace t4 := pk e3 t4
  replace t13 := pk e3 t13
  replace t14 := pk e3 t14
  have t15 := pq e3 z2
  clear e3 z2
  refine tk 3 named5_o3 (.pointer (some ⟨b, o + i * 69, none⟩)) (by rfl) (fun w1 hw => exec_indexAt rfl t14 t15 (G1 _)) hHeld (fun a4 e4 => ?_)
  rw [← e4] at h
  have z4 := pz e4 z3
  replace t0 := pk e4 t0
  replace t4 := pk e4 t4
  replace t13 := pk e4 t13
  clear t14
  clear t15
  have t16 := pq e4 z3
  clear e4 z3
  refine tk 4 named5_o4 (.pointer (some ⟨b, o + i * 69 + 1, none⟩)) (by rfl) (fun w1 hw => exec_fieldAt rfl t16 (fg_57_1 _ _ _)) hHeld (fun a5 e5 => ?_)
  rw [← e5] at h
  have z5 := pz e5 z4
  replace t0 := pk e5 t0
  replace t4 := pk e5 t4
  replace t13 := pk e5 t13
  clear t16
  have t17 := pq e5 z4
  clear e5 z4
  refine tk 5 named5_o5 (av) (by rfl) (fun w1 hw => exec_load rfl t17 (G2 _ hw)) hHeld (fun a6 e6 => ?_)
  rw [← e6] at h
  have z6 := pz e6 z5
  replace t0 := pk e6 t0
  replace t4 := pk e6 t4
  replace t13 := pk e6 t13
  clear t17
  have t18 := pq e6 z5
  clear e6 z5
  refine tk 6 named5_o6 (.slice (some ⟨b, o, none⟩) n c) (by rfl) (fun w1 hw => exec_move rfl t0) hHeld (fun a7 e7 => ?_)
  rw [← e7] at h
  have z7 := pz e7 z6
  clear t0
  replace t4 := pk e7 t4
  replace t13 := pk e7 t13
  replace t18 := pk e7 t18
  have t19 := pq e7 z6
  clear e7 z6
  refine tk 7 named5_o7 (.int .i64 (i : Int)) (by rfl) (fun w1 hw => exec_move rfl t4) hHeld (fun a8 e8 => ?_)
  rw [← e8] at h
  have z8 := pz e8 z7
  clear t4
  replace t13 := pk e8 t13
  replace t18 := pk e8 t18
  replace t19 := pk e8 t19
  have t20 := pq e8 z7
  clear e8 z7
  refine tk 8 named5_o8 (.pointer (some ⟨b, o + i * 69, none⟩)) (by rfl) (fun w1 hw => exec_indexAt rfl t19 t20 (G1 _)) hHeld (fun a9 e9 => ?_)
  rw [← e9] at h
  have z9 := pz e9 z8
  replace t13 := pk e9 t13
  replace t18 := pk e9 t18
  clear t19
  clear t20
  have t21 := pq e9 z8
  clear e9 z8
  refine tk 9 named5_o9 (.pointer (some ⟨b, o + i * 69 + 34, none⟩)) (by rfl) (fun w1 hw => exec_fieldAt rfl t21 (fg_57_2 _ _ _)) hHeld (fun a10 e10 => ?_)
  rw [← e10] at h
  have z10 := pz e10 z9
  replace t13 := pk e10 t13
  replace t18 := pk e10 t18
  clear t21
  have t22 := pq e10 z9
  clear e10 z9
  refine tk 10 named5_o10 (bv) (by rfl) (fun w1 hw => exec_load rfl t22 (G3 _ hw)) hHeld (fun a11 e11 => ?_)
  rw [← e11] at h
  have z11 := pz e11 z10
  replace t13 := pk e11 t13
  replace t18 := pk e11 t18
  clear t22
  have t23 := pq e11 z10
  clear e11 z10
  refine wpAnyH_ready (rs := [11]) (by kernel_rfl) (by simp) ?_
  refine AllReadyH.cons (o := named5_o11) rfl (fun K hK => ?_) AllReadyH.nil
  skip
  have X := exec_buildSlice2 (P := Try.prog) (a := a11) (o := named5_o11) rfl t18 t23 EB
  rw [if_pos (by rfl), Oper.wp, X]
  show K _ _
  clear X
  refine hK.out _ _ (S1) (fun hHeld => ?_)
  clear hK K
  change wpAnyH _ _ _ _ _ _ _ (a11.put (some 24) (lv)) _
  obtain ⟨a12, e12⟩ : ∃ act, act = a11.put (some 24) (lv) := ⟨_, rfl⟩
  rw [← e12] at h ⊢
  have z12 := pz e12 z11
  replace t13 := pk e12 t13
  clear t18
  clear t23
  have t24 := pq e12 z11
  clear e12 z11
  refine wpAnyH_ready (rs := [12]) (by kernel_rfl) (by simp) ?_
  refine AllReadyH.cons (o := named5_o12) rfl (fun K hK => ?_) AllReadyH.nil
  skip
  have X := exec_append (P := Try.prog) (a := a12) (o := named5_o12) rfl t13 t24 EA
  rw [if_pos (by rfl), Oper.wp, X]
  show K _ _
  clear X
  refine hK.out _ _ (S2) (fun hHeld => ?_)
  clear hK K
  change wpAnyH _ _ _ _ _ _ _ (a12.put (some 25) (rv)) _
  obtain ⟨a13, e13⟩ : ∃ act, act = a12.put (some 25) (rv) := ⟨_, rfl⟩
  rw [← e13] at h ⊢
  have z13 := pz e13 z12
  clear t13
  clear t24
  have t25 := pq e13 z12
  clear e13 z12
  refine tk 13 named5_o13 (rv) (by rfl) (fun w1 hw => exec_assign rfl t25) hHeld (fun a14 e14 => ?_)
  rw [← e14] at h
  have z14 := pz e14 z13
  clear t25
  clear e14 z13
  exact wpAnyH_done (by kernel_rfl) (NoPanic.normal (h _ _ (rfl) rfl)) _
end Go.Proofs.Ytoofljkgdjjllab

namespace Go.Proofs.Ytoofljkgdjjllab
open Go.RowKit
set_option linter.unusedVariables false
set_option linter.unusedSimpArgs false

/-- The Ids that calls name. -/
def pairs (L : List OpV) : List IdK := L.flatMap fun o => [o.id, o.under]
def namedL (L : List OpV) : List IdK := zId :: pairs L
theorem pairs_app (L M : List OpV) : pairs (L ++ M) = pairs L ++ pairs M := by simp [pairs]
theorem pairs_len : ∀ L : List OpV, (pairs L).length = 2 * L.length
  | [] => rfl
  | x :: L => by
    have := pairs_len L
    simp only [pairs, List.flatMap_cons, List.length_append, List.length_cons, List.length_nil] at this ⊢
    omega
theorem namedL_ok {L : List OpV} (h : ∀ x ∈ L, x.ok) : ∀ y ∈ namedL L, y.ok := by
  intro y hy
  rcases List.mem_cons.1 hy with rfl | hy
  · exact zId_ok
  · obtain ⟨o, ho, hm⟩ := List.mem_flatMap.1 hy
    simp at hm
    rcases hm with rfl | rfl
    · exact (h o ho).id
    · exact (h o ho).under
theorem own_lit1 (w : World) (x : IdK) (hx : x.ok) : OwnI (w.alloc (.cells x.c.toArray 35)) w.heap.size (.slice (some ⟨w.heap.size, 0, none⟩) 1 1) [x] := by
  have l := IdK.len hx
  refine ⟨by simp [flatI, l], Or.inr ⟨w.heap.size, 1, x.c.toArray, rfl, Nat.le_refl _, heap_alloc_new _ _, by simp, by unfold maxLen; omega, by simp [l], ?_⟩⟩
  rw [List.length_cons, List.length_nil, List.toList_toArray, List.take_of_length_le (by omega)]
  simp [flatI]
theorem below_grown {w w' : World} {B : Nat} {v : Value} {L : List IdK} (own : OwnI w B v L) (hB : B ≤ w.heap.size) (g : w.grownBy w' v.ownBlock) : Below B w w' :=
  ⟨g.os, g.tape, g.output, g.size, fun j hj => g.block j (Nat.lt_of_lt_of_le hj hB) (fun e => by have := (own.ge j e.symm).1; omega)⟩
set_option maxRecDepth 100000 in
set_option maxHeartbeats 2000000 in
theorem named_any (a : Option Addr) (c : Nat) (L : List OpV) (w : World) (hL : RowAt 69 OpV.c w a L) (ok : ∀ x ∈ L, x.ok) (hn : L.length ≤ 1256584717422) :
    Calls Try.prog 16 #[.slice a L.length c] w fun e w' => ∃ v, e = .returned v ∧ OwnI w' w.heap.size v (namedL L) ∧ Below w.heap.size w w' := by
  obtain ⟨n, hnn⟩ : ∃ n, L.length = n := ⟨_, rfl⟩
  have HNn := hidMk hnn
  have HLn := hidMk hn
  rw [hnn]
  clear hnn hn
  go_enter Try.func16, Try.ntmps16
  have ebs : Hid ((Instr.buildSlice 30 1 #[(0, zId.v)]).run Try.prog w = .ok (.slice (some ⟨w.heap.size, 0, none⟩) 1 1) (w.alloc (.cells zId.c.toArray 35))) := run_bsI zId zId_ok w
  have own1 := own_lit1 w zId zId_ok
  have bel1 : Below w.heap.size w (w.alloc (.cells zId.c.toArray 35)) := (Below.refl _ _).alloc (Nat.le_refl _) _
  go_wp2_with (first
    | (refine wpList_val rfl (exec_build0 rfl (build_id _)) ?_)
    | (refine wpList_run rfl (exec_buildSlice (t := 30) (n := 1) (xv := zId.v) (v := .slice (some ⟨w.heap.size, 0, none⟩) 1 1) rfl rfl ebs.out) ?_)
    | fail)
  generalize w.alloc (.cells zId.c.toArray 35) = w1 at *
  generalize Value.slice (some ⟨w.heap.size, 0, none⟩) 1 1 = v1 at *
  go_loopw [3, 4] (fun v3 v4 wr => ∃ i : Nat, v4 = .int .i64 (i : Int) ∧ i ≤ n ∧ OwnI wr w.heap.size v3 (namedL (L.take i)) ∧ Below w.heap.size w wr) (fun v3 v4 wr => n - (match v4 with | .int _ i => i.toNat | _ => 0))
  case atStart => exact ⟨0, rfl, Nat.zero_le _, own1, bel1⟩
  case round =>
    clear own1 bel1 ebs
    obtain ⟨i, rfl, hin, own, bel⟩ := hrel
    have hLn := HNn.out
    by_cases hi : i < n
    · have hxi : L[i]? = some L[i] := List.getElem?_eq_getElem (by omega)
      generalize L[i] = x at hxi
      have hxo : x.ok := ok x (List.mem_of_getElem? hxi)
      obtain ⟨b, o, rfl, lb, hr⟩ : ∃ b o, a = some ⟨b, o, none⟩ ∧ b < w.heap.size ∧ w.rangeAt b (o + i * 69) x.c := by
        rcases hL with rfl | ⟨b, o, e, h1, h2⟩
        · simp at hxi
        · exact ⟨b, o, e, h1, h2 i x hxi⟩
      have hbig := HLn.out
      have HR := hidMk (fun (W : World) (bb : Below w.heap.size w W) => rangeAt_keep hr (bb.block _ lb))
      obtain ⟨u, wu, eu, ⟨au, cu, rfl, iu⟩, lu⟩ := bs2_id x.id x.under hxo.id hxo.under wr.drew
      have beld : Below w.heap.size w wr.drew := bel.drew
      have belu : Below w.heap.size w wu := beld.trans (lu.mono beld.size)
      have ownd : OwnI wr.drew w.heap.size u3 (namedL (L.take i)) := own
      have ownu := ownd.below lu
      have htl : (L.take i).length = i := by simp; omega
      have hnl : (namedL (L.take i)).length = 1 + 2 * i := by rw [namedL, List.length_cons, pairs_len, htl]; omega
      obtain ⟨v3', wv, eap, own3, g3, _⟩ := run_appI wu w.heap.size u3 (namedL (L.take i)) au [x.id, x.under] cu ownu iu (by
        intro y hy
        simp at hy
        rcases hy with rfl | rfl
        · exact hxo.id
        · exact hxo.under) (by rw [hnl]; simp; omega) belu.size
      have belv : Below w.heap.size w wv := belu.trans (below_grown ownu belu.size g3)
      have hnext : namedL (L.take i) ++ [x.id, x.under] = namedL (L.take (i + 1)) := by
        rw [List.take_add_one, hxi]
        show zId :: (pairs (L.take i) ++ [x.id, x.under]) = zId :: pairs (L.take i ++ [x])
        rw [pairs_app]
        rfl
      rw [hnext] at own3
      have HO := hidMk own3
      clear own3 hnext hnl htl hxi own ownd ownu g3
      go_upto_region 5 with fail
      refine named5 b o n c i u3 x.id.v x.under.v (.slice au 2 cu) v3' wu wv (fun wx => Below w.heap.size w wx) _ wr _ rfl rfl rfl rfl beld belu belv eu eap ?_ ?_ ?_ ?_
      · exact fun W => ix_op hi (by omega) W
      · exact fun W hw => op_id hxo (HR.out W hw)
      · exact fun W hw => op_under hxo (HR.out W hw)
      intro a' w' hw' ha
      subst hw' ha
      simp only [Act.put, List.setIfInBounds_toArray, List.set_cons_zero, List.set_cons_succ]
      go_wp2
      rw [show ((i : Int) + 1) = ((i + 1 : Nat) : Int) by omega]
      refine ⟨⟨i + 1, rfl, hi, HO.out, belv⟩, ?_⟩
      show n - ((i + 1 : Nat) : Int).toNat < n - (i : Int).toNat
      omega
    · obtain rfl : i = n := by omega
      rw [List.take_of_length_le (by omega)] at own
      have HO := hidMk own
      clear own hLn hin hi
      go_wp2
      go_ret
      exact ⟨_, rfl, HO.out, bel⟩
end Go.Proofs.Ytoofljkgdjjllab

namespace Go.Proofs.Ytoofljkgdjjllab
open Go.RowKit
set_option linter.unusedVariables false
set_option linter.unusedSimpArgs false

/-- What a tree tells (the program's and the document's alike): by its six calls, in whatever world comes behind w0. -/
structure Tells (w0 : World) (tv : Value) (f : Fn) (D : List IdK) (cl cw ck cu ci cd : Nat) : Prop where
  len : ∀ W, Below w0.heap.size w0 W → Calls Try.prog cl #[tv] W fun e w' => e = .returned (.int .i64 (D.length : Int)) ∧ Below W.heap.size W w'
  walk : ∀ W, Below w0.heap.size w0 W → Calls Try.prog cw #[tv] W fun e w' => ∃ v L, e = .returned v ∧ IdsIs L w' v ∧ IsWalk f L ∧ Below W.heap.size W w'
  kids : ∀ k : IdK, k.ok → ∀ W, Below w0.heap.size w0 W → Calls Try.prog ck #[tv, k.v] W fun e w' => ∃ v L, e = .returned v ∧ IdsIs L w' v ∧ IsKids f k L ∧ Below W.heap.size W w'
  under : ∀ k : IdK, k.ok → ∀ W, Below w0.heap.size w0 W → Calls Try.prog cu #[tv, k.v] W fun e w' => e = .returned (.tuple #[(nd f k).u.v, .string (nd f k).key, .bool ((f k).isSome && !(nd f k).pr)]) ∧ Below W.heap.size W w'
  live : ∀ k : IdK, k.ok → ∀ W, Below w0.heap.size w0 W → Calls Try.prog ci #[tv, k.v] W fun e w' => ∃ b, e = .returned (.bool b) ∧ LiveIs f k b ∧ Below W.heap.size W w'
  deep : ∀ k : IdK, k.ok → ∀ W, Below w0.heap.size w0 W → Calls Try.prog cd #[tv, k.v] W fun e w' => ∃ d, e = .returned (.int .i64 d) ∧ DeepIs f k d ∧ Below W.heap.size W w'
theorem own_is {w : World} {base : Nat} {v : Value} {L : List IdK} (h : OwnI w base v L) (ok : ∀ x ∈ L, x.ok) : IdsIs L w v := by
  obtain ⟨a, c, e, h2, _⟩ := h.open ok
  exact ⟨a, c, e, h2⟩
theorem walk_ok {f : Fn} {D L : List IdK} (hD : Dom f D) (h : IsWalk f L) : ∀ x ∈ L, x.ok := fun x hx => hD.ok x ((hD.mem x).2 (h.there x hx))
theorem tells_own {B : Nat} {w : World} {s : Tr} {H : List Rec} {f : Fn} (h : Own B w s H f) {D : List IdK} (hD : Dom f D) (hl : D.length ≤ 2600000000000) :
    Tells w (.pointer (some ⟨s.t, 0, none⟩)) f D 12 13 19 14 15 18 := {
  len := fun W b => len_own (h.below b) hD
  walk := fun W b => (walk_own (h.below b) hD hl).mono fun e w' ⟨v, L, h1, h2, h3, h4⟩ => ⟨v, L, h1, own_is h2 (walk_ok hD h3), h3, h4⟩
  kids := fun k hk W b => (kids_own (h.below b) hD hl k hk).mono fun e w' ⟨v, L, h1, h2, h3, h4⟩ => ⟨v, L, h1, own_is h2 h3.ok, h3, h4⟩
  under := fun k hk W b => under_own (h.below b) k hk
  live := fun k hk W b => live_own (h.below b) hD hl k hk
  deep := fun k hk W b => deep_own (h.below b) hD hl k hk }
theorem und_none {k x : IdK} : ¬ Und (fun _ => none) k x := by rintro ⟨n, h, _⟩; cases h
theorem kids_empty (k : IdK) : IsKids (fun _ => none) k [] := kids_no (fun y => und_none)
theorem walk_empty : IsWalk (fun _ => none) [] := ⟨[], kids_empty _, .nil⟩
theorem is_nil (w : World) : IdsIs [] w (.slice none 0 0) := ⟨none, 0, rfl, Or.inl rfl⟩
theorem tells_nil (w : World) : Tells w (.pointer none) (fun _ => none) [] 12 13 19 14 15 18 := {
  len := fun W b => len_nil W
  walk := fun W b => (walk_nil W).mono fun e w' ⟨h1, h2⟩ => ⟨_, [], h1, is_nil _, walk_empty, h2⟩
  kids := fun k hk W b => (kids_nil k W).mono fun e w' ⟨h1, h2⟩ => ⟨_, [], h1, is_nil _, kids_empty k, h2⟩
  under := fun k hk W b => under_nil k W
  live := fun k hk W b => (live_nil k.v k rfl W).mono fun e w' ⟨h1, h2⟩ => ⟨_, h1, Or.inl ⟨rfl, rfl⟩, h2⟩
  deep := fun k hk W b => (deep_nil k.v k rfl W).mono fun e w' ⟨h1, h2⟩ => ⟨_, h1, Or.inl ⟨rfl, rfl⟩, h2⟩ }
end Go.Proofs.Ytoofljkgdjjllab

namespace Go.Proofs.Ytoofljkgdjjllab
open Go.RowKit
set_option linter.unusedVariables false
set_option linter.unusedSimpArgs false

/-- A node of the document's tree. -/
def rnC (p : IdK × NodeV) : List Value := p.1.c ++ (p.2.u.c ++ [.string p.2.key, .bool p.2.pr])
structure RnOk (p : IdK × NodeV) : Prop where
  k : p.1.ok
  u : p.2.u.ok
theorem rn_len {p : IdK × NodeV} (h : RnOk p) : (rnC p).length = 68 := by
  have h1 := IdK.len h.k
  have h2 := IdK.len h.u
  simp [rnC, h1, h2]
/-- The document's tree: its block, its nodes. -/
structure RefAt (w : World) (d : Nat) (NL : List (IdK × NodeV)) (pv : Value) : Prop where
  cell : ∃ a c, w.heap[d]? = some (.cells #[.slice a NL.length c, pv] 98 (0, 0)) ∧ RowAt 68 rnC w a NL
  ok : ∀ p ∈ NL, RnOk p
  nd : (NL.map (·.1)).Nodup
theorem RefAt.lt {w : World} {d : Nat} {NL : List (IdK × NodeV)} {pv : Value} (h : RefAt w d NL pv) : d < w.heap.size := by
  obtain ⟨a, c, h1, _⟩ := h.cell
  exact (Array.getElem?_eq_some_iff.1 h1).1
theorem RefAt.below {w w' : World} {d : Nat} {NL : List (IdK × NodeV)} {pv : Value} (h : RefAt w d NL pv) (b : Below w.heap.size w w') : RefAt w' d NL pv := by
  have hl := h.lt
  obtain ⟨a, c, h1, h2⟩ := h.cell
  exact ⟨⟨a, c, (b.block _ hl).trans h1, h2.below b⟩, h.ok, h.nd⟩
/-- Where a node stands. -/
def fPos (NL : List (IdK × NodeV)) (k : IdK) : Int := match M.fnd NL k 0 with | some (j, _) => (j : Int) | none => -1
theorem fnd_first {NL : List (IdK × NodeV)} {k : IdK} : ∀ {j : Nat} {n : NodeV}, NL[j]? = some (k, n) → (∀ i, i < j → ∀ p, NL[i]? = some p → p.1 ≠ k) → M.fnd NL k 0 = some (j, n) := by
  induction NL with
  | nil => intro j n h; simp at h
  | cons p NL ih =>
    intro j n h hb
    unfold M.fnd
    cases j with
    | zero =>
      simp at h
      subst h
      rw [if_pos rfl]
    | succ j =>
      have h0 := hb 0 (by omega) p rfl
      rw [if_neg (fun e => h0 e.symm), M.fnd_shift]
      have := ih (j := j) (n := n) (by simpa using h) (fun i hi q hq => hb (i + 1) (by omega) q (by simpa using hq))
      rw [this]
      simp
theorem fnd_no {NL : List (IdK × NodeV)} {k : IdK} (h : ∀ p ∈ NL, p.1 ≠ k) : M.fnd NL k 0 = none := by
  cases hf : M.fnd NL k 0 with
  | none => rfl
  | some q =>
    obtain ⟨j, n⟩ := q
    exact absurd rfl (h _ (List.mem_of_getElem? (M.fnd_some hf).1))
theorem ix_rn {b o n c i : Nat} (h : i < n) (hn : n ≤ 9223372036854775807) (w : World) : (Instr.indexAt 95 (.slice (some ⟨b, o, none⟩) n c) (.int .i64 (i : Int))).run Try.prog w = .ok (.pointer (some ⟨b, o + i * 68, none⟩)) w := by go_simp
section
variable {w : World} {b o : Nat} {p : IdK × NodeV}
theorem rn_id (hp : RnOk p) (h : w.rangeAt b o (rnC p)) : (Instr.loadAt 35 (.pointer (some ⟨b, o + 0, none⟩))).run Try.prog w = .ok p.1.v w := by
  refine load_id_at hp.k (fun j v hv => ?_)
  have hl := (List.getElem?_eq_some_iff.1 hv).1
  rw [Nat.add_zero]
  exact h j v (by rw [rnC, List.getElem?_append_left hl]; exact hv)
theorem rn_under (hp : RnOk p) (h : w.rangeAt b o (rnC p)) : (Instr.loadAt 35 (.pointer (some ⟨b, o + 33, none⟩))).run Try.prog w = .ok p.2.u.v w := by
  refine load_id_at hp.u (fun j v hv => ?_)
  have hl := (List.getElem?_eq_some_iff.1 hv).1
  have l1 := IdK.len hp.k
  have := h (33 + j) v (by rw [rnC, List.getElem?_append_right (by omega), l1, show 33 + j - 33 = j by omega, List.getElem?_append_left hl]; exact hv)
  rwa [← Nat.add_assoc] at this
theorem rn_key (hp : RnOk p) (h : w.rangeAt b o (rnC p)) : (Instr.loadAt 9 (.pointer (some ⟨b, o + 66, none⟩))).run Try.prog w = .ok (.string p.2.key) w := by
  have l1 := IdK.len hp.k
  have l2 := IdK.len hp.u
  have hc : w.cell? ⟨b, o + 66, none⟩ = some (.string p.2.key) := h 66 _ (by
    rw [rnC, List.getElem?_append_right (by omega), l1, List.getElem?_append_right (by omega), l2]
    rfl)
  go_simp
theorem rn_pr (hp : RnOk p) (h : w.rangeAt b o (rnC p)) : (Instr.loadAt 4 (.pointer (some ⟨b, o + 67, none⟩))).run Try.prog w = .ok (.bool p.2.pr) w := by
  have l1 := IdK.len hp.k
  have l2 := IdK.len hp.u
  have hc : w.cell? ⟨b, o + 67, none⟩ = some (.bool p.2.pr) := h 67 _ (by
    rw [rnC, List.getElem?_append_right (by omega), l1, List.getElem?_append_right (by omega), l2]
    rfl)
  go_simp
end
theorem load_ns {w : World} {b o : Nat} {v : Value} (h : w.cell? ⟨b, o, none⟩ = some v) : (Instr.loadAt 95 (.pointer (some ⟨b, o, none⟩))).run Try.prog w = .ok v w := by go_simp
set_option maxRecDepth 100000 in
set_option maxHeartbeats 2000000 in
theorem find_any (d : Nat) (NL : List (IdK × NodeV)) (pv : Value) (k : IdK) (w : World) (h : RefAt w d NL pv) (hk : k.ok) (hn : NL.length ≤ 1300000000000) :
    Calls Try.prog 54 #[.pointer (some ⟨d, 0, none⟩), k.v] w fun e w' => e = .returned (.int .i64 (fPos NL k)) ∧ Below w.heap.size w w' := by
  have lt := h.lt
  obtain ⟨a, c, hc, hrow⟩ := h.cell
  obtain ⟨n, hnn⟩ : ∃ n, NL.length = n := ⟨_, rfl⟩
  have HNn := hidMk hnn
  have HLn := hidMk hn
  rw [hnn] at hc
  have C0 : w.cell? ⟨d, 0, none⟩ = some (.slice a n c) := by rw [cell_of_row _ _ 0 _ _ _ hc]; rfl
  have HC := hidMk (fun (W : World) (b : Below w.heap.size w W) => (b.cell (p := ⟨d, 0, none⟩) lt).trans C0)
  clear hnn hn hc C0
  unfold IdK.v
  go_enter Try.func54, Try.ntmps54
  obtain ⟨hx, bx, zx⟩ := box_id w k
  have ZX := hidMk zx
  clear zx
  go_upto_region 1 with fail
  generalize w.alloc (.cells k.c.toArray 35) = W at *
  have HX := hidMk (fun (V : World) (b : Below W.heap.size W V) => load_id hk ((b.block _ (by have := ZX.out; omega)).trans hx))
  go_wp2
  go_loopw [5] (fun v5 wr => ∃ i : Nat, v5 = .int .i64 (i : Int) ∧ i ≤ n ∧ (∀ j, j < i → ∀ p, NL[j]? = some p → p.1 ≠ k) ∧ Below W.heap.size W wr) (fun v5 wr => n - (match v5 with | .int _ i => i.toNat | _ => 0))
  case atStart => exact ⟨0, rfl, Nat.zero_le _, fun j hj => (by omega), Below.refl _ _⟩
  case round =>
    obtain ⟨i, rfl, hin, hbf, belW⟩ := hrel
    have bel : Below w.heap.size w wr := bx.trans (belW.mono bx.size)
    have hLn := HNn.out
    have hbig := HLn.out
    have c0 := HC.out wr bel
    by_cases hi : i < n
    · have hxi : NL[i]? = some NL[i] := List.getElem?_eq_getElem (by omega)
      generalize NL[i] = p at hxi
      have hpo := h.ok p (List.mem_of_getElem? hxi)
      obtain ⟨b, o, rfl, lb, hr⟩ : ∃ b o, a = some ⟨b, o, none⟩ ∧ b < w.heap.size ∧ w.rangeAt b (o + i * 68) (rnC p) := by
        rcases hrow with e | ⟨b, o, e, h1, h2⟩
        · rw [e] at hxi; simp at hxi
        · exact ⟨b, o, e, h1, h2 i p hxi⟩
      have HXI := hidMk hxi
      have HB := hidMk hbf
      clear hxi hbf
      go_upto_region 4 with fail
      clear c0
      have beldW : Below W.heap.size W wr.drew := belW.drew
      have bw : ∀ V, Below W.heap.size W V → Below w.heap.size w V := fun V b => bx.trans (b.mono bx.size)
      refine find4 d w.heap.size b o n c i p.1.v k.v (decide (p.1 = k)) (fun V => Below W.heap.size W V) _ wr _ rfl rfl rfl rfl beldW ?_ ?_ ?_ ?_ ?_ ?_ ?_
      · exact fun V hV => load_ns (HC.out V (bw V hV))
      · exact fun V => ix_rn hi (by omega) V
      · exact fun V hV => rn_id hpo (rangeAt_keep hr ((bw V hV).block _ lb))
      · exact fun V hV => HX.out V hV
      · exact fun V => guard_id _ _ p.1 k V _
      · exact fun V hV => eql_id p.1 k hpo.k hk V
      intro a' w' hw' ha
      subst ha
      simp only [Act.put, List.setIfInBounds_toArray, List.set_cons_zero, List.set_cons_succ]
      by_cases e : p.1 = k
      · rw [decide_eq_true e]
        go_wp2
        go_ret
        refine ⟨?_, bw _ hw'⟩
        have hp : p = (k, p.2) := by rw [← e]
        have hx2 := HXI.out
        rw [hp] at hx2
        have := fnd_first hx2 HB.out
        unfold fPos
        rw [this]
        rfl
      · rw [decide_eq_false e]
        go_wp2
        rw [show ((i : Int) + 1) = ((i + 1 : Nat) : Int) by omega]
        refine ⟨⟨i + 1, rfl, hi, fun j hj q hq => ?_, hw'⟩, ?_⟩
        · by_cases ej : j = i
          · subst ej
            rw [HXI.out] at hq
            cases hq
            exact e
          · exact HB.out j (by omega) q hq
        · show n - ((i + 1 : Nat) : Int).toNat < n - (i : Int).toNat
          omega
    · obtain rfl : i = n := by omega
      have hno : M.fnd NL k 0 = none := fnd_no (fun p hp => by
        obtain ⟨j, hj⟩ := List.getElem?_of_mem hp
        exact hbf j (by have := (List.getElem?_eq_some_iff.1 hj).1; omega) p hj)
      have HNO := hidMk hno
      clear hno hbf hLn hin hi
      go_wp2
      go_ret
      exact ⟨by unfold fPos; rw [HNO.out]; rfl, bel⟩
end Go.Proofs.Ytoofljkgdjjllab

namespace Go.Proofs.Ytoofljkgdjjllab
open Go.RowKit
set_option linter.unusedVariables false
set_option linter.unusedSimpArgs false

theorem fPos_none {NL : List (IdK × NodeV)} {k : IdK} (h : lookN NL k = none) : fPos NL k = -1 := by
  unfold fPos
  cases hf : M.fnd NL k 0 with
  | none => rfl
  | some q => unfold lookN M.look at h; rw [hf] at h; cases h
theorem fPos_some {NL : List (IdK × NodeV)} {k : IdK} {n : NodeV} (h : lookN NL k = some n) : ∃ j : Nat, fPos NL k = (j : Int) ∧ NL[j]? = some (k, n) ∧ j < NL.length := by
  unfold fPos
  unfold lookN M.look at h
  cases hf : M.fnd NL k 0 with
  | none => rw [hf] at h; cases h
  | some q =>
    obtain ⟨j, m⟩ := q
    rw [hf] at h
    cases h
    have := M.fnd_some hf
    exact ⟨j, rfl, this.1, this.2⟩
section
variable (d : Nat) (NL : List (IdK × NodeV)) (pv : Value)
set_option maxRecDepth 100000 in
set_option maxHeartbeats 2000000 in
theorem rlen_any (w : World) (h : RefAt w d NL pv) : Calls Try.prog 33 #[.pointer (some ⟨d, 0, none⟩)] w fun e w' => e = .returned (.int .i64 (NL.length : Int)) ∧ Below w.heap.size w w' := by
  obtain ⟨a, c, hc, _⟩ := h.cell
  have C0 : w.cell? ⟨d, 0, none⟩ = some (.slice a NL.length c) := by rw [cell_of_row _ _ 0 _ _ _ hc]; rfl
  clear hc
  generalize NL.length = n at *
  go_enter Try.func33, Try.ntmps33
  go_wp2
  go_ret
  exact ⟨rfl, Below.refl _ _⟩
set_option maxRecDepth 100000 in
set_option maxHeartbeats 2000000 in
theorem rhas_any (k : IdK) (w : World) (h : RefAt w d NL pv) (hk : k.ok) (hn : NL.length ≤ 1300000000000) :
    Calls Try.prog 47 #[.pointer (some ⟨d, 0, none⟩), k.v] w fun e w' => e = .returned (.bool (lookN NL k).isSome) ∧ Below w.heap.size w w' := by
  have HF := hidMk (fun (W : World) (b : Below w.heap.size w W) => find_any d NL pv k W (h.below b) hk hn)
  have hq : (0 ≤ fPos NL k) ↔ (lookN NL k).isSome = true := by
    cases hl : lookN NL k with
    | none => rw [fPos_none hl]; simp
    | some n => obtain ⟨j, e, _⟩ := fPos_some hl; rw [e]; simp
  generalize fPos NL k = z at *
  have hz : decide (0 ≤ z) = (lookN NL k).isSome := by rw [Bool.eq_iff_iff, decide_eq_true_eq]; exact hq
  generalize (lookN NL k).isSome = r at *
  clear hq
  unfold IdK.v
  go_enter Try.func47, Try.ntmps47
  obtain ⟨hx, bx, zx⟩ := box_id w k
  have ZX := hidMk zx
  have HZ := hidMk hz
  clear zx hz
  go_upto_region 1 with fail
  generalize w.alloc (.cells k.c.toArray 35) = W at *
  have HL := hidMk (load_id hk hx)
  go_wp2_with (first
    | (refine wpList_val rfl (exec_load (t := 35) (u := .pointer (some ⟨w.heap.size, 0, none⟩)) rfl rfl HL.out) ?_)
    | (go_at_call 54; refine (HF.out _ bx).mono ?_; rintro e w1 ⟨rfl, b1⟩)
    | fail)
  go_ret
  refine ⟨?_, bx.trans (b1.mono bx.size)⟩
  rw [← HZ.out]
  simp
end
end Go.Proofs.Ytoofljkgdjjllab

namespace Go.Proofs.Ytoofljkgdjjllab
open Go.RowKit
set_option linter.unusedVariables false
set_option linter.unusedSimpArgs false

abbrev RN := IdK × NodeV
def zRn : RN := (zId, zNode)
theorem zRn_ok : RnOk zRn := ⟨zId_ok, zId_ok⟩
theorem rn_one (p : RN) : ∀ v ∈ rnC p, v.oneCell' = true := by
  intro v hv
  simp only [rnC, List.mem_append, List.mem_cons, List.not_mem_nil, or_false] at hv
  rcases hv with h | h | rfl | rfl
  · exact IdK.one _ v h
  · exact IdK.one _ v h
  · rfl
  · rfl
def RnsAt (w : World) (a : Option Addr) (L : List RN) : Prop := L = [] ∨ ∃ b off, a = some ⟨b, off, none⟩ ∧ b < w.heap.size ∧ ∀ i h, L[i]? = some h → w.rangeAt b (off + 68 * i) (rnC h)
theorem RnsAt.below {w w' : World} {a : Option Addr} {L : List RN} (h : RnsAt w a L) (hb : Below w.heap.size w w') : RnsAt w' a L := by
  rcases h with h | ⟨b, off, e, hl, hr⟩
  · exact .inl h
  · exact .inr ⟨b, off, e, Nat.lt_of_lt_of_le hl hb.size, fun i x hx => rangeAt_keep (hr i x hx) (hb.block b hl)⟩
/-- Nodes, cell by cell. -/
def flatN (L : List RN) : List Value := L.flatMap rnC
theorem flatN_len : ∀ {L : List RN}, (∀ h ∈ L, RnOk h) → (flatN L).length = 68 * L.length
  | [], _ => rfl
  | x :: L, ok => by
    have := flatN_len (L := L) (fun h hh => ok h (by simp [hh]))
    simp only [flatN, List.flatMap_cons, List.length_append, rn_len (ok x (by simp)), List.length_cons] at this ⊢
    omega
theorem flatN_get : ∀ {L : List RN}, (∀ h ∈ L, RnOk h) → ∀ {i : Nat} {h : RN}, L[i]? = some h → ∀ {j : Nat} {v : Value}, (rnC h)[j]? = some v → (flatN L)[68 * i + j]? = some v
  | x :: L, ok, 0, h, hi, j, v, hj => by
    simp only [List.getElem?_cons_zero, Option.some.injEq] at hi
    subst hi
    have hl := (List.getElem?_eq_some_iff.1 hj).1
    rw [Nat.mul_zero, Nat.zero_add, flatN, List.flatMap_cons, List.getElem?_append_left hl]
    exact hj
  | x :: L, ok, i + 1, h, hi, j, v, hj => by
    simp only [List.getElem?_cons_succ] at hi
    have := flatN_get (L := L) (fun h hh => ok h (by simp [hh])) hi hj
    have l := rn_len (ok x (by simp))
    rw [flatN, List.flatMap_cons, List.getElem?_append_right (by omega), l, show 68 * (i + 1) + j - 68 = 68 * i + j by omega]
    exact this
  | [], _, i, h, hi, _, _, _ => by simp at hi
theorem flatN_inv : ∀ {L : List RN}, (∀ h ∈ L, RnOk h) → ∀ {p : Nat} {u : Value}, (flatN L)[p]? = some u → ∃ i h j, p = 68 * i + j ∧ L[i]? = some h ∧ (rnC h)[j]? = some u
  | [], _, p, u, hp => by simp [flatN] at hp
  | x :: L, ok, p, u, hp => by
    have l := rn_len (ok x (by simp))
    rw [flatN, List.flatMap_cons, List.getElem?_append] at hp
    by_cases h : p < (rnC x).length
    · rw [if_pos h] at hp
      exact ⟨0, x, p, by omega, rfl, hp⟩
    · rw [if_neg h] at hp
      obtain ⟨i, y, j, e, hi, hj⟩ := flatN_inv (L := L) (fun h hh => ok h (by simp [hh])) hp
      exact ⟨i + 1, y, j, by omega, hi, hj⟩
theorem flatN_one (L : List RN) : ∀ u ∈ flatN L, u.oneCell' = true := by
  intro u hu
  simp only [flatN, List.mem_flatMap] at hu
  obtain ⟨h, _, hv⟩ := hu
  exact rn_one h u hv
theorem flatN_app (L M : List RN) : flatN (L ++ M) = flatN L ++ flatN M := by simp [flatN]
/-- A row of nodes of the call's own. -/
def OwnN (w : World) (base : Nat) (v : Value) (L : List RN) : Prop := w.ownsRow base 100 68 v L.length (flatN L)
theorem OwnN.below {w w' : World} {base : Nat} {v : Value} {L : List RN} (h : OwnN w base v L) (hb : Below w.heap.size w w') : OwnN w' base v L := by
  refine ⟨h.1, ?_⟩
  rcases h.2 with hn | ⟨g, cap, cur, rfl, hbg, hg, rest⟩
  · exact .inl hn
  · exact .inr ⟨g, cap, cur, rfl, hbg, by rw [hb.block g (Array.getElem?_eq_some_iff.1 hg).1]; exact hg, rest⟩
theorem OwnN.keep {w w' : World} {base : Nat} {v : Value} {L : List RN} (h : OwnN w base v L) (hk : ∀ k, v.ownBlock = some k → w'.heap[k]? = w.heap[k]?) : OwnN w' base v L := by
  refine ⟨h.1, ?_⟩
  rcases h.2 with hn | ⟨g, cap, cur, rfl, hbg, hg, rest⟩
  · exact .inl hn
  · exact .inr ⟨g, cap, cur, rfl, hbg, by rw [hk g rfl]; exact hg, rest⟩
theorem OwnN.open {w : World} {base : Nat} {v : Value} {L : List RN} (h : OwnN w base v L) (ok : ∀ h ∈ L, RnOk h) : ∃ a c, v = .slice a L.length c ∧ RnsAt w a L ∧ L.length ≤ c := by
  rcases h.2 with ⟨rfl, hn⟩ | ⟨g, cap, cur, rfl, hbg, hg, hnc, hcm, hcs, htake⟩
  · obtain rfl : L = [] := List.eq_nil_of_length_eq_zero hn
    exact ⟨none, 0, rfl, .inl rfl, Nat.le_refl _⟩
  · refine ⟨some ⟨g, 0, none⟩, cap, rfl, .inr ⟨g, 0, rfl, (Array.getElem?_eq_some_iff.1 hg).1, fun i x hx j u hj => ?_⟩, hnc⟩
    have e := flatN_get ok hx hj
    rw [Nat.zero_add, cell_of_row w g _ cur 100 (0, 0) hg]
    rw [← htake, List.getElem?_take] at e
    split at e
    · simpa using e
    · cases e
theorem infoN : (Try.prog.info? 100).map (fun i => (i.zero, i.size, i.bytes)) = some (some (.agg (rnC zRn).toArray), 68, 104) := by kernel_rfl
theorem zcellsN : (Value.agg (rnC zRn).toArray).cells.size = 68 := by
  show (rnC zRn).toArray.size = 68
  rw [List.size_toArray, rn_len zRn_ok]
theorem run_appN (w : World) (base : Nat) (v : Value) (L : List RN) (a : Option Addr) (M : List RN) (c : Nat) (hown : OwnN w base v L) (hb : RnsAt w a M) (ok : ∀ h ∈ M, RnOk h) (h : L.length + M.length ≤ 2000000000000) (hbase : base ≤ w.heap.size) :
    ∃ v' w', (Builtin.append_ #[95, 95] 95 #[v, .slice a M.length c]).run Try.prog w = .ok v' w' ∧ OwnN w' base v' (L ++ M) ∧ w.grownBy w' v.ownBlock ∧ (v'.ownBlock = v.ownBlock ∨ v'.ownBlock = some w.heap.size) := by
  obtain ⟨i, hi, hz, hs, hby⟩ := info_parts infoN
  cases a with
  | some ad =>
    have hnews : ∀ j u, (flatN M)[j]? = some u → w.cell? (ad.add j) = some u := fun j u hj => by
      rcases hb with rfl | ⟨b, off, e, _, hc⟩
      · simp [flatN] at hj
      · cases e
        obtain ⟨k, x, r, rfl, hx, hr⟩ := flatN_inv ok hj
        rw [Addr.add_mid, ← Nat.add_assoc]
        exact hc k x hx r u hr
    obtain ⟨v', w', hr, h2, h3, h5⟩ := app_at (P := Try.prog) w base 95 95 100 i _ 68 104 Try.underlying95 hi hz hs hby zcellsN (by decide) v L.length (flatN L) hown ad M.length c (flatN M) (by rw [flatN_len ok, Nat.mul_comm]) hnews (flatN_one M) (by unfold maxLen; omega) (by omega) hbase
    refine ⟨v', w', hr, ?_, h3, h5⟩
    unfold OwnN
    rw [List.length_append, flatN_app]
    exact h2
  | none =>
    obtain rfl : M = [] := by
      rcases hb with rfl | ⟨b, off, e, _⟩
      · rfl
      · cases e
    rcases hown.2 with ⟨rfl, hn⟩ | ⟨g, cap, cur, rfl, hbg, hg, hnc, rest⟩
    · refine ⟨.slice none 0 0, w, ?_, by rw [List.append_nil]; exact hown, ⟨rfl, rfl, rfl, Nat.le_refl _, fun _ _ _ => rfl⟩, .inl rfl⟩
      simp [Builtin.append_, run_underlying Try.underlying95, sizeOf, typeInfo, hi, Builtin.lenOf, Builtin.firstCells, loadCells, loadCellsFrom]
    · refine ⟨.slice (some ⟨g, 0, none⟩) L.length cap, w, ?_, by rw [List.append_nil]; exact hown, ⟨rfl, rfl, rfl, Nat.le_refl _, fun _ _ _ => rfl⟩, .inl rfl⟩
      simp [Builtin.append_, run_underlying Try.underlying95, sizeOf, typeInfo, hi, Builtin.lenOf, Builtin.firstCells, hnc, storeCells]
theorem rns_lit (w : World) (h : RN) (t : TypeId) : RnsAt (w.alloc (.cells (rnC h).toArray t)) (some ⟨w.heap.size, 0, none⟩) [h] :=
  .inr ⟨w.heap.size, 0, rfl, by simp, fun i x hx j v hj => by
    have hl := (List.getElem?_eq_some_iff.1 hx).1
    obtain rfl : i = 0 := by simp at hl; omega
    simp at hx
    subst hx
    rw [Nat.mul_zero, Nat.add_zero, Nat.zero_add]
    exact cell_new w (rnC h) t j v hj⟩
theorem run_bsN (h : RN) (ok : RnOk h) (w : World) : (Instr.buildSlice 95 1 #[(0, .agg (rnC h).toArray)]).run Try.prog w = .ok (.slice (some ⟨w.heap.size, 0, none⟩) 1 1) (w.alloc (.cells (rnC h).toArray 100)) := by
  obtain ⟨ie, hi, hz, hs, hby⟩ := info_parts infoN
  refine run_buildSlice w 95 100 1 _ (rnC h).toArray ie _ Try.underlying95 hi hz (by rw [hs]; decide) (by rw [hs]; decide) ?_
  rw [hs]
  have := Go.Great.fill_whole (s := 68) (by decide) [.agg (rnC h).toArray] ((Array.range (1 * 68)).map ((Value.agg (rnC zRn).toArray).cells[· % (Value.agg (rnC zRn).toArray).cells.size]!)) (by intro v hv; simp at hv; subst hv; show (rnC h).toArray.size = 68; rw [List.size_toArray, rn_len ok]) (by simp)
  simpa [Value.cells] using this
section
variable {ops : Array Oper} {rest : List Oper} {o : Oper} {a : Act} {w : World} {Q : Exit → Act → World → Prop} {K : Act → World → Prop} {E : Prop}
theorem wpList_bsN (hg : o.guard = none) (x : Operand) (ho : o.op = .buildSlice 95 1 #[(0, x)]) (h : RN) (ok : RnOk h) (hx : a.eval x = .agg (rnC h).toArray)
    (hK : wpList Try.prog ops Q rest (a.put o.dst (.slice (some ⟨w.heap.size, 0, none⟩) 1 1)) (w.alloc (.cells (rnC h).toArray 100))) : wpList Try.prog ops Q (o :: rest) a w :=
  wpList_plain hg fun _ hK' => by
    unfold Oper.wp
    rw [exec_buildSlice ho hx (run_bsN h ok w)]
    exact hK' _ _ hK
theorem wpList_appN (hg : o.guard = none) (s x : Operand) (ho : o.op = .call { callee := .builtin .append, args := #[s, x], argTypes := #[95, 95] }) (ht : o.type = 95) (base : Nat) (v : Value) (L : List RN) (hs : a.eval s = v) (hown : OwnN w base v L)
    (aa : Option Addr) (m c : Nat) (M : List RN) (hx : a.eval x = .slice aa m c) (hm : M.length = m) (hb : RnsAt w aa M) (ok : ∀ h ∈ M, RnOk h) (hlen : L.length + M.length ≤ 2000000000000) (hbase : base ≤ w.heap.size)
    (h : ∀ v' w', OwnN w' base v' (L ++ M) → w.grownBy w' v.ownBlock → (v'.ownBlock = v.ownBlock ∨ v'.ownBlock = some w.heap.size) → wpList Try.prog ops Q rest (a.put o.dst v') w') : wpList Try.prog ops Q (o :: rest) a w :=
  wpList_plain hg fun _ hK' => by
    subst hm
    obtain ⟨v', w', hr, h2, h3, h4⟩ := run_appN w base v L aa M c hown hb ok hlen hbase
    unfold Oper.wp
    rw [exec_append ho hs hx (by rw [ht]; exact hr)]
    exact hK' _ _ (h v' w' h2 h3 h4)
theorem step_appN (hg : o.guard = none) (s x : Operand) (ho : o.op = .call { callee := .builtin .append, args := #[s, x], argTypes := #[95, 95] }) (ht : o.type = 95) (base : Nat) (v : Value) (L : List RN) (hs : a.eval s = v) (hown : OwnN w base v L)
    (aa : Option Addr) (m c : Nat) (M : List RN) (hx : a.eval x = .slice aa m c) (hm : M.length = m) (hb : RnsAt w aa M) (ok : ∀ h ∈ M, RnOk h) (hlen : L.length + M.length ≤ 2000000000000) (hbase : base ≤ w.heap.size)
    (h : ∀ v' w', OwnN w' base v' (L ++ M) → w.grownBy w' v.ownBlock → (v'.ownBlock = v.ownBlock ∨ v'.ownBlock = some w.heap.size) → K (a.put o.dst v') w') : if Region.wanted o (yielded ops a.tmps) = true then Oper.wp Try.prog o a w K Q else E := by
  subst hm
  obtain ⟨v', w', hr, h2, h3, h4⟩ := run_appN w base v L aa M c hown hb ok hlen hbase
  exact step_run hg (exec_append ho hs hx (by rw [ht]; exact hr)) (h v' w' h2 h3 h4)
end
theorem szRn : (Try.prog.info? 100).map (·.size) = some 68 := by kernel_rfl
theorem OwnN.ge {w : World} {base : Nat} {v : Value} {L : List RN} (h : OwnN w base v L) : ∀ j, v.ownBlock = some j → base ≤ j ∧ ∃ c, w.heap[j]? = some (.cells c 100 (0, 0)) := by
  intro j hj
  rcases h.2 with ⟨rfl, hn⟩ | ⟨g, cap, cur, rfl, hbg, hg, rest⟩
  · cases hj
  · obtain rfl : g = j := by simpa [Value.ownBlock] using hj
    exact ⟨hbg, _, hg⟩
theorem flatN_cons (x : RN) (L : List RN) : flatN (x :: L) = rnC x ++ flatN L := rfl
/-- A row with another Id at one place. -/
theorem own_setN {w : World} {base : Nat} {v : Value} {L : List RN} (own : OwnN w base v L) (ok : ∀ x ∈ L, RnOk x) {i : Nat} (hi : i < L.length) {x : RN} (hx : RnOk x) :
    ∃ g cap, v = .slice (some ⟨g, 0, none⟩) L.length cap ∧ g < w.heap.size ∧ ∃ w', (Instr.storeAt 100 (.pointer (some ⟨g, i * 68, none⟩)) (.agg (rnC x).toArray)).run Try.prog w = .ok () w' ∧ OwnN w' base v (L.set i x) ∧ Tch (fun j => v.ownBlock = some j) w w' ∧ w'.heap.size = w.heap.size := by
  rcases own.2 with ⟨rfl, hn⟩ | ⟨g, cap, cur, rfl, hbg, hg, hnc, hcm, hcs, htake⟩
  · omega
  · rw [Nat.mul_comm i 68]
    refine ⟨g, cap, rfl, (Array.getElem?_eq_some_iff.1 hg).1, w.setRow g (cur.toList.take (68 * i) ++ rnC x ++ cur.toList.drop (68 * i + (rnC x).length)).toArray, ?_, ?_, setRow_tch w g _, by simp [World.setRow]⟩
    · have hlen := rn_len hx
      have hb : 68 * i + 68 ≤ cur.size := by rw [hcs]; omega
      have h := run_storeCells_at Try.prog g (68 * i) 100 (rnC x) 0 cur w hg (by rw [hlen]; omega) (fun v hv => rn_one x v hv)
      rw [Nat.add_zero] at h
      have hs := szRn
      cases hq : Try.prog.info? 100 with
      | none => rw [hq] at hs; simp at hs
      | some ii =>
        rw [hq] at hs
        simp at hs
        have hcz : (rnC x).toArray.size = ii.size := by simp [hlen, hs]
        simp only [Instr.storeAt, Instr.sureAddr, Sem.run_bind, Sem.run_pure, Result.andThen_ok, storeVar, sizeOf, typeInfo, hq, Value.cells]
        simp [typeInfo, hq, hlen, hs, h]
    · have hA : ∃ A y B, L = A ++ y :: B ∧ A.length = i := ⟨L.take i, L[i], L.drop (i + 1), by rw [← List.drop_eq_getElem_cons hi, List.take_append_drop], by simp; omega⟩
      obtain ⟨A, y, B, rfl, hA⟩ := hA
      have okA : ∀ x ∈ A, RnOk x := fun x hx => ok x (by simp [hx])
      have okB : ∀ x ∈ B, RnOk x := fun x hx => ok x (by simp [hx])
      have oky : RnOk y := ok y (by simp)
      have hset : (A ++ y :: B).set i x = A ++ x :: B := by rw [← hA, List.set_append_right _ _ (Nat.le_refl _)]; simp
      rw [hset]
      have hfl : flatN (A ++ x :: B) = flatN A ++ rnC x ++ flatN B := by rw [flatN_app, flatN_cons]; simp
      have hfl' : flatN (A ++ y :: B) = flatN A ++ rnC y ++ flatN B := by rw [flatN_app, flatN_cons]; simp
      rw [hfl'] at htake
      have hlA := flatN_len okA
      have hlB := flatN_len okB
      have l1 := rn_len oky
      have l2 := rn_len hx
      have hlenx : (A ++ x :: B).length = (A ++ y :: B).length := by simp
      refine ⟨?_, Or.inr ⟨g, cap, _, by rw [hlenx], hbg, setRow_heap w g cur _ 100 (0, 0) hg, by rw [hlenx]; exact hnc, hcm, ?_, ?_⟩⟩
      · rw [hfl]; simp only [List.length_append, List.length_cons]; omega
      · rw [← hcs]
        simp only [List.length_append, List.length_cons] at hnc
        have : cur.toList.length = cur.size := by simp
        simp only [List.size_toArray, List.length_append, List.length_take, List.length_drop]
        omega
      · rw [List.toList_toArray, hfl, hlenx]
        refine take_seg htake ?_ (by omega) (by omega)
        simp only [List.length_append, List.length_cons]
        omega
end Go.Proofs.Ytoofljkgdjjllab

namespace Go.Proofs.Ytoofljkgdjjllab
open Go.RowKit
set_option linter.unusedVariables false
set_option linter.unusedSimpArgs false

theorem exec_buildSlice0 {P : Program} {w w2 : World} {a : Act} {o : Oper} {t n : Nat} {v : Value} (ho : o.op = .buildSlice t n #[]) (hl : (Instr.buildSlice t n #[]).run P w = .ok v w2) : (execOp a.eval o).run P w = .ok (.value v) w2 := by
  unfold execOp; simp only [ho, List.map_toArray, List.map_nil, Sem.run_bind, hl, Result.andThen_ok, Sem.run_pure]
def mark0_o0 : Oper := { dst := some 2, op := Op.move (Operand.tmp 0), type := 74, pos := "ref.go:58", after := #[], guard := none }
def mark0_o1 : Oper := { dst := some 3, op := Op.move (Operand.tmp 0), type := 74, pos := "ref.go:58", after := #[], guard := none }
def mark0_o2 : Oper := { dst := some 4, op := Op.nilCheck (Operand.tmp 3), type := 0, pos := "ref.go:58", after := #[{ on := 1, ground := Ground.data }], guard := none }
def mark0_o3 : Oper := { dst := some 5, op := Op.fieldAddr 98 (Operand.tmp 4) 1, type := 0, pos := "ref.go:58", after := #[{ on := 2, ground := Ground.data }], guard := none }
def mark0_o4 : Oper := { dst := some 6, op := Op.load 96 (Operand.tmp 5), type := 96, pos := "ref.go:58", after := #[{ on := 3, ground := Ground.data }], guard := none }
def mark0_o5 : Oper := { dst := some 7, op := Op.buildSlice 95 0 #[], type := 95, pos := "ref.go:58", after := #[], guard := none }
def mark0_o6 : Oper := { dst := some 8, op := Op.move (Operand.tmp 0), type := 74, pos := "ref.go:58", after := #[], guard := none }
def mark0_o7 : Oper := { dst := some 9, op := Op.nilCheck (Operand.tmp 8), type := 0, pos := "ref.go:58", after := #[{ on := 6, ground := Ground.data }], guard := none }
def mark0_o8 : Oper := { dst := some 10, op := Op.fieldAddr 98 (Operand.tmp 9) 0, type := 0, pos := "ref.go:58", after := #[{ on := 7, ground := Ground.data }], guard := none }
def mark0_o9 : Oper := { dst := some 11, op := Op.load 95 (Operand.tmp 10), type := 95, pos := "ref.go:58", after := #[{ on := 8, ground := Ground.data }], guard := none }
def mark0_o10 : Oper := { dst := some 12, op := Op.call { callee := Callee.builtin Builtin.append, args := #[Operand.tmp 7, Operand.tmp 11], argTypes := #[95, 95] }, type := 95, pos := "ref.go:58", after := #[{ on := 5, ground := Ground.data }, { on := 9, ground := Ground.data }], guard := none }
def mark0_o11 : Oper := { dst := some 13, op := Op.buildSlice 96 1 #[(0, Operand.tmp 12)], type := 96, pos := "ref.go:58", after := #[{ on := 10, ground := Ground.data }], guard := none }
def mark0_o12 : Oper := { dst := some 14, op := Op.call { callee := Callee.builtin Builtin.append, args := #[Operand.tmp 6, Operand.tmp 13], argTypes := #[96, 96] }, type := 96, pos := "ref.go:58", after := #[{ on := 4, ground := Ground.data }, { on := 11, ground := Ground.data }, { on := 10, ground := Ground.chain }], guard := none }
def mark0_o13 : Oper := { dst := some 15, op := Op.nilCheck (Operand.tmp 2), type := 0, pos := "ref.go:58", after := #[{ on := 0, ground := Ground.data }, { on := 0, ground := Ground.phase }, { on := 1, ground := Ground.phase }, { on := 2, ground := Ground.phase }, { on := 3, ground := Ground.phase }, { on := 4, ground := Ground.phase }, { on := 5, ground := Ground.phase }, { on := 6, ground := Ground.phase }, { on := 7, ground := Ground.phase }, { on := 8, ground := Ground.phase }, { on := 9, ground := Ground.phase }, { on := 10, ground := Ground.phase }, { on := 11, ground := Ground.phase }, { on := 12, ground := Ground.phase }], guard := none }
def mark0_o14 : Oper := { dst := some 16, op := Op.fieldAddr 98 (Operand.tmp 15) 1, type := 0, pos := "ref.go:58", after := #[{ on := 13, ground := Ground.data }, { on := 0, ground := Ground.phase }, { on := 1, ground := Ground.phase }, { on := 2, ground := Ground.phase }, { on := 3, ground := Ground.phase }, { on := 4, ground := Ground.phase }, { on := 5, ground := Ground.phase }, { on := 6, ground := Ground.phase }, { on := 7, ground := Ground.phase }, { on := 8, ground := Ground.phase }, { on := 9, ground := Ground.phase }, { on := 10, ground := Ground.phase }, { on := 11, ground := Ground.phase }, { on := 12, ground := Ground.phase }], guard := none }
def mark0_o15 : Oper := { dst := none, op := Op.store 96 (Operand.tmp 16) (Operand.tmp 14), type := 0, pos := "ref.go:58", after := #[{ on := 14, ground := Ground.data }, { on := 12, ground := Ground.data }, { on := 12, ground := Ground.chain }, { on := 0, ground := Ground.phase }, { on := 1, ground := Ground.phase }, { on := 2, ground := Ground.phase }, { on := 3, ground := Ground.phase }, { on := 4, ground := Ground.phase }, { on := 5, ground := Ground.phase }, { on := 6, ground := Ground.phase }, { on := 7, ground := Ground.phase }, { on := 8, ground := Ground.phase }, { on := 9, ground := Ground.phase }, { on := 10, ground := Ground.phase }, { on := 11, ground := Ground.phase }, { on := 12, ground := Ground.phase }], guard := none }
def mark0_ops : Array Oper := #[mark0_o0, mark0_o1, mark0_o2, mark0_o3, mark0_o4, mark0_o5, mark0_o6, mark0_o7, mark0_o8, mark0_o9, mark0_o10, mark0_o11, mark0_o12, mark0_o13, mark0_o14, mark0_o15]
set_option maxRecDepth 100000 in
set_option maxHeartbeats 4000000 in
theorem mark0 (d : Nat) (f0 f1 nv pv ev cv lv qv : Value) (w1 w2 w3 w4 w5 : World) (S : World → Prop) (a : Act) (w : World) (Q : Exit → Act → World → Prop) (hsz : a.tmps.size = 17)
    (t0 : a.tmps.getD 0 undef = .pointer (some ⟨d, 0, none⟩))
    (GF0 : ∀ W, (Instr.fieldAt 98 (.pointer (some ⟨d, 0, none⟩)) 0).run Try.prog W = .ok f0 W) (GF1 : ∀ W, (Instr.fieldAt 98 (.pointer (some ⟨d, 0, none⟩)) 1).run Try.prog W = .ok f1 W) (GL0 : ∀ W, S W → (Instr.loadAt 95 f0).run Try.prog W = .ok nv W)
    (S0 : S w.drew) (S1 : S w1) (S2 : S w2) (S3 : S w3) (S4 : S w4) (S5 : S w5)
    (K0 : (Instr.loadAt 96 f1).run Try.prog w.drew = .ok pv w.drew) (K1 : (Instr.loadAt 96 f1).run Try.prog w1 = .ok pv w1) (K2 : (Instr.loadAt 96 f1).run Try.prog w2 = .ok pv w2) (K3 : (Instr.loadAt 96 f1).run Try.prog w3 = .ok pv w3)
    (EB0 : (Instr.buildSlice 95 0 #[]).run Try.prog w.drew = .ok ev w1) (EA1 : (Builtin.append_ #[95, 95] 95 #[ev, nv]).run Try.prog w1 = .ok cv w2)
    (EB1 : (Instr.buildSlice 96 1 #[(0, cv)]).run Try.prog w2 = .ok lv w3) (EA2 : (Builtin.append_ #[96, 96] 96 #[pv, lv]).run Try.prog w3 = .ok qv w4) (ES : (Instr.storeAt 96 f1 qv).run Try.prog w4 = .ok () w5)
    (h1 : ∀ (a' : Act) (w' : World), w' = w5 → a' = (((((((((((((((a).put (some 2) (.pointer (some ⟨d, 0, none⟩))).put (some 3) (.pointer (some ⟨d, 0, none⟩))).put (some 4) (.pointer (some ⟨d, 0, none⟩))).put (some 5) (f1)).put (some 8) (.pointer (some ⟨d, 0, none⟩))).put (some 9) (.pointer (some ⟨d, 0, none⟩))).put (some 10) (f0)).put (some 11) (nv)).put (some 6) (pv)).put (some 7) (ev)).put (some 12) (cv)).put (some 13) (lv)).put (some 14) (qv)).put (some 15) (.pointer (some ⟨d, 0, none⟩))).put (some 16) (f1) → Q .normal a' w')
    (h2 : ∀ (a' : Act) (w' : World), w' = w5 → a' = (((((((((((((((a).put (some 2) (.pointer (some ⟨d, 0, none⟩))).put (some 3) (.pointer (some ⟨d, 0, none⟩))).put (some 4) (.pointer (some ⟨d, 0, none⟩))).put (some 5) (f1)).put (some 8) (.pointer (some ⟨d, 0, none⟩))).put (some 9) (.pointer (some ⟨d, 0, none⟩))).put (some 10) (f0)).put (some 11) (nv)).put (some 7) (ev)).put (some 6) (pv)).put (some 12) (cv)).put (some 13) (lv)).put (some 14) (qv)).put (some 15) (.pointer (some ⟨d, 0, none⟩))).put (some 16) (f1) → Q .normal a' w')
    (h3 : ∀ (a' : Act) (w' : World), w' = w5 → a' = (((((((((((((((a).put (some 2) (.pointer (some ⟨d, 0, none⟩))).put (some 3) (.pointer (some ⟨d, 0, none⟩))).put (some 4) (.pointer (some ⟨d, 0, none⟩))).put (some 5) (f1)).put (some 8) (.pointer (some ⟨d, 0, none⟩))).put (some 9) (.pointer (some ⟨d, 0, none⟩))).put (some 10) (f0)).put (some 11) (nv)).put (some 7) (ev)).put (some 12) (cv)).put (some 6) (pv)).put (some 13) (lv)).put (some 14) (qv)).put (some 15) (.pointer (some ⟨d, 0, none⟩))).put (some 16) (f1) → Q .normal a' w')
    (h4 : ∀ (a' : Act) (w' : World), w' = w5 → a' = (((((((((((((((a).put (some 2) (.pointer (some ⟨d, 0, none⟩))).put (some 3) (.pointer (some ⟨d, 0, none⟩))).put (some 4) (.pointer (some ⟨d, 0, none⟩))).put (some 5) (f1)).put (some 8) (.pointer (some ⟨d, 0, none⟩))).put (some 9) (.pointer (some ⟨d, 0, none⟩))).put (some 10) (f0)).put (some 11) (nv)).put (some 7) (ev)).put (some 12) (cv)).put (some 13) (lv)).put (some 6) (pv)).put (some 14) (qv)).put (some 15) (.pointer (some ⟨d, 0, none⟩))).put (some 16) (f1) → Q .normal a' w') :
    (Code.region 0 mark0_ops true).wp Try.prog Q a w := by
  refine wp_region_noPanic ?_
  refine wp_region_held_drew (S := fun w' => S w') (by kernel_rfl) (S0) (fun hHeld => ?_)
  refine tk 0 mark0_o0 (.pointer (some ⟨d, 0, none⟩)) (by rfl) (fun w1 hw => exec_move rfl t0) hHeld (fun a1 e1 => ?_)
  rw [← e1] at h1 h2 h3 h4
  have z1 := pz e1 hsz
  replace t0 := pk e1 t0
  have t2 := pq e1 hsz
  clear e1 hsz
  refine tk 1 mark0_o1 (.pointer (some ⟨d, 0, none⟩)) (by rfl) (fun w1 hw => exec_move rfl t0) hHeld (fun a2 e2 => ?_)
  rw [← e2] at h1 h2 h3 h4
  have z2 := pz e2 z1
  replace t0 := pk e2 t0
  replace t2 := pk e2 t2
  have t3 := pq e2 z1
  clear e2 z1
  refine tk 2 mark0_o2 (.pointer (some ⟨d, 0, none⟩)) (by rfl) (fun w1 hw => exec_nilCheck rfl t3) hHeld (fun a3 e3 => ?_)
  rw [← e3] at h1 h2 h3 h4
  have z3 := pz e3 z2
  replace t0 := pk e3 t0
  replace t2 := pk e3 t2
  clear t3
  have t4 := pq e3 z2
  clear e3 z2
  refine tk 3 mark0_o3 (f1) (by rfl) (fun w1 hw => exec_fieldAt rfl t4 (GF1 _)) hHeld (fun a4 e4 => ?_)
  rw [← e4] at h1 h2 h3 h4
  have z4 := pz e4 z3
  replace t0 := pk e4 t0
  replace t2 := pk e4 t2
  clear t4
  have t5 := pq e4 z3
  clear e4 z3
  refine tk 6 mark0_o6 (.pointer (some ⟨d, 0, none⟩)) (by rfl) (fun w1 hw => exec_move rfl t0) hHeld (fun a5 e5 => ?_)
  rw [← e5] at h1 h2 h3 h4
  have z5 := pz e5 z4
  clear t0
  replace t2 := pk e5 t2
  replace t5 := pk e5 t5
  have t8 := pq e5 z4
  clear e5 z4
  refine tk 7 mark0_o7 (.pointer (some ⟨d, 0, none⟩)) (by rfl) (fun w1 hw => exec_nilCheck rfl t8) hHeld (fun a6 e6 => ?_)
  rw [← e6] at h1 h2 h3 h4
  have z6 := pz e6 z5
  replace t2 := pk e6 t2
  replace t5 := pk e6 t5
  clear t8
  have t9 := pq e6 z5
  clear e6 z5
  refine tk 8 mark0_o8 (f0) (by rfl) (fun w1 hw => exec_fieldAt rfl t9 (GF0 _)) hHeld (fun a7 e7 => ?_)
  rw [← e7] at h1 h2 h3 h4
  have z7 := pz e7 z6
  replace t2 := pk e7 t2
  replace t5 := pk e7 t5
  clear t9
  have t10 := pq e7 z6
  clear e7 z6
  refine tk 9 mark0_o9 (nv) (by rfl) (fun w1 hw => exec_load rfl t10 (GL0 _ hw)) hHeld (fun a8 e8 => ?_)
  rw [← e8] at h1 h2 h3 h4
  have z8 := pz e8 z7
  replace t2 := pk e8 t2
  replace t5 := pk e8 t5
  clear t10
  have t11 := pq e8 z7
  clear e8 z7
  refine wpAnyH_ready (rs := [4, 5]) (by kernel_rfl) (by simp) ?_
  refine AllReadyH.cons (o := mark0_o4) rfl (fun K hK => ?_) (AllReadyH.cons (o := mark0_o5) rfl (fun K hK => ?_) (AllReadyH.nil))
  · clear h2 h3 h4
    skip
    have X := exec_load (P := Try.prog) (a := a8) (o := mark0_o4) rfl t5 K0
    rw [if_pos (by rfl), Oper.wp, X]
    show K _ _
    clear X
    refine hK.out _ _ (S0) (fun hHeld => ?_)
    clear hK K
    change wpAnyH _ _ _ _ _ _ _ (a8.put (some 6) (pv)) _
    obtain ⟨a9, e9⟩ : ∃ act, act = a8.put (some 6) (pv) := ⟨_, rfl⟩
    rw [← e9] at h1 ⊢
    have z9 := pz e9 z8
    replace t2 := pk e9 t2
    clear t5
    replace t11 := pk e9 t11
    have t6 := pq e9 z8
    clear e9 z8
    refine wpAnyH_ready (rs := [5]) (by kernel_rfl) (by simp) ?_
    refine AllReadyH.cons (o := mark0_o5) rfl (fun K hK => ?_) AllReadyH.nil
    skip
    have X := exec_buildSlice0 (P := Try.prog) (a := a9) (o := mark0_o5) rfl EB0
    rw [if_pos (by rfl), Oper.wp, X]
    show K _ _
    clear X
    refine hK.out _ _ (S1) (fun hHeld => ?_)
    clear hK K
    change wpAnyH _ _ _ _ _ _ _ (a9.put (some 7) (ev)) _
    obtain ⟨a10, e10⟩ : ∃ act, act = a9.put (some 7) (ev) := ⟨_, rfl⟩
    rw [← e10] at h1 ⊢
    have z10 := pz e10 z9
    replace t2 := pk e10 t2
    replace t11 := pk e10 t11
    replace t6 := pk e10 t6
    have t7 := pq e10 z9
    clear e10 z9
    refine wpAnyH_ready (rs := [10]) (by kernel_rfl) (by simp) ?_
    refine AllReadyH.cons (o := mark0_o10) rfl (fun K hK => ?_) AllReadyH.nil
    skip
    have X := exec_append (P := Try.prog) (a := a10) (o := mark0_o10) rfl t7 t11 EA1
    rw [if_pos (by rfl), Oper.wp, X]
    show K _ _
    clear X
    refine hK.out _ _ (S2) (fun hHeld => ?_)
    clear hK K
    change wpAnyH _ _ _ _ _ _ _ (a10.put (some 12) (cv)) _
    obtain ⟨a11, e11⟩ : ∃ act, act = a10.put (some 12) (cv) := ⟨_, rfl⟩
    rw [← e11] at h1 ⊢
    have z11 := pz e11 z10
    replace t2 := pk e11 t2
    clear t11
    replace t6 := pk e11 t6
    clear t7
    have t12 := pq e11 z10
    clear e11 z10
    refine wpAnyH_ready (rs := [11]) (by kernel_rfl) (by simp) ?_
    refine AllReadyH.cons (o := mark0_o11) rfl (fun K hK => ?_) AllReadyH.nil
    skip
    have X := exec_buildSlice (P := Try.prog) (a := a11) (o := mark0_o11) rfl t12 EB1
    rw [if_pos (by rfl), Oper.wp, X]
    show K _ _
    clear X
    refine hK.out _ _ (S3) (fun hHeld => ?_)
    clear hK K
    change wpAnyH _ _ _ _ _ _ _ (a11.put (some 13) (lv)) _
    obtain ⟨a12, e12⟩ : ∃ act, act = a11.put (some 13) (lv) := ⟨_, rfl⟩
    rw [← e12] at h1 ⊢
    have z12 := pz e12 z11
    replace t2 := pk e12 t2
    replace t6 := pk e12 t6
    clear t12
    have t13 := pq e12 z11
    clear e12 z11
    refine wpAnyH_ready (rs := [12]) (by kernel_rfl) (by simp) ?_
    refine AllReadyH.cons (o := mark0_o12) rfl (fun K hK => ?_) AllReadyH.nil
    skip
    have X := exec_append (P := Try.prog) (a := a12) (o := mark0_o12) rfl t6 t13 EA2
    rw [if_pos (by rfl), Oper.wp, X]
    show K _ _
    clear X
    refine hK.out _ _ (S4) (fun hHeld => ?_)
    clear hK K
    change wpAnyH _ _ _ _ _ _ _ (a12.put (some 14) (qv)) _
    obtain ⟨a13, e13⟩ : ∃ act, act = a12.put (some 14) (qv) := ⟨_, rfl⟩
    rw [← e13] at h1 ⊢
    have z13 := pz e13 z12
    replace t2 := pk e13 t2
    clear t6
    clear t13
    have t14 := pq e13 z12
    clear e13 z12
    refine tk 13 mark0_o13 (.pointer (some ⟨d, 0, none⟩)) (by rfl) (fun w1 hw => exec_nilCheck rfl t2) hHeld (fun a14 e14 => ?_)
    rw [← e14] at h1
    have z14 := pz e14 z13
    clear t2
    replace t14 := pk e14 t14
    have t15 := pq e14 z13
    clear e14 z13
    refine tk 14 mark0_o14 (f1) (by rfl) (fun w1 hw => exec_fieldAt rfl t15 (GF1 _)) hHeld (fun a15 e15 => ?_)
    rw [← e15] at h1
    have z15 := pz e15 z14
    replace t14 := pk e15 t14
    clear t15
    have t16 := pq e15 z14
    clear e15 z14
    refine wpAnyH_ready (rs := [15]) (by kernel_rfl) (by simp) ?_
    refine AllReadyH.cons (o := mark0_o15) rfl (fun K hK => ?_) AllReadyH.nil
    skip
    have X := exec_store (P := Try.prog) (a := a15) (o := mark0_o15) rfl t16 t14 ES
    rw [if_pos (by rfl), Oper.wp, X]
    show K _ _
    clear X
    refine hK.out _ _ (S5) (fun hHeld => ?_)
    clear hK K
    exact wpAnyH_done (by kernel_rfl) (NoPanic.normal (h1 _ _ (rfl) rfl)) _
  · clear h1
    skip
    have X := exec_buildSlice0 (P := Try.prog) (a := a8) (o := mark0_o5) rfl EB0
    rw [if_pos (by rfl), Oper.wp, X]
    show K _ _
    clear X
    refine hK.out _ _ (S1) (fun hHeld => ?_)
    clear hK K
    change wpAnyH _ _ _ _ _ _ _ (a8.put (some 7) (ev)) _
    obtain ⟨a17, e17⟩ : ∃ act, act = a8.put (some 7) (ev) := ⟨_, rfl⟩
    rw [← e17] at h2 h3 h4 ⊢
    have z17 := pz e17 z8
    replace t2 := pk e17 t2
    replace t5 := pk e17 t5
    replace t11 := pk e17 t11
    have t7 := pq e17 z8
    clear e17 z8
    refine wpAnyH_ready (rs := [4, 10]) (by kernel_rfl) (by simp) ?_
    refine AllReadyH.cons (o := mark0_o4) rfl (fun K hK => ?_) (AllReadyH.cons (o := mark0_o10) rfl (fun K hK => ?_) (AllReadyH.nil))
    · clear h3 h4
      skip
      have X := exec_load (P := Try.prog) (a := a17) (o := mark0_o4) rfl t5 K1
      rw [if_pos (by rfl), Oper.wp, X]
      show K _ _
      clear X
      refine hK.out _ _ (S1) (fun hHeld => ?_)
      clear hK K
      change wpAnyH _ _ _ _ _ _ _ (a17.put (some 6) (pv)) _
      obtain ⟨a18, e18⟩ : ∃ act, act = a17.put (some 6) (pv) := ⟨_, rfl⟩
      rw [← e18] at h2 ⊢
      have z18 := pz e18 z17
      replace t2 := pk e18 t2
      clear t5
      replace t11 := pk e18 t11
      replace t7 := pk e18 t7
      have t6 := pq e18 z17
      clear e18 z17
      refine wpAnyH_ready (rs := [10]) (by kernel_rfl) (by simp) ?_
      refine AllReadyH.cons (o := mark0_o10) rfl (fun K hK => ?_) AllReadyH.nil
      skip
      have X := exec_append (P := Try.prog) (a := a18) (o := mark0_o10) rfl t7 t11 EA1
      rw [if_pos (by rfl), Oper.wp, X]
      show K _ _
      clear X
      refine hK.out _ _ (S2) (fun hHeld => ?_)
      clear hK K
      change wpAnyH _ _ _ _ _ _ _ (a18.put (some 12) (cv)) _
      obtain ⟨a19, e19⟩ : ∃ act, act = a18.put (some 12) (cv) := ⟨_, rfl⟩
      rw [← e19] at h2 ⊢
      have z19 := pz e19 z18
      replace t2 := pk e19 t2
      clear t11
      clear t7
      replace t6 := pk e19 t6
      have t12 := pq e19 z18
      clear e19 z18
      refine wpAnyH_ready (rs := [11]) (by kernel_rfl) (by simp) ?_
      refine AllReadyH.cons (o := mark0_o11) rfl (fun K hK => ?_) AllReadyH.nil
      skip
      have X := exec_buildSlice (P := Try.prog) (a := a19) (o := mark0_o11) rfl t12 EB1
      rw [if_pos (by rfl), Oper.wp, X]
      show K _ _
      clear X
      refine hK.out _ _ (S3) (fun hHeld => ?_)
      clear hK K
      change wpAnyH _ _ _ _ _ _ _ (a19.put (some 13) (lv)) _
      obtain ⟨a20, e20⟩ : ∃ act, act = a19.put (some 13) (lv) := ⟨_, rfl⟩
      rw [← e20] at h2 ⊢
      have z20 := pz e20 z19
      replace t2 := pk e20 t2
      replace t6 := pk e20 t6
      clear t12
      have t13 := pq e20 z19
      clear e20 z19
      refine wpAnyH_ready (rs := [12]) (by kernel_rfl) (by simp) ?_
      refine AllReadyH.cons (o := mark0_o12) rfl (fun K hK => ?_) AllReadyH.nil
      skip
      have X := exec_append (P := Try.prog) (a := a20) (o := mark0_o12) rfl t6 t13 EA2
      rw [if_pos (by rfl), Oper.wp, X]
      show K _ _
      clear X
      refine hK.out _ _ (S4) (fun hHeld => ?_)
      clear hK K
      change wpAnyH _ _ _ _ _ _ _ (a20.put (some 14) (qv)) _
      obtain ⟨a21, e21⟩ : ∃ act, act = a20.put (some 14) (qv) := ⟨_, rfl⟩
      rw [← e21] at h2 ⊢
      have z21 := pz e21 z20
      replace t2 := pk e21 t2
      clear t6
      clear t13
      have t14 := pq e21 z20
      clear e21 z20
      refine tk 13 mark0_o13 (.pointer (some ⟨d, 0, none⟩)) (by rfl) (fun w1 hw => exec_nilCheck rfl t2) hHeld (fun a22 e22 => ?_)
      rw [← e22] at h2
      have z22 := pz e22 z21
      clear t2
      replace t14 := pk e22 t14
      have t15 := pq e22 z21
      clear e22 z21
      refine tk 14 mark0_o14 (f1) (by rfl) (fun w1 hw => exec_fieldAt rfl t15 (GF1 _)) hHeld (fun a23 e23 => ?_)
      rw [← e23] at h2
      have z23 := pz e23 z22
      replace t14 := pk e23 t14
      clear t15
      have t16 := pq e23 z22
      clear e23 z22
      refine wpAnyH_ready (rs := [15]) (by kernel_rfl) (by simp) ?_
      refine AllReadyH.cons (o := mark0_o15) rfl (fun K hK => ?_) AllReadyH.nil
      skip
      have X := exec_store (P := Try.prog) (a := a23) (o := mark0_o15) rfl t16 t14 ES
      rw [if_pos (by rfl), Oper.wp, X]
      show K _ _
      clear X
      refine hK.out _ _ (S5) (fun hHeld => ?_)
      clear hK K
      exact wpAnyH_done (by kernel_rfl) (NoPanic.normal (h2 _ _ (rfl) rfl)) _
    · clear h2
      skip
      have X := exec_append (P := Try.prog) (a := a17) (o := mark0_o10) rfl t7 t11 EA1
      rw [if_pos (by rfl), Oper.wp, X]
      show K _ _
      clear X
      refine hK.out _ _ (S2) (fun hHeld => ?_)
      clear hK K
      change wpAnyH _ _ _ _ _ _ _ (a17.put (some 12) (cv)) _
      obtain ⟨a25, e25⟩ : ∃ act, act = a17.put (some 12) (cv) := ⟨_, rfl⟩
      rw [← e25] at h3 h4 ⊢
      have z25 := pz e25 z17
      replace t2 := pk e25 t2
      replace t5 := pk e25 t5
      clear t11
      clear t7
      have t12 := pq e25 z17
      clear e25 z17
      refine wpAnyH_ready (rs := [4, 11]) (by kernel_rfl) (by simp) ?_
      refine AllReadyH.cons (o := mark0_o4) rfl (fun K hK => ?_) (AllReadyH.cons (o := mark0_o11) rfl (fun K hK => ?_) (AllReadyH.nil))
      · clear h4
        skip
        have X := exec_load (P := Try.prog) (a := a25) (o := mark0_o4) rfl t5 K2
        rw [if_pos (by rfl), Oper.wp, X]
        show K _ _
        clear X
        refine hK.out _ _ (S2) (fun hHeld => ?_)
        clear hK K
        change wpAnyH _ _ _ _ _ _ _ (a25.put (some 6) (pv)) _
        obtain ⟨a26, e26⟩ : ∃ act, act = a25.put (some 6) (pv) := ⟨_, rfl⟩
        rw [← e26] at h3 ⊢
        have z26 := pz e26 z25
        replace t2 := pk e26 t2
        clear t5
        replace t12 := pk e26 t12
        have t6 := pq e26 z25
        clear e26 z25
        refine wpAnyH_ready (rs := [11]) (by kernel_rfl) (by simp) ?_
        refine AllReadyH.cons (o := mark0_o11) rfl (fun K hK => ?_) AllReadyH.nil
        skip
        have X := exec_buildSlice (P := Try.prog) (a := a26) (o := mark0_o11) rfl t12 EB1
        rw [if_pos (by rfl), Oper.wp, X]
        show K _ _
        clear X
        refine hK.out _ _ (S3) (fun hHeld => ?_)
        clear hK K
        change wpAnyH _ _ _ _ _ _ _ (a26.put (some 13) (lv)) _
        obtain ⟨a27, e27⟩ : ∃ act, act = a26.put (some 13) (lv) := ⟨_, rfl⟩
        rw [← e27] at h3 ⊢
        have z27 := pz e27 z26
        replace t2 := pk e27 t2
        clear t12
        replace t6 := pk e27 t6
        have t13 := pq e27 z26
        clear e27 z26
        refine wpAnyH_ready (rs := [12]) (by kernel_rfl) (by simp) ?_
        refine AllReadyH.cons (o := mark0_o12) rfl (fun K hK => ?_) AllReadyH.nil
        skip
        have X := exec_append (P := Try.prog) (a := a27) (o := mark0_o12) rfl t6 t13 EA2
        rw [if_pos (by rfl), Oper.wp, X]
        show K _ _
        clear X
        refine hK.out _ _ (S4) (fun hHeld => ?_)
        clear hK K
        change wpAnyH _ _ _ _ _ _ _ (a27.put (some 14) (qv)) _
        obtain ⟨a28, e28⟩ : ∃ act, act = a27.put (some 14) (qv) := ⟨_, rfl⟩
        rw [← e28] at h3 ⊢
        have z28 := pz e28 z27
        replace t2 := pk e28 t2
        clear t6
        clear t13
        have t14 := pq e28 z27
        clear e28 z27
        refine tk 13 mark0_o13 (.pointer (some ⟨d, 0, none⟩)) (by rfl) (fun w1 hw => exec_nilCheck rfl t2) hHeld (fun a29 e29 => ?_)
        rw [← e29] at h3
        have z29 := pz e29 z28
        clear t2
        replace t14 := pk e29 t14
        have t15 := pq e29 z28
        clear e29 z28
        refine tk 14 mark0_o14 (f1) (by rfl) (fun w1 hw => exec_fieldAt rfl t15 (GF1 _)) hHeld (fun a30 e30 => ?_)
        rw [← e30] at h3
        have z30 := pz e30 z29
        replace t14 := pk e30 t14
        clear t15
        have t16 := pq e30 z29
        clear e30 z29
        refine wpAnyH_ready (rs := [15]) (by kernel_rfl) (by simp) ?_
        refine AllReadyH.cons (o := mark0_o15) rfl (fun K hK => ?_) AllReadyH.nil
        skip
        have X := exec_store (P := Try.prog) (a := a30) (o := mark0_o15) rfl t16 t14 ES
        rw [if_pos (by rfl), Oper.wp, X]
        show K _ _
        clear X
        refine hK.out _ _ (S5) (fun hHeld => ?_)
        clear hK K
        exact wpAnyH_done (by kernel_rfl) (NoPanic.normal (h3 _ _ (rfl) rfl)) _
      · clear h3
        skip
        have X := exec_buildSlice (P := Try.prog) (a := a25) (o := mark0_o11) rfl t12 EB1
        rw [if_pos (by rfl), Oper.wp, X]
        show K _ _
        clear X
        refine hK.out _ _ (S3) (fun hHeld => ?_)
        clear hK K
        change wpAnyH _ _ _ _ _ _ _ (a25.put (some 13) (lv)) _
        obtain ⟨a32, e32⟩ : ∃ act, act = a25.put (some 13) (lv) := ⟨_, rfl⟩
        rw [← e32] at h4 ⊢
        have z32 := pz e32 z25
        replace t2 := pk e32 t2
        replace t5 := pk e32 t5
        clear t12
        have t13 := pq e32 z25
        clear e32 z25
        refine wpAnyH_ready (rs := [4]) (by kernel_rfl) (by simp) ?_
        refine AllReadyH.cons (o := mark0_o4) rfl (fun K hK => ?_) AllReadyH.nil
        skip
        have X := exec_load (P := Try.prog) (a := a32) (o := mark0_o4) rfl t5 K3
        rw [if_pos (by rfl), Oper.wp, X]
        show K _ _
        clear X
        refine hK.out _ _ (S3) (fun hHeld => ?_)
        clear hK K
        change wpAnyH _ _ _ _ _ _ _ (a32.put (some 6) (pv)) _
        obtain ⟨a33, e33⟩ : ∃ act, act = a32.put (some 6) (pv) := ⟨_, rfl⟩
        rw [← e33] at h4 ⊢
        have z33 := pz e33 z32
        replace t2 := pk e33 t2
        clear t5
        replace t13 := pk e33 t13
        have t6 := pq e33 z32
        clear e33 z32
        refine wpAnyH_ready (rs := [12]) (by kernel_rfl) (by simp) ?_
        refine AllReadyH.cons (o := mark0_o12) rfl (fun K hK => ?_) AllReadyH.nil
        skip
        have X := exec_append (P := Try.prog) (a := a33) (o := mark0_o12) rfl t6 t13 EA2
        rw [if_pos (by rfl), Oper.wp, X]
        show K _ _
        clear X
        refine hK.out _ _ (S4) (fun hHeld => ?_)
        clear hK K
        change wpAnyH _ _ _ _ _ _ _ (a33.put (some 14) (qv)) _
        obtain ⟨a34, e34⟩ : ∃ act, act = a33.put (some 14) (qv) := ⟨_, rfl⟩
        rw [← e34] at h4 ⊢
        have z34 := pz e34 z33
        replace t2 := pk e34 t2
        clear t13
        clear t6
        have t14 := pq e34 z33
        clear e34 z33
        refine tk 13 mark0_o13 (.pointer (some ⟨d, 0, none⟩)) (by rfl) (fun w1 hw => exec_nilCheck rfl t2) hHeld (fun a35 e35 => ?_)
        rw [← e35] at h4
        have z35 := pz e35 z34
        clear t2
        replace t14 := pk e35 t14
        have t15 := pq e35 z34
        clear e35 z34
        refine tk 14 mark0_o14 (f1) (by rfl) (fun w1 hw => exec_fieldAt rfl t15 (GF1 _)) hHeld (fun a36 e36 => ?_)
        rw [← e36] at h4
        have z36 := pz e36 z35
        replace t14 := pk e36 t14
        clear t15
        have t16 := pq e36 z35
        clear e36 z35
        refine wpAnyH_ready (rs := [15]) (by kernel_rfl) (by simp) ?_
        refine AllReadyH.cons (o := mark0_o15) rfl (fun K hK => ?_) AllReadyH.nil
        skip
        have X := exec_store (P := Try.prog) (a := a36) (o := mark0_o15) rfl t16 t14 ES
        rw [if_pos (by rfl), Oper.wp, X]
        show K _ _
        clear X
        refine hK.out _ _ (S5) (fun hHeld => ?_)
        clear hK K
        exact wpAnyH_done (by kernel_rfl) (NoPanic.normal (h4 _ _ (rfl) rfl)) _
end Go.Proofs.Ytoofljkgdjjllab

namespace Go.Proofs.Ytoofljkgdjjllab
open Go.RowKit
set_option linter.unusedVariables false
set_option linter.unusedSimpArgs false

/-- Values of one cell that lie in memory. -/
def Vals (w : World) (a : Option Addr) (X : List Value) : Prop := X = [] ∨ ∃ b off, a = some ⟨b, off, none⟩ ∧ ∀ j u, X[j]? = some u → w.cell? ⟨b, off + j, none⟩ = some u
/-- A row of the call's own. -/
def OwnV (w : World) (base : Nat) (e : TypeId) (v : Value) (X : List Value) : Prop := w.ownsRow base e 1 v X.length X
theorem Vals.below {w w' : World} {a : Option Addr} {X : List Value} (h : Vals w a X) (hb : Below w.heap.size w w') : Vals w' a X := by
  rcases h with rfl | ⟨b, off, rfl, hc⟩
  · exact .inl rfl
  · exact .inr ⟨b, off, rfl, fun j u hj => (hb.cell (p := ⟨b, off + j, none⟩) (block_lt_of_cell (hc j u hj))).trans (hc j u hj)⟩
theorem OwnV.below {w w' : World} {base : Nat} {e : TypeId} {v : Value} {X : List Value} (h : OwnV w base e v X) (hb : Below w.heap.size w w') : OwnV w' base e v X := by
  refine ⟨h.1, ?_⟩
  rcases h.2 with hn | ⟨g, cap, cur, rfl, hbg, hg, rest⟩
  · exact .inl hn
  · exact .inr ⟨g, cap, cur, rfl, hbg, by rw [hb.block g (Array.getElem?_eq_some_iff.1 hg).1]; exact hg, rest⟩
theorem OwnV.keep {w w' : World} {base : Nat} {e : TypeId} {v : Value} {X : List Value} (h : OwnV w base e v X) (hk : ∀ k, v.ownBlock = some k → w'.heap[k]? = w.heap[k]?) : OwnV w' base e v X := by
  refine ⟨h.1, ?_⟩
  rcases h.2 with hn | ⟨g, cap, cur, rfl, hbg, hg, rest⟩
  · exact .inl hn
  · exact .inr ⟨g, cap, cur, rfl, hbg, by rw [hk g rfl]; exact hg, rest⟩
theorem OwnV.ge {w : World} {base : Nat} {e : TypeId} {v : Value} {X : List Value} (h : OwnV w base e v X) : ∀ j, v.ownBlock = some j → base ≤ j ∧ ∃ c, w.heap[j]? = some (.cells c e (0, 0)) := by
  intro j hj
  rcases h.2 with ⟨rfl, hn⟩ | ⟨g, cap, cur, rfl, hbg, hg, rest⟩
  · cases hj
  · obtain rfl : g = j := by simpa [Value.ownBlock] using hj
    exact ⟨hbg, _, hg⟩
theorem OwnV.open {w : World} {base : Nat} {e : TypeId} {v : Value} {X : List Value} (h : OwnV w base e v X) :
    ∃ a cap, v = .slice a X.length cap ∧ X.length ≤ cap ∧ Vals w a X ∧ (a = none → X = [] ∧ cap = 0) := by
  rcases h.2 with ⟨rfl, hn⟩ | ⟨g, cap, cur, rfl, hbg, hg, hnc, hcm, hcs, htake⟩
  · obtain rfl : X = [] := List.eq_nil_of_length_eq_zero hn
    exact ⟨none, 0, rfl, Nat.le_refl _, .inl rfl, fun _ => ⟨rfl, rfl⟩⟩
  · refine ⟨some ⟨g, 0, none⟩, cap, rfl, hnc, .inr ⟨g, 0, rfl, fun j u hj => ?_⟩, fun h => by cases h⟩
    rw [Nat.zero_add, cell_of_row w g j cur e (0, 0) hg]
    rw [← htake, List.getElem?_take] at hj
    split at hj
    · simpa using hj
    · cases hj
theorem run_appV (T e y : TypeId) (z : Value) (ht : Try.prog.underlying T = some (.slice e)) (hi : (Try.prog.info? e).map (fun i => (i.zero, i.size, i.bytes)) = some (some z, 1, y)) (hy : y = 8 ∨ y = 24) (hz1 : z.cells.size = 1)
    (w : World) (base : Nat) (ty : TypeId) (v : Value) (L : List Value) (a : Option Addr) (M : List Value) (c : Nat) (hown : OwnV w base e v L) (hb : Vals w a M) (h1 : ∀ u ∈ M, u.oneCell' = true)
    (h : L.length + M.length ≤ 2000000000000) (hbase : base ≤ w.heap.size) :
    ∃ v' w', (Builtin.append_ #[T, T] ty #[v, .slice a M.length c]).run Try.prog w = .ok v' w' ∧ OwnV w' base e v' (L ++ M) ∧ w.grownBy w' v.ownBlock ∧ (v'.ownBlock = v.ownBlock ∨ v'.ownBlock = some w.heap.size) := by
  obtain ⟨i, hi, hz, hs, hby⟩ := info_parts hi
  cases a with
  | some ad =>
    have hnews : ∀ j u, M[j]? = some u → w.cell? (ad.add j) = some u := fun j u hj => by
      rcases hb with rfl | ⟨b, off, e, hc⟩
      · simp at hj
      · cases e
        rw [Addr.add_mid]
        exact hc j u hj
    obtain ⟨v', w', hr, h2, h3, h5⟩ := app_at (P := Try.prog) w base T ty e i z 1 y ht hi hz hs hby hz1 (by decide) v L.length L hown ad M.length c M (by omega) hnews h1 (by unfold maxLen; omega) (by rcases hy with rfl | rfl <;> omega) hbase
    refine ⟨v', w', hr, ?_, h3, h5⟩
    unfold OwnV
    rw [List.length_append]
    exact h2
  | none =>
    obtain rfl : M = [] := by
      rcases hb with rfl | ⟨b, off, e, _⟩
      · rfl
      · cases e
    rcases hown.2 with ⟨rfl, hn⟩ | ⟨g, cap, cur, rfl, hbg, hg, hnc, rest⟩
    · refine ⟨.slice none 0 0, w, ?_, by rw [List.append_nil]; exact hown, ⟨rfl, rfl, rfl, Nat.le_refl _, fun _ _ _ => rfl⟩, .inl rfl⟩
      simp [Builtin.append_, run_underlying ht, sizeOf, typeInfo, hi, Builtin.lenOf, Builtin.firstCells, loadCells, loadCellsFrom]
    · refine ⟨.slice (some ⟨g, 0, none⟩) L.length cap, w, ?_, by rw [List.append_nil]; exact hown, ⟨rfl, rfl, rfl, Nat.le_refl _, fun _ _ _ => rfl⟩, .inl rfl⟩
      simp [Builtin.append_, run_underlying ht, sizeOf, typeInfo, hi, Builtin.lenOf, Builtin.firstCells, hnc, storeCells]
end Go.Proofs.Ytoofljkgdjjllab

namespace Go.Proofs.Ytoofljkgdjjllab
open Go.RowKit
set_option linter.unusedVariables false
set_option linter.unusedSimpArgs false

/-- The document's tree with its past. -/
structure RefP (B : Nat) (w : World) (d : Nat) (NL : List RN) (PL : List (List RN)) (vn vp : Value) (us : List Value) : Prop where
  cell : w.heap[d]? = some (.cells #[vn, vp] 98 (0, 0))
  nodes : OwnN w B vn NL
  past : OwnV w B 95 vp us
  len : us.length = PL.length
  lists : ∀ (i : Nat) u P, us[i]? = some u → PL[i]? = some P → OwnN w B u P
  dB : B ≤ d
  ap : ∀ (i : Nat) u j, us[i]? = some u → u.ownBlock = some j → vn.ownBlock ≠ some j
  ap2 : ∀ (i i' : Nat) u u' j, us[i]? = some u → us[i']? = some u' → i ≠ i' → u.ownBlock = some j → u'.ownBlock ≠ some j
  ok : ∀ p ∈ NL, RnOk p
  okP : ∀ P ∈ PL, ∀ p ∈ P, RnOk p
  nd : (NL.map (·.1)).Nodup
  ndP : ∀ P ∈ PL, (P.map (·.1)).Nodup
/-- Its blocks. -/
def refB (d : Nat) (vn vp : Value) (us : List Value) (j : Nat) : Prop := j = d ∨ vn.ownBlock = some j ∨ vp.ownBlock = some j ∨ ∃ (i : Nat) (u : Value), us[i]? = some u ∧ u.ownBlock = some j
section
variable {B : Nat} {w w' : World} {d : Nat} {NL : List RN} {PL : List (List RN)} {vn vp : Value} {us : List Value}
theorem RefP.ref (h : RefP B w d NL PL vn vp us) : RefAt w d NL vp := by
  obtain ⟨a, c, e, hr, _⟩ := h.nodes.open h.ok
  refine ⟨⟨a, c, by rw [← e]; exact h.cell, ?_⟩, h.ok, h.nd⟩
  rcases hr with hr | ⟨b, o, e, h1, h2⟩
  · exact Or.inl hr
  · exact Or.inr ⟨b, o, e, h1, fun i x hx => by rw [Nat.mul_comm]; exact h2 i x hx⟩
theorem RefP.keep {O : Nat → Prop} (h : RefP B w d NL PL vn vp us) (t : Tch O w w') (hO : ∀ j, refB d vn vp us j → ¬ O j) : RefP B w' d NL PL vn vp us := by
  have hb : ∀ j c T, w.heap[j]? = some (.cells c T (0, 0)) → refB d vn vp us j → w'.heap[j]? = w.heap[j]? := fun j c T hj hr => t.block j (Array.getElem?_eq_some_iff.1 hj).1 (hO j hr)
  refine ⟨(hb d _ _ h.cell (Or.inl rfl)).trans h.cell, h.nodes.keep fun j hj => ?_, h.past.keep fun j hj => ?_, h.len, fun i u P hu hP => (h.lists i u P hu hP).keep fun j hj => ?_, h.dB, h.ap, h.ap2, h.ok, h.okP, h.nd, h.ndP⟩
  · obtain ⟨_, c, hc⟩ := h.nodes.ge j hj; exact hb j _ _ hc (Or.inr (Or.inl hj))
  · obtain ⟨_, c, hc⟩ := h.past.ge j hj; exact hb j _ _ hc (Or.inr (Or.inr (Or.inl hj)))
  · obtain ⟨_, c, hc⟩ := (h.lists i u P hu hP).ge j hj; exact hb j _ _ hc (Or.inr (Or.inr (Or.inr ⟨i, u, hu, hj⟩)))
theorem RefP.ge (h : RefP B w d NL PL vn vp us) : ∀ j, refB d vn vp us j → B ≤ j ∧ j < w.heap.size := by
  rintro j (rfl | hj | hj | ⟨i, u, hu, hj⟩)
  · exact ⟨h.dB, (Array.getElem?_eq_some_iff.1 h.cell).1⟩
  · obtain ⟨g, c, hc⟩ := h.nodes.ge j hj; exact ⟨g, (Array.getElem?_eq_some_iff.1 hc).1⟩
  · obtain ⟨g, c, hc⟩ := h.past.ge j hj; exact ⟨g, (Array.getElem?_eq_some_iff.1 hc).1⟩
  · have hi : i < PL.length := by rw [← h.len]; exact (List.getElem?_eq_some_iff.1 hu).1
    obtain ⟨g, c, hc⟩ := (h.lists i u _ hu (List.getElem?_eq_getElem hi)).ge j hj
    exact ⟨g, (Array.getElem?_eq_some_iff.1 hc).1⟩
theorem RefP.below (h : RefP B w d NL PL vn vp us) (b : Below w.heap.size w w') : RefP B w' d NL PL vn vp us :=
  h.keep (O := fun _ => False) ⟨b.os, b.tape, b.output, b.size, fun k hk _ => b.block k hk⟩ fun _ _ q => q
end
set_option maxRecDepth 100000 in
set_option maxHeartbeats 2000000 in
theorem rnew_own (w : World) : Calls Try.prog 31 #[] w fun e w' => ∃ d, e = .returned (.pointer (some ⟨d, 0, none⟩)) ∧ RefP w.heap.size w' d [] [] (.slice none 0 0) (.slice none 0 0) [] ∧ Below w.heap.size w w' := by
  go_enter Try.func31, Try.ntmps31
  go_wp2
  go_ret
  refine ⟨_, rfl, ⟨heap_alloc_new _ _, ⟨rfl, Or.inl ⟨rfl, rfl⟩⟩, ⟨rfl, Or.inl ⟨rfl, rfl⟩⟩, rfl, by simp, Nat.le_refl _, by simp, by simp, by simp, by simp, by simp, by simp⟩, (Below.refl _ _).alloc (Nat.le_refl _) _⟩
end Go.Proofs.Ytoofljkgdjjllab

namespace Go.Proofs.Ytoofljkgdjjllab
open Go.RowKit
set_option linter.unusedVariables false
set_option linter.unusedSimpArgs false

theorem infoNs : (Try.prog.info? 95).map (fun i => (i.zero, i.size, i.bytes)) = some (some (.slice none 0 0), 1, 24) := by kernel_rfl
theorem run_bsV (v : Value) (h1 : v.oneCell' = true) (hc : v.cells = #[v]) (w : World) : (Instr.buildSlice 96 1 #[(0, v)]).run Try.prog w = .ok (.slice (some ⟨w.heap.size, 0, none⟩) 1 1) (w.alloc (.cells #[v] 95)) := by
  obtain ⟨ie, hi, hz, hs, hby⟩ := info_parts infoNs
  refine run_buildSlice w 96 95 1 _ #[v] ie _ Try.underlying96 hi hz (by rw [hs]; decide) (by rw [hs]; decide) ?_
  rw [hs]
  have := Go.Great.fill_whole (s := 1) (by decide) [v] ((Array.range (1 * 1)).map ((Value.slice none 0 0).cells[· % (Value.slice none 0 0).cells.size]!)) (by intro u hu; simp at hu; subst hu; rw [hc]; rfl) (by simp)
  simpa [hc] using this
theorem run_bs0 (w : World) : (Instr.buildSlice 95 0 #[]).run Try.prog w = .ok (.slice (some ⟨w.heap.size, 0, none⟩) 0 0) (w.alloc (.cells #[] 100)) := by
  obtain ⟨ie, hi, hz, hs, hby⟩ := info_parts infoN
  simp [Instr.buildSlice, run_underlying Try.underlying95, sizeOf, typeInfo, zeroValue, hi, hz, hs, newRow, Instr.fill]
  rw [show Array.range 0 = #[] by simp [Array.range], Array.map_empty]
section
variable {w : World} {d : Nat} {vn vp : Value} (a : Option Addr) (n c : Nat) (h : w.heap[d]? = some (.cells #[vn, vp] 98 (0, 0)))
include h
theorem store_ref1 : (Instr.storeAt 96 (.pointer (some ⟨d, 1, none⟩)) (.slice a n c)).run Try.prog w = .ok () (w.setCell ⟨d, 1, none⟩ (.slice a n c)) := by
  have hc : w.cell? ⟨d, 1, none⟩ = some vp := by rw [cell_of_row _ _ 1 _ _ _ h]; rfl
  have hf := frozen_of_row w d 1 _ _ h
  go_simp
theorem store_ref0 : (Instr.storeAt 95 (.pointer (some ⟨d, 0, none⟩)) (.slice a n c)).run Try.prog w = .ok () (w.setCell ⟨d, 0, none⟩ (.slice a n c)) := by
  have hc : w.cell? ⟨d, 0, none⟩ = some vn := by rw [cell_of_row _ _ 0 _ _ _ h]; rfl
  have hf := frozen_of_row w d 0 _ _ h
  go_simp
theorem set_ref1 (u : Value) : (w.setCell ⟨d, 1, none⟩ u).heap[d]? = some (.cells #[vn, u] 98 (0, 0)) := by
  obtain ⟨hl, hv⟩ := Array.getElem?_eq_some_iff.1 h
  simp [World.setCell, hl, Array.getElem_modify_self, hv]
theorem set_ref0 (u : Value) : (w.setCell ⟨d, 0, none⟩ u).heap[d]? = some (.cells #[u, vp] 98 (0, 0)) := by
  obtain ⟨hl, hv⟩ := Array.getElem?_eq_some_iff.1 h
  simp [World.setCell, hl, Array.getElem_modify_self, hv]
end
theorem set_tch (w : World) (d k : Nat) (u : Value) : Tch (fun j => j = d) w (w.setCell ⟨d, k, none⟩ u) := by
  have b := (Below.refl 0 w).setCell (p := ⟨d, k, none⟩) (Nat.zero_le _) u
  exact ⟨b.os, b.tape, b.output, b.size, fun j hj hn => Below.heap_setCell _ _ _ _ hn⟩
end Go.Proofs.Ytoofljkgdjjllab

namespace Go.Proofs.Ytoofljkgdjjllab
open Go.RowKit
set_option linter.unusedVariables false
set_option linter.unusedSimpArgs false

theorem own_nilN (w : World) (B : Nat) (hB : B ≤ w.heap.size) : OwnN (w.alloc (.cells #[] 100)) B (.slice (some ⟨w.heap.size, 0, none⟩) 0 0) [] :=
  ⟨by simp [flatN], Or.inr ⟨w.heap.size, 0, #[], rfl, hB, heap_alloc_new _ _, by simp, by unfold maxLen; omega, by simp, by simp [flatN]⟩⟩
theorem past_not {B : Nat} {w : World} {d : Nat} {vn vp v : Value} {us : List Value} (hc : w.heap[d]? = some (.cells #[vn, vp] 98 (0, 0))) (hp : OwnV w B 95 v us) : v.ownBlock ≠ some d := by
  intro e
  obtain ⟨_, c, h⟩ := hp.ge d e
  rw [hc] at h
  simp at h
theorem nodes_not {B : Nat} {w : World} {d : Nat} {vn vp v : Value} {L : List RN} (hc : w.heap[d]? = some (.cells #[vn, vp] 98 (0, 0))) (hp : OwnN w B v L) : v.ownBlock ≠ some d := by
  intro e
  obtain ⟨_, c, h⟩ := hp.ge d e
  rw [hc] at h
  simp at h
theorem nodes_past {B : Nat} {w : World} {vp v : Value} {L : List RN} {us : List Value} (hn : OwnN w B v L) (hp : OwnV w B 95 vp us) {j : Nat} (h1 : v.ownBlock = some j) : vp.ownBlock ≠ some j := by
  intro e
  obtain ⟨_, c, h⟩ := hp.ge j e
  obtain ⟨_, c', h'⟩ := hn.ge j h1
  rw [h'] at h
  simp at h
/-- All that mark does, as equations. -/
theorem mark_runs {B : Nat} {w : World} {d : Nat} {NL : List RN} {PL : List (List RN)} {vn vp : Value} {us : List Value} (h : RefP B w d NL PL vn vp us) (hB : B ≤ w.heap.size) (hn : NL.length ≤ 1300000000000) (hp : PL.length ≤ 1300000000000) :
    ∃ (ev cv lv qv : Value) (w1 w2 w3 w4 : World), (Instr.buildSlice 95 0 #[]).run Try.prog w = .ok ev w1 ∧ (Builtin.append_ #[95, 95] 95 #[ev, vn]).run Try.prog w1 = .ok cv w2 ∧
      (Instr.buildSlice 96 1 #[(0, cv)]).run Try.prog w2 = .ok lv w3 ∧ (Builtin.append_ #[96, 96] 96 #[vp, lv]).run Try.prog w3 = .ok qv w4 ∧
      (Instr.storeAt 96 (.pointer (some ⟨d, 1, none⟩)) qv).run Try.prog w4 = .ok () (w4.setCell ⟨d, 1, none⟩ qv) ∧
      Below w.heap.size w w1 ∧ Below w.heap.size w w2 ∧ Below w.heap.size w w3 ∧ Tch (fun j => vp.ownBlock = some j) w w4 ∧ w4.heap[d]? = some (.cells #[vn, vp] 98 (0, 0)) ∧
      RefP B (w4.setCell ⟨d, 1, none⟩ qv) d NL (PL ++ [NL]) vn qv (us ++ [cv]) ∧ (∀ j, refB d vn qv (us ++ [cv]) j → refB d vn vp us j ∨ w.heap.size ≤ j) := by
  obtain ⟨an, cn, en, hrn, _⟩ := h.nodes.open h.ok
  have ld := (Array.getElem?_eq_some_iff.1 h.cell).1
  have e0 := run_bs0 w
  have own1 := own_nilN w B hB
  have b1 : Below w.heap.size w (w.alloc (.cells #[] 100)) := (Below.refl _ _).alloc (Nat.le_refl _) _
  have z1 : (w.alloc (.cells #[] 100)).heap.size = w.heap.size + 1 := by simp
  generalize w.alloc (.cells #[] 100) = w1 at *
  obtain ⟨cv, w2, e1, own2, g2, o2⟩ := run_appN w1 B _ [] an NL cn own1 (hrn.below b1) h.ok (by simp; omega) (by omega)
  rw [List.nil_append] at own2
  have b2 : Below w.heap.size w w2 := b1.trans ⟨g2.os, g2.tape, g2.output, g2.size, fun j hj => g2.block j (by omega) (by simp [Value.ownBlock]; omega)⟩
  have ocv : ∀ j, cv.ownBlock = some j → w.heap.size ≤ j := by
    intro j hj
    rcases o2 with q | q
    · rw [q] at hj; simp [Value.ownBlock] at hj; omega
    · rw [q] at hj; simp at hj; omega
  obtain ⟨a2, c2, ecv, _, _⟩ := own2.open h.ok
  have e2 := run_bsV cv (by rw [ecv]; simp [Value.oneCell']) (by rw [ecv]; rfl) w2
  have b3' : Below w2.heap.size w2 (w2.alloc (.cells #[cv] 95)) := (Below.refl _ _).alloc (Nat.le_refl _) _
  have v3 : Vals (w2.alloc (.cells #[cv] 95)) (some ⟨w2.heap.size, 0, none⟩) [cv] := Or.inr ⟨_, _, rfl, fun j u hj => by
    rw [Nat.zero_add, cell_of_row _ _ _ _ _ _ (heap_alloc_new _ _)]
    simpa using hj⟩
  generalize w2.alloc (.cells #[cv] 95) = w3 at *
  have b3 : Below w.heap.size w w3 := b2.trans (b3'.mono b2.size)
  have z3 := b3.size
  have p3 := h.past.below b3
  obtain ⟨qv, w4, e3, own4, g4, o4⟩ := run_appV 96 95 24 _ Try.underlying96 infoNs (Or.inr rfl) rfl w3 B 96 vp us _ [cv] 1 p3 v3 (by intro u hu; simp at hu; subst hu; rw [ecv]; simp [Value.oneCell']) (by rw [h.len]; simp; omega) (by omega)
  have r3 := h.below b3
  have t4 : Tch (fun j => vp.ownBlock = some j) w w4 := by
    refine Tch.trans ⟨b3.os, b3.tape, b3.output, b3.size, fun j hj _ => b3.block j hj⟩ ⟨g4.os, g4.tape, g4.output, g4.size, fun j hj hO => g4.block j hj (fun q => hO q.symm)⟩
  have hd4 : w4.heap[d]? = some (.cells #[vn, vp] 98 (0, 0)) := (t4.block d ld (past_not h.cell h.past)).trans h.cell
  obtain ⟨a4, c4, eqv, _⟩ := own4.open
  have es := store_ref1 a4 (us ++ [cv]).length c4 hd4
  rw [← eqv] at es
  have ts := set_tch w4 d 1 qv
  have oqv : ∀ j, qv.ownBlock = some j → vp.ownBlock = some j ∨ w.heap.size ≤ j := by
    intro j hj
    rcases o4 with q | q
    · exact Or.inl (by rw [← q]; exact hj)
    · rw [q] at hj; simp at hj; exact Or.inr (by omega)
  have own2' := (own2.below b3').keep (w' := w4) fun j hj => g4.block j (by obtain ⟨_, c, q⟩ := (own2.below b3').ge j hj; exact (Array.getElem?_eq_some_iff.1 q).1) (fun q => nodes_past (own2.below b3') p3 hj q.symm)
  have n4 := h.nodes.keep (w' := w4) fun j hj => t4.block j (by obtain ⟨_, c, q⟩ := h.nodes.ge j hj; exact (Array.getElem?_eq_some_iff.1 q).1) (nodes_past h.nodes h.past hj)
  have l4 : ∀ (i : Nat) u P, us[i]? = some u → PL[i]? = some P → OwnN w4 B u P := fun i u P hu hP => (h.lists i u P hu hP).keep fun j hj => t4.block j (by obtain ⟨_, c, q⟩ := (h.lists i u P hu hP).ge j hj; exact (Array.getElem?_eq_some_iff.1 q).1) (nodes_past (h.lists i u P hu hP) h.past hj)
  have k5 : ∀ (v : Value) (L : List RN), OwnN w4 B v L → OwnN (w4.setCell ⟨d, 1, none⟩ qv) B v L := fun v L q => q.keep fun j hj => ts.block j (by obtain ⟨_, c, q⟩ := q.ge j hj; exact (Array.getElem?_eq_some_iff.1 q).1) (fun e => nodes_not hd4 q (by rw [← e]; exact hj))
  have lu : ∀ (i : Nat) u j, us[i]? = some u → u.ownBlock = some j → j < w.heap.size := fun i u j hu hj => (h.ge j (Or.inr (Or.inr (Or.inr ⟨i, u, hu, hj⟩)))).2
  have hus : ∀ (i : Nat) u, (us ++ [cv])[i]? = some u → (us[i]? = some u ∧ i < us.length) ∨ (u = cv ∧ i = us.length) := by
    intro i u hu
    by_cases hi : i < us.length
    · rw [List.getElem?_append_left hi] at hu; exact Or.inl ⟨hu, hi⟩
    · rw [List.getElem?_append_right (by omega)] at hu
      have := (List.getElem?_eq_some_iff.1 hu).1
      simp at this
      obtain rfl : i = us.length := by omega
      simp at hu
      exact Or.inr ⟨hu.symm, rfl⟩
  refine ⟨_, cv, _, qv, w1, w2, w3, w4, e0, by rw [en]; exact e1, e2, e3, es, b1, b2, b3, t4, hd4, ⟨set_ref1 hd4 qv, k5 _ _ n4, own4.keep fun j hj => ts.block j (by obtain ⟨_, c, q⟩ := own4.ge j hj; exact (Array.getElem?_eq_some_iff.1 q).1) (fun e => past_not hd4 own4 (by rw [← e]; exact hj)), by simp [h.len], fun i u P hu hP => ?_, h.dB, fun i u j hu hj => ?_, fun i i' u u' j hu hu' hne hj => ?_, h.ok, fun P hP => ?_, h.nd, fun P hP => ?_⟩, fun j hj => ?_⟩
  · rcases hus i u hu with ⟨q, hi⟩ | ⟨rfl, rfl⟩
    · rw [List.getElem?_append_left (by rw [← h.len]; exact hi)] at hP; exact k5 _ _ (l4 i u P q hP)
    · rw [h.len] at hP; simp at hP; subst hP; exact k5 _ _ own2'
  · rcases hus i u hu with ⟨q, _⟩ | ⟨rfl, _⟩
    · exact h.ap i u j q hj
    · have := ocv j hj
      intro e
      have := (h.ge j (Or.inr (Or.inl e))).2
      omega
  · rcases hus i u hu with ⟨q, _⟩ | ⟨rfl, e1⟩ <;> rcases hus i' u' hu' with ⟨q', _⟩ | ⟨rfl, e2⟩
    · exact h.ap2 i i' u u' j q q' hne hj
    · intro e; have := ocv j e; have := lu i u j q hj; omega
    · intro e; have := ocv j hj; have := lu i' u' j q' e; omega
    · omega
  · rcases List.mem_append.1 hP with q | q
    · exact h.okP P q
    · simp at q; subst q; exact h.ok
  · rcases List.mem_append.1 hP with q | q
    · exact h.ndP P q
    · simp at q; subst q; exact h.nd
  · rcases hj with rfl | q | q | ⟨i, u, hu, q⟩
    · exact Or.inl (Or.inl rfl)
    · exact Or.inl (Or.inr (Or.inl q))
    · rcases oqv j q with q | q
      · exact Or.inl (Or.inr (Or.inr (Or.inl q)))
      · exact Or.inr q
    · rcases hus i u hu with ⟨p, _⟩ | ⟨rfl, _⟩
      · exact Or.inl (Or.inr (Or.inr (Or.inr ⟨i, u, p, q⟩)))
      · exact Or.inr (ocv j q)
set_option maxRecDepth 100000 in
set_option maxHeartbeats 4000000 in
/-- The document's mark. -/
theorem mark_any {B : Nat} {w : World} {d : Nat} {NL : List RN} {PL : List (List RN)} {vn vp : Value} {us : List Value} (h : RefP B w d NL PL vn vp us) (hB : B ≤ w.heap.size) (hn : NL.length ≤ 1300000000000) (hp : PL.length ≤ 1300000000000) :
    Calls Try.prog 48 #[.pointer (some ⟨d, 0, none⟩)] w fun e w' => e = .returned (.tuple #[]) ∧ ∃ qv cv, RefP B w' d NL (PL ++ [NL]) vn qv (us ++ [cv]) ∧ Tch (fun j => j = d ∨ vp.ownBlock = some j) w w' ∧ (∀ j, refB d vn qv (us ++ [cv]) j → refB d vn vp us j ∨ w.heap.size ≤ j) := by
  have bd : Below w.heap.size w w.drew := (Below.refl _ _).drew
  have hd := h.below bd
  have ld := (Array.getElem?_eq_some_iff.1 hd.cell).1
  obtain ⟨ev, cv, lv, qv, w1, w2, w3, w4, e0, e1, e2, e3, es, b1, b2, b3, t4, hd4, hr, hbl⟩ := mark_runs hd hB hn hp
  have fin1 : Tch (fun j => j = d ∨ vp.ownBlock = some j) w w4 := (Tch.refl _ w).drew.trans (Tch.mono (w := w.drew) t4 fun k _ q => Or.inr q)
  have fin : Tch (fun j => j = d ∨ vp.ownBlock = some j) w (w4.setCell ⟨d, 1, none⟩ qv) := fin1.trans ((set_tch w4 d 1 qv).mono fun k _ q => Or.inl q)
  obtain ⟨an, cn, en, _⟩ := h.nodes.open h.ok
  obtain ⟨ap, cp, ep, _⟩ := h.past.open
  obtain ⟨w5, hw5⟩ : ∃ w5, w4.setCell ⟨d, 1, none⟩ qv = w5 := ⟨_, rfl⟩
  have s5 : w5.cell? ⟨d, 0, none⟩ = some vn := by rw [← hw5, cell_of_row _ _ 0 _ _ _ (set_ref1 hd4 qv)]; rfl
  have s4 : w4.cell? ⟨d, 0, none⟩ = some vn := by rw [cell_of_row _ _ 0 _ _ _ hd4]; rfl
  have c0 : w.drew.cell? ⟨d, 0, none⟩ = some vn := by rw [cell_of_row _ _ 0 _ _ _ hd.cell]; rfl
  have c1 : w.drew.cell? ⟨d, 1, none⟩ = some vp := by rw [cell_of_row _ _ 1 _ _ _ hd.cell]; rfl
  have f0 : ∀ W, Below w.drew.heap.size w.drew W → W.cell? ⟨d, 0, none⟩ = some vn := fun W b => (b.cell (p := ⟨d, 0, none⟩) ld).trans c0
  have f1 : ∀ W, Below w.drew.heap.size w.drew W → (Instr.loadAt 96 (.pointer (some ⟨d, 1, none⟩))).run Try.prog W = .ok vp W := fun W b => by
    have hc := (b.cell (p := ⟨d, 1, none⟩) ld).trans c1
    rw [ep] at hc ⊢
    go_simp
  rw [hw5] at es hr fin
  go_enter Try.func48, Try.ntmps48
  go_upto_region 0 with fail
  refine mark0 d (.pointer (some ⟨d, 0, none⟩)) (.pointer (some ⟨d, 1, none⟩)) vn vp ev cv lv qv w1 w2 w3 w4 w5 (fun W => W.cell? ⟨d, 0, none⟩ = some vn) _ w _ rfl rfl (fun W => by go_simp) (fun W => by go_simp) (fun W hw => by rw [en] at hw ⊢; go_simp) c0 (f0 _ b1) (f0 _ b2) (f0 _ b3) s4 s5 (f1 _ (Below.refl _ _)) (f1 _ b1) (f1 _ b2) (f1 _ b3) e0 e1 e2 e3 es ?_ ?_ ?_ ?_
  all_goals
    intro a' w' hw' ha
    subst hw' ha
    simp only [Act.put, List.setIfInBounds_toArray, List.set_cons_zero, List.set_cons_succ]
    refine bodyPost_end (results_none rfl _ _ _) rfl ?_
    exact ⟨rfl, qv, cv, hr, fin, hbl⟩
end Go.Proofs.Ytoofljkgdjjllab

namespace Go.Proofs.Ytoofljkgdjjllab
open Go.RowKit
set_option linter.unusedVariables false
set_option linter.unusedSimpArgs false

theorem exec_b3 {P : Program} {w : World} {a : Act} {o : Oper} {t : TypeId} {x y z : Operand} {xv yv zv v : Value} (ho : o.op = .build t #[(0, x), (1, y), (2, z)]) (hx : a.eval x = xv) (hy : a.eval y = yv) (hz : a.eval z = zv) (hl : (Instr.build t #[(0, xv), (1, yv), (2, zv)]).run P w = .ok v w) : (execOp a.eval o).run P w = .ok (.value v) w :=
  exec_build ho (by simp [hx, hy, hz]) hl
def rgrow10_o0 : Oper := { dst := some 32, op := Op.move (Operand.tmp 0), type := 74, pos := "ref.go:72", after := #[], guard := none }
def rgrow10_o1 : Oper := { dst := some 33, op := Op.move (Operand.tmp 0), type := 74, pos := "ref.go:72", after := #[], guard := none }
def rgrow10_o2 : Oper := { dst := some 34, op := Op.nilCheck (Operand.tmp 33), type := 0, pos := "ref.go:72", after := #[{ on := 1, ground := Ground.data }], guard := none }
def rgrow10_o3 : Oper := { dst := some 35, op := Op.fieldAddr 98 (Operand.tmp 34) 0, type := 0, pos := "ref.go:72", after := #[{ on := 2, ground := Ground.data }], guard := none }
def rgrow10_o4 : Oper := { dst := some 36, op := Op.load 95 (Operand.tmp 35), type := 95, pos := "ref.go:72", after := #[{ on := 3, ground := Ground.data }], guard := none }
def rgrow10_o5 : Oper := { dst := some 37, op := Op.load 35 (Operand.tmp 5), type := 35, pos := "ref.go:72", after := #[], guard := none }
def rgrow10_o6 : Oper := { dst := some 38, op := Op.load 35 (Operand.tmp 6), type := 35, pos := "ref.go:72", after := #[], guard := none }
def rgrow10_o7 : Oper := { dst := some 39, op := Op.move (Operand.tmp 3), type := 9, pos := "ref.go:72", after := #[], guard := none }
def rgrow10_o8 : Oper := { dst := some 40, op := Op.build 100 #[(0, Operand.tmp 37), (1, Operand.tmp 38), (2, Operand.tmp 39)], type := 100, pos := "ref.go:72", after := #[{ on := 5, ground := Ground.data }, { on := 6, ground := Ground.data }, { on := 7, ground := Ground.data }], guard := none }
def rgrow10_o9 : Oper := { dst := some 41, op := Op.buildSlice 95 1 #[(0, Operand.tmp 40)], type := 95, pos := "ref.go:72", after := #[{ on := 8, ground := Ground.data }], guard := none }
def rgrow10_o10 : Oper := { dst := some 42, op := Op.call { callee := Callee.builtin Builtin.append, args := #[Operand.tmp 36, Operand.tmp 41], argTypes := #[95, 95] }, type := 95, pos := "ref.go:72", after := #[{ on := 4, ground := Ground.data }, { on := 9, ground := Ground.data }], guard := none }
def rgrow10_o11 : Oper := { dst := some 43, op := Op.nilCheck (Operand.tmp 32), type := 0, pos := "ref.go:72", after := #[{ on := 0, ground := Ground.data }, { on := 0, ground := Ground.phase }, { on := 1, ground := Ground.phase }, { on := 2, ground := Ground.phase }, { on := 3, ground := Ground.phase }, { on := 4, ground := Ground.phase }, { on := 5, ground := Ground.phase }, { on := 6, ground := Ground.phase }, { on := 7, ground := Ground.phase }, { on := 8, ground := Ground.phase }, { on := 9, ground := Ground.phase }, { on := 10, ground := Ground.phase }], guard := none }
def rgrow10_o12 : Oper := { dst := some 44, op := Op.fieldAddr 98 (Operand.tmp 43) 0, type := 0, pos := "ref.go:72", after := #[{ on := 11, ground := Ground.data }, { on := 0, ground := Ground.phase }, { on := 1, ground := Ground.phase }, { on := 2, ground := Ground.phase }, { on := 3, ground := Ground.phase }, { on := 4, ground := Ground.phase }, { on := 5, ground := Ground.phase }, { on := 6, ground := Ground.phase }, { on := 7, ground := Ground.phase }, { on := 8, ground := Ground.phase }, { on := 9, ground := Ground.phase }, { on := 10, ground := Ground.phase }], guard := none }
def rgrow10_o13 : Oper := { dst := none, op := Op.store 95 (Operand.tmp 44) (Operand.tmp 42), type := 0, pos := "ref.go:72", after := #[{ on := 12, ground := Ground.data }, { on := 10, ground := Ground.data }, { on := 10, ground := Ground.chain }, { on := 0, ground := Ground.phase }, { on := 1, ground := Ground.phase }, { on := 2, ground := Ground.phase }, { on := 3, ground := Ground.phase }, { on := 4, ground := Ground.phase }, { on := 5, ground := Ground.phase }, { on := 6, ground := Ground.phase }, { on := 7, ground := Ground.phase }, { on := 8, ground := Ground.phase }, { on := 9, ground := Ground.phase }, { on := 10, ground := Ground.phase }], guard := none }
def rgrow10_ops : Array Oper := #[rgrow10_o0, rgrow10_o1, rgrow10_o2, rgrow10_o3, rgrow10_o4, rgrow10_o5, rgrow10_o6, rgrow10_o7, rgrow10_o8, rgrow10_o9, rgrow10_o10, rgrow10_o11, rgrow10_o12, rgrow10_o13]
set_option maxRecDepth 100000 in
set_option maxHeartbeats 4000000 in
theorem rgrow10 (d : Nat) (f0 pkv pu kv uv sv xv nv lv qv : Value) (w1 w2 w3 : World) (S : World → Prop) (a : Act) (w : World) (Q : Exit → Act → World → Prop) (hsz : a.tmps.size = 45)
    (t0 : a.tmps.getD 0 undef = .pointer (some ⟨d, 0, none⟩))
    (t3 : a.tmps.getD 3 undef = sv)
    (t5 : a.tmps.getD 5 undef = pkv)
    (t6 : a.tmps.getD 6 undef = pu)
    (GF0 : ∀ W, (Instr.fieldAt 98 (.pointer (some ⟨d, 0, none⟩)) 0).run Try.prog W = .ok f0 W) (GB : ∀ W, (Instr.build 100 #[(0, kv), (1, uv), (2, sv)]).run Try.prog W = .ok xv W)
    (GK : ∀ W, S W → (Instr.loadAt 35 pkv).run Try.prog W = .ok kv W) (GU : ∀ W, S W → (Instr.loadAt 35 pu).run Try.prog W = .ok uv W)
    (S0 : S w.drew) (S1 : S w1) (S2 : S w2) (S3 : S w3)
    (K0 : (Instr.loadAt 95 f0).run Try.prog w.drew = .ok nv w.drew) (K1 : (Instr.loadAt 95 f0).run Try.prog w1 = .ok nv w1)
    (EB : (Instr.buildSlice 95 1 #[(0, xv)]).run Try.prog w.drew = .ok lv w1) (EA : (Builtin.append_ #[95, 95] 95 #[nv, lv]).run Try.prog w1 = .ok qv w2) (ES : (Instr.storeAt 95 f0 qv).run Try.prog w2 = .ok () w3)
    (h1 : ∀ (a' : Act) (w' : World), w' = w3 → a' = (((((((((((((a).put (some 32) (.pointer (some ⟨d, 0, none⟩))).put (some 33) (.pointer (some ⟨d, 0, none⟩))).put (some 34) (.pointer (some ⟨d, 0, none⟩))).put (some 35) (f0)).put (some 37) (kv)).put (some 38) (uv)).put (some 39) (sv)).put (some 40) (xv)).put (some 36) (nv)).put (some 41) (lv)).put (some 42) (qv)).put (some 43) (.pointer (some ⟨d, 0, none⟩))).put (some 44) (f0) → Q .normal a' w')
    (h2 : ∀ (a' : Act) (w' : World), w' = w3 → a' = (((((((((((((a).put (some 32) (.pointer (some ⟨d, 0, none⟩))).put (some 33) (.pointer (some ⟨d, 0, none⟩))).put (some 34) (.pointer (some ⟨d, 0, none⟩))).put (some 35) (f0)).put (some 37) (kv)).put (some 38) (uv)).put (some 39) (sv)).put (some 40) (xv)).put (some 41) (lv)).put (some 36) (nv)).put (some 42) (qv)).put (some 43) (.pointer (some ⟨d, 0, none⟩))).put (some 44) (f0) → Q .normal a' w') :
    (Code.region 10 rgrow10_ops true).wp Try.prog Q a w := by
  refine wp_region_noPanic ?_
  refine wp_region_held_drew (S := fun w' => S w') (by kernel_rfl) (S0) (fun hHeld => ?_)
  refine tk 0 rgrow10_o0 (.pointer (some ⟨d, 0, none⟩)) (by rfl) (fun w1 hw => exec_move rfl t0) hHeld (fun a1 e1 => ?_)
  rw [← e1] at h1 h2
  have z1 := pz e1 hsz
  replace t0 := pk e1 t0
  replace t3 := pk e1 t3
  replace t5 := pk e1 t5
  replace t6 := pk e1 t6
  have t32 := pq e1 hsz
  clear e1 hsz
  refine tk 1 rgrow10_o1 (.pointer (some ⟨d, 0, none⟩)) (by rfl) (fun w1 hw => exec_move rfl t0) hHeld (fun a2 e2 => ?_)
  rw [← e2] at h1 h2
  have z2 := pz e2 z1
  clear t0
  replace t3 := pk e2 t3
  replace t5 := pk e2 t5
  replace t6 := pk e2 t6
  replace t32 := pk e2 t32
  have t33 := pq e2 z1
  clear e2 z1
  refine tk 2 rgrow10_o2 (.pointer (some ⟨d, 0, none⟩)) (by rfl) (fun w1 hw => exec_nilCheck rfl t33) hHeld (fun a3 e3 => ?_)
  rw [← e3] at h1 h2
  have z3 := pz e3 z2
  replace t3 := pk e3 t3
  replace t5 := pk e3 t5
  replace t6 := pk e3 t6
  replace t32 := pk e3 t32
  clear t33
  have t34 := pq e3 z2
  clear e3 z2
  refine tk 3 rgrow10_o3 (f0) (by rfl) (fun w1 hw => exec_fieldAt rfl t34 (GF0 _)) hHeld (fun a4 e4 => ?_)
  rw [← e4] at h1 h2
  have z4 := pz e4 z3
  replace t3 := pk e4 t3
  replace t5 := pk e4 t5
  replace t6 := pk e4 t6
  replace t32 := pk e4 t32
  clear t34
  have t35 := pq e4 z3
  clear e4 z3
  refine tk 5 rgrow10_o5 (kv) (by rfl) (fun w1 hw => exec_load rfl t5 (GK _ hw)) hHeld (fun a5 e5 => ?_)
  rw [← e5] at h1 h2
  have z5 := pz e5 z4
  replace t3 := pk e5 t3
  clear t5
  replace t6 := pk e5 t6
  replace t32 := pk e5 t32
  replace t35 := pk e5 t35
  have t37 := pq e5 z4
  clear e5 z4
  refine tk 6 rgrow10_o6 (uv) (by rfl) (fun w1 hw => exec_load rfl t6 (GU _ hw)) hHeld (fun a6 e6 => ?_)
  rw [← e6] at h1 h2
  have z6 := pz e6 z5
  replace t3 := pk e6 t3
  clear t6
  replace t32 := pk e6 t32
  replace t35 := pk e6 t35
  replace t37 := pk e6 t37
  have t38 := pq e6 z5
  clear e6 z5
  refine tk 7 rgrow10_o7 (sv) (by rfl) (fun w1 hw => exec_move rfl t3) hHeld (fun a7 e7 => ?_)
  rw [← e7] at h1 h2
  have z7 := pz e7 z6
  clear t3
  replace t32 := pk e7 t32
  replace t35 := pk e7 t35
  replace t37 := pk e7 t37
  replace t38 := pk e7 t38
  have t39 := pq e7 z6
  clear e7 z6
  refine tk 8 rgrow10_o8 (xv) (by rfl) (fun w1 hw => exec_b3 rfl t37 t38 t39 (GB _)) hHeld (fun a8 e8 => ?_)
  rw [← e8] at h1 h2
  have z8 := pz e8 z7
  replace t32 := pk e8 t32
  replace t35 := pk e8 t35
  clear t37
  clear t38
  clear t39
  have t40 := pq e8 z7
  clear e8 z7
  refine wpAnyH_ready (rs := [4, 9]) (by kernel_rfl) (by simp) ?_
  refine AllReadyH.cons (o := rgrow10_o4) rfl (fun K hK => ?_) (AllReadyH.cons (o := rgrow10_o9) rfl (fun K hK => ?_) (AllReadyH.nil))
  · clear h2
    skip
    have X := exec_load (P := Try.prog) (a := a8) (o := rgrow10_o4) rfl t35 K0
    rw [if_pos (by rfl), Oper.wp, X]
    show K _ _
    clear X
    refine hK.out _ _ (S0) (fun hHeld => ?_)
    clear hK K
    change wpAnyH _ _ _ _ _ _ _ (a8.put (some 36) (nv)) _
    obtain ⟨a9, e9⟩ : ∃ act, act = a8.put (some 36) (nv) := ⟨_, rfl⟩
    rw [← e9] at h1 ⊢
    have z9 := pz e9 z8
    replace t32 := pk e9 t32
    clear t35
    replace t40 := pk e9 t40
    have t36 := pq e9 z8
    clear e9 z8
    refine wpAnyH_ready (rs := [9]) (by kernel_rfl) (by simp) ?_
    refine AllReadyH.cons (o := rgrow10_o9) rfl (fun K hK => ?_) AllReadyH.nil
    skip
    have X := exec_buildSlice (P := Try.prog) (a := a9) (o := rgrow10_o9) rfl t40 EB
    rw [if_pos (by rfl), Oper.wp, X]
    show K _ _
    clear X
    refine hK.out _ _ (S1) (fun hHeld => ?_)
    clear hK K
    change wpAnyH _ _ _ _ _ _ _ (a9.put (some 41) (lv)) _
    obtain ⟨a10, e10⟩ : ∃ act, act = a9.put (some 41) (lv) := ⟨_, rfl⟩
    rw [← e10] at h1 ⊢
    have z10 := pz e10 z9
    replace t32 := pk e10 t32
    clear t40
    replace t36 := pk e10 t36
    have t41 := pq e10 z9
    clear e10 z9
    refine wpAnyH_ready (rs := [10]) (by kernel_rfl) (by simp) ?_
    refine AllReadyH.cons (o := rgrow10_o10) rfl (fun K hK => ?_) AllReadyH.nil
    skip
    have X := exec_append (P := Try.prog) (a := a10) (o := rgrow10_o10) rfl t36 t41 EA
    rw [if_pos (by rfl), Oper.wp, X]
    show K _ _
    clear X
    refine hK.out _ _ (S2) (fun hHeld => ?_)
    clear hK K
    change wpAnyH _ _ _ _ _ _ _ (a10.put (some 42) (qv)) _
    obtain ⟨a11, e11⟩ : ∃ act, act = a10.put (some 42) (qv) := ⟨_, rfl⟩
    rw [← e11] at h1 ⊢
    have z11 := pz e11 z10
    replace t32 := pk e11 t32
    clear t36
    clear t41
    have t42 := pq e11 z10
    clear e11 z10
    refine tk 11 rgrow10_o11 (.pointer (some ⟨d, 0, none⟩)) (by rfl) (fun w1 hw => exec_nilCheck rfl t32) hHeld (fun a12 e12 => ?_)
    rw [← e12] at h1
    have z12 := pz e12 z11
    clear t32
    replace t42 := pk e12 t42
    have t43 := pq e12 z11
    clear e12 z11
    refine tk 12 rgrow10_o12 (f0) (by rfl) (fun w1 hw => exec_fieldAt rfl t43 (GF0 _)) hHeld (fun a13 e13 => ?_)
    rw [← e13] at h1
    have z13 := pz e13 z12
    replace t42 := pk e13 t42
    clear t43
    have t44 := pq e13 z12
    clear e13 z12
    refine wpAnyH_ready (rs := [13]) (by kernel_rfl) (by simp) ?_
    refine AllReadyH.cons (o := rgrow10_o13) rfl (fun K hK => ?_) AllReadyH.nil
    skip
    have X := exec_store (P := Try.prog) (a := a13) (o := rgrow10_o13) rfl t44 t42 ES
    rw [if_pos (by rfl), Oper.wp, X]
    show K _ _
    clear X
    refine hK.out _ _ (S3) (fun hHeld => ?_)
    clear hK K
    exact wpAnyH_done (by kernel_rfl) (NoPanic.normal (h1 _ _ (rfl) rfl)) _
  · clear h1
    skip
    have X := exec_buildSlice (P := Try.prog) (a := a8) (o := rgrow10_o9) rfl t40 EB
    rw [if_pos (by rfl), Oper.wp, X]
    show K _ _
    clear X
    refine hK.out _ _ (S1) (fun hHeld => ?_)
    clear hK K
    change wpAnyH _ _ _ _ _ _ _ (a8.put (some 41) (lv)) _
    obtain ⟨a15, e15⟩ : ∃ act, act = a8.put (some 41) (lv) := ⟨_, rfl⟩
    rw [← e15] at h2 ⊢
    have z15 := pz e15 z8
    replace t32 := pk e15 t32
    replace t35 := pk e15 t35
    clear t40
    have t41 := pq e15 z8
    clear e15 z8
    refine wpAnyH_ready (rs := [4]) (by kernel_rfl) (by simp) ?_
    refine AllReadyH.cons (o := rgrow10_o4) rfl (fun K hK => ?_) AllReadyH.nil
    skip
    have X := exec_load (P := Try.prog) (a := a15) (o := rgrow10_o4) rfl t35 K1
    rw [if_pos (by rfl), Oper.wp, X]
    show K _ _
    clear X
    refine hK.out _ _ (S1) (fun hHeld => ?_)
    clear hK K
    change wpAnyH _ _ _ _ _ _ _ (a15.put (some 36) (nv)) _
    obtain ⟨a16, e16⟩ : ∃ act, act = a15.put (some 36) (nv) := ⟨_, rfl⟩
    rw [← e16] at h2 ⊢
    have z16 := pz e16 z15
    replace t32 := pk e16 t32
    clear t35
    replace t41 := pk e16 t41
    have t36 := pq e16 z15
    clear e16 z15
    refine wpAnyH_ready (rs := [10]) (by kernel_rfl) (by simp) ?_
    refine AllReadyH.cons (o := rgrow10_o10) rfl (fun K hK => ?_) AllReadyH.nil
    skip
    have X := exec_append (P := Try.prog) (a := a16) (o := rgrow10_o10) rfl t36 t41 EA
    rw [if_pos (by rfl), Oper.wp, X]
    show K _ _
    clear X
    refine hK.out _ _ (S2) (fun hHeld => ?_)
    clear hK K
    change wpAnyH _ _ _ _ _ _ _ (a16.put (some 42) (qv)) _
    obtain ⟨a17, e17⟩ : ∃ act, act = a16.put (some 42) (qv) := ⟨_, rfl⟩
    rw [← e17] at h2 ⊢
    have z17 := pz e17 z16
    replace t32 := pk e17 t32
    clear t41
    clear t36
    have t42 := pq e17 z16
    clear e17 z16
    refine tk 11 rgrow10_o11 (.pointer (some ⟨d, 0, none⟩)) (by rfl) (fun w1 hw => exec_nilCheck rfl t32) hHeld (fun a18 e18 => ?_)
    rw [← e18] at h2
    have z18 := pz e18 z17
    clear t32
    replace t42 := pk e18 t42
    have t43 := pq e18 z17
    clear e18 z17
    refine tk 12 rgrow10_o12 (f0) (by rfl) (fun w1 hw => exec_fieldAt rfl t43 (GF0 _)) hHeld (fun a19 e19 => ?_)
    rw [← e19] at h2
    have z19 := pz e19 z18
    replace t42 := pk e19 t42
    clear t43
    have t44 := pq e19 z18
    clear e19 z18
    refine wpAnyH_ready (rs := [13]) (by kernel_rfl) (by simp) ?_
    refine AllReadyH.cons (o := rgrow10_o13) rfl (fun K hK => ?_) AllReadyH.nil
    skip
    have X := exec_store (P := Try.prog) (a := a19) (o := rgrow10_o13) rfl t44 t42 ES
    rw [if_pos (by rfl), Oper.wp, X]
    show K _ _
    clear X
    refine hK.out _ _ (S3) (fun hHeld => ?_)
    clear hK K
    exact wpAnyH_done (by kernel_rfl) (NoPanic.normal (h2 _ _ (rfl) rfl)) _
end Go.Proofs.Ytoofljkgdjjllab

