import Derived.Test.YtpdepbakopdgpaaXs
namespace Go.Proofs.Ytpdepbakopdgpaa
open Go.RowKit Sq
set_option linter.unusedVariables false
set_option linter.unusedSimpArgs false

def ahead1_o0 : Oper := { dst := some 9, op := Op.move (Operand.tmp 0), type := 90, pos := "row.go:220", after := #[], guard := none }
def ahead1_o1 : Oper := { dst := some 10, op := Op.move (Operand.tmp 1), type := 3, pos := "row.go:220", after := #[], guard := none }
def ahead1_o2 : Oper := { dst := some 11, op := Op.move (Operand.tmp 2), type := 3, pos := "row.go:220", after := #[], guard := none }
def ahead1_o3 : Oper := { dst := some 12, op := Op.call { callee := Callee.value (Operand.func 79), args := #[Operand.tmp 9, Operand.tmp 10, Operand.const (Value.int IntKind.i64 0), Operand.tmp 11], argTypes := #[90, 3, 3, 3] }, type := 3, pos := "row.go:220", after := #[{ on := 0, ground := Ground.data }, { on := 1, ground := Ground.data }, { on := 2, ground := Ground.data }], guard := none }
def ahead1_o4 : Oper := { dst := some 7, op := Op.assign (Operand.tmp 12), type := 3, pos := "row.go:220", after := #[{ on := 3, ground := Ground.data }, { on := 3, ground := Ground.chain }, { on := 0, ground := Ground.phase }, { on := 1, ground := Ground.phase }, { on := 2, ground := Ground.phase }, { on := 3, ground := Ground.phase }], guard := none }
def ahead1_ops : Array Oper := #[ahead1_o0, ahead1_o1, ahead1_o2, ahead1_o3, ahead1_o4]
set_option maxRecDepth 100000 in
set_option maxHeartbeats 4000000 in
theorem ahead1 {rb ro i u : Nat} {c : Bool} (Fin : World → Prop) (a : Act) (w : World) (Q : Exit → Act → World → Prop) (hsz : a.tmps.size = 43)
    (t0 : a.tmps.getD 0 undef = .pointer (some ⟨rb, ro, none⟩))
    (t1 : a.tmps.getD 1 undef = .int .i64 (i : Int))
    (t2 : a.tmps.getD 2 undef = .int .i64 (nb c : Int))
    (CU : Calls Try.prog 79 #[.pointer (some ⟨rb, ro, none⟩), .int .i64 (i : Int), .int .i64 0, .int .i64 (nb c : Int)] w fun e w' => e = .returned (.int .i64 (u : Int)) ∧ Fin w')
    (h : ∀ (a' : Act) (w' : World), Fin w' → a' = (((((a).put (some 9) (.pointer (some ⟨rb, ro, none⟩))).put (some 10) (.int .i64 (i : Int))).put (some 11) (.int .i64 (nb c : Int))).put (some 12) (.int .i64 (u : Int))).put (some 7) (.int .i64 (u : Int)) → Q .normal a' w') :
    (Code.region 1 ahead1_ops false).wp Try.prog Q a w := by
  refine wp_region_list ?_
  change wpList _ _ _ [ahead1_o0, ahead1_o1, ahead1_o2, ahead1_o3, ahead1_o4] _ _
  refine qv (v := .pointer (some ⟨rb, ro, none⟩)) (by rfl) (exec_move rfl t0) (fun a0 e0 => ?_)
  rw [← e0] at h
  have z0 := pz e0 hsz
  replace t1 := pk e0 t1
  replace t2 := pk e0 t2
  clear t0
  have t9 := pq e0 hsz
  clear e0 hsz
  refine qv (v := .int .i64 (i : Int)) (by rfl) (exec_move rfl t1) (fun a1 e1 => ?_)
  rw [← e1] at h
  have z1 := pz e1 z0
  replace t2 := pk e1 t2
  replace t9 := pk e1 t9
  clear t1
  have t10 := pq e1 z0
  clear e1 z0
  refine qv (v := .int .i64 (nb c : Int)) (by rfl) (exec_move rfl t2) (fun a2 e2 => ?_)
  rw [← e2] at h
  have z2 := pz e2 z1
  replace t9 := pk e2 t9
  replace t10 := pk e2 t10
  clear t2
  have t11 := pq e2 z1
  clear e2 z1
  refine qc (by rfl) (by unfold ahead1_o3; go_simp) (CU) (fun e x3 hx => ?_)
  obtain ⟨rfl, HF⟩ := hx
  refine ⟨_, rfl, fun a3 e3 => ?_⟩
  rw [← e3] at h
  have z3 := pz e3 z2
  clear t9 t10 t11
  have t12 := pq e3 z2
  clear e3 z2
  refine qv (v := .int .i64 (u : Int)) (by rfl) (exec_assign rfl t12) (fun a4 e4 => ?_)
  rw [← e4] at h
  have z4 := pz e4 z3
  clear t12
  clear e4 z3
  exact wpList_nil (h _ _ (HF) rfl)
def ahead2_o0 : Oper := { dst := some 13, op := Op.move (Operand.tmp 0), type := 90, pos := "row.go:221", after := #[], guard := none }
def ahead2_o1 : Oper := { dst := some 14, op := Op.nilCheck (Operand.tmp 13), type := 0, pos := "row.go:221", after := #[{ on := 0, ground := Ground.data }], guard := none }
def ahead2_o2 : Oper := { dst := some 15, op := Op.fieldAddr 65 (Operand.tmp 14) 0, type := 0, pos := "row.go:221", after := #[{ on := 1, ground := Ground.data }], guard := none }
def ahead2_o3 : Oper := { dst := some 16, op := Op.load 63 (Operand.tmp 15), type := 63, pos := "row.go:221", after := #[{ on := 2, ground := Ground.data }], guard := none }
def ahead2_o4 : Oper := { dst := some 17, op := Op.move (Operand.tmp 1), type := 3, pos := "row.go:221", after := #[], guard := none }
def ahead2_o5 : Oper := { dst := some 18, op := Op.indexAddr 63 (Operand.tmp 16) (Operand.tmp 17), type := 0, pos := "row.go:221", after := #[{ on := 3, ground := Ground.data }, { on := 4, ground := Ground.data }], guard := none }
def ahead2_o6 : Oper := { dst := some 19, op := Op.fieldAddr 89 (Operand.tmp 18) 2, type := 0, pos := "row.go:221", after := #[{ on := 5, ground := Ground.data }], guard := none }
def ahead2_o7 : Oper := { dst := some 20, op := Op.load 3 (Operand.tmp 19), type := 3, pos := "row.go:221", after := #[{ on := 6, ground := Ground.data }], guard := none }
def ahead2_o8 : Oper := { dst := some 8, op := Op.assign (Operand.tmp 20), type := 3, pos := "row.go:221", after := #[{ on := 7, ground := Ground.data }, { on := 0, ground := Ground.phase }, { on := 1, ground := Ground.phase }, { on := 2, ground := Ground.phase }, { on := 3, ground := Ground.phase }, { on := 4, ground := Ground.phase }, { on := 5, ground := Ground.phase }, { on := 6, ground := Ground.phase }, { on := 7, ground := Ground.phase }], guard := none }
def ahead2_ops : Array Oper := #[ahead2_o0, ahead2_o1, ahead2_o2, ahead2_o3, ahead2_o4, ahead2_o5, ahead2_o6, ahead2_o7, ahead2_o8]
set_option maxRecDepth 100000 in
set_option maxHeartbeats 4000000 in
theorem ahead2 {rb ro g cap : Nat} {L : List Sp} {i : Nat} (a : Act) (w : World) (Q : Exit → Act → World → Prop) (hsz : a.tmps.size = 43)
    (t0 : a.tmps.getD 0 undef = .pointer (some ⟨rb, ro, none⟩))
    (t1 : a.tmps.getD 1 undef = .int .i64 (i : Int))
    (hR : SqAt w rb ro g cap L) (hi : i < L.length)
    (h : ∀ (a' : Act) (w' : World), w' = w → a' = (((((((((a).put (some 13) (.pointer (some ⟨rb, ro, none⟩))).put (some 14) (.pointer (some ⟨rb, ro, none⟩))).put (some 15) (.pointer (some ⟨rb, ro + 0, none⟩))).put (some 16) (.slice (some ⟨g, 0, none⟩) (L).length cap)).put (some 17) (.int .i64 (i : Int))).put (some 18) (.pointer (some ⟨g, 73 * i, none⟩))).put (some 19) (.pointer (some ⟨g, 73 * i + 68, none⟩))).put (some 20) (.int .i64 ((gt L i).up : Int))).put (some 8) (.int .i64 ((gt L i).up : Int)) → Q .normal a' w') :
    (Code.region 2 ahead2_ops false).wp Try.prog Q a w := by
  refine wp_region_list ?_
  change wpList _ _ _ [ahead2_o0, ahead2_o1, ahead2_o2, ahead2_o3, ahead2_o4, ahead2_o5, ahead2_o6, ahead2_o7, ahead2_o8] _ _
  refine qv (v := .pointer (some ⟨rb, ro, none⟩)) (by rfl) (exec_move rfl t0) (fun a0 e0 => ?_)
  rw [← e0] at h
  have z0 := pz e0 hsz
  replace t1 := pk e0 t1
  clear t0
  have t13 := pq e0 hsz
  clear e0 hsz
  refine qv (v := .pointer (some ⟨rb, ro, none⟩)) (by rfl) (exec_nilCheck rfl t13) (fun a1 e1 => ?_)
  rw [← e1] at h
  have z1 := pz e1 z0
  replace t1 := pk e1 t1
  clear t13
  have t14 := pq e1 z0
  clear e1 z0
  refine qv (v := .pointer (some ⟨rb, ro + 0, none⟩)) (by rfl) (exec_fieldAt rfl t14 (fg_65_0 _ _ _)) (fun a2 e2 => ?_)
  rw [← e2] at h
  have z2 := pz e2 z1
  replace t1 := pk e2 t1
  clear t14
  have t15 := pq e2 z1
  clear e2 z1
  refine qv (v := .slice (some ⟨g, 0, none⟩) (L).length cap) (by rfl) (exec_load rfl t15 (R_sl hR)) (fun a3 e3 => ?_)
  rw [← e3] at h
  have z3 := pz e3 z2
  replace t1 := pk e3 t1
  clear t15
  have t16 := pq e3 z2
  clear e3 z2
  refine qv (v := .int .i64 (i : Int)) (by rfl) (exec_move rfl t1) (fun a4 e4 => ?_)
  rw [← e4] at h
  have z4 := pz e4 z3
  replace t16 := pk e4 t16
  clear t1
  have t17 := pq e4 z3
  clear e4 z3
  refine qv (v := .pointer (some ⟨g, 73 * i, none⟩)) (by rfl) (exec_indexAt rfl t16 t17 (R_ix hi hR.len _)) (fun a5 e5 => ?_)
  rw [← e5] at h
  have z5 := pz e5 z4
  clear t16 t17
  have t18 := pq e5 z4
  clear e5 z4
  refine qv (v := .pointer (some ⟨g, 73 * i + 68, none⟩)) (by rfl) (exec_fieldAt rfl t18 (fg_89_2 _ _ _)) (fun a6 e6 => ?_)
  rw [← e6] at h
  have z6 := pz e6 z5
  clear t18
  have t19 := pq e6 z5
  clear e6 z5
  refine qv (v := .int .i64 ((gt L i).up : Int)) (by rfl) (exec_load rfl t19 (R_up hR hi)) (fun a7 e7 => ?_)
  rw [← e7] at h
  have z7 := pz e7 z6
  clear t19
  have t20 := pq e7 z6
  clear e7 z6
  refine qv (v := .int .i64 ((gt L i).up : Int)) (by rfl) (exec_assign rfl t20) (fun a8 e8 => ?_)
  rw [← e8] at h
  have z8 := pz e8 z7
  clear t20
  clear e8 z7
  exact wpList_nil (h _ _ (rfl) rfl)
def ahead4_o0 : Oper := { dst := some 23, op := Op.move (Operand.tmp 0), type := 90, pos := "row.go:221", after := #[], guard := none }
def ahead4_o1 : Oper := { dst := some 24, op := Op.nilCheck (Operand.tmp 23), type := 0, pos := "row.go:221", after := #[{ on := 0, ground := Ground.data }], guard := none }
def ahead4_o2 : Oper := { dst := some 25, op := Op.fieldAddr 65 (Operand.tmp 24) 0, type := 0, pos := "row.go:221", after := #[{ on := 1, ground := Ground.data }], guard := none }
def ahead4_o3 : Oper := { dst := some 26, op := Op.load 63 (Operand.tmp 25), type := 63, pos := "row.go:221", after := #[{ on := 2, ground := Ground.data }], guard := none }
def ahead4_o4 : Oper := { dst := some 27, op := Op.move (Operand.tmp 1), type := 3, pos := "row.go:221", after := #[], guard := none }
def ahead4_o5 : Oper := { dst := some 28, op := Op.indexAddr 63 (Operand.tmp 26) (Operand.tmp 27), type := 0, pos := "row.go:221", after := #[{ on := 3, ground := Ground.data }, { on := 4, ground := Ground.data }], guard := none }
def ahead4_o6 : Oper := { dst := some 29, op := Op.fieldAddr 89 (Operand.tmp 28) 2, type := 0, pos := "row.go:221", after := #[{ on := 5, ground := Ground.data }], guard := none }
def ahead4_o7 : Oper := { dst := some 30, op := Op.load 3 (Operand.tmp 29), type := 3, pos := "row.go:221", after := #[{ on := 6, ground := Ground.data }], guard := none }
def ahead4_o8 : Oper := { dst := some 8, op := Op.assign (Operand.tmp 30), type := 3, pos := "row.go:221", after := #[{ on := 7, ground := Ground.data }, { on := 0, ground := Ground.phase }, { on := 1, ground := Ground.phase }, { on := 2, ground := Ground.phase }, { on := 3, ground := Ground.phase }, { on := 4, ground := Ground.phase }, { on := 5, ground := Ground.phase }, { on := 6, ground := Ground.phase }, { on := 7, ground := Ground.phase }], guard := none }
def ahead4_ops : Array Oper := #[ahead4_o0, ahead4_o1, ahead4_o2, ahead4_o3, ahead4_o4, ahead4_o5, ahead4_o6, ahead4_o7, ahead4_o8]
set_option maxRecDepth 100000 in
set_option maxHeartbeats 4000000 in
theorem ahead4 {rb ro g cap : Nat} {L : List Sp} {i : Nat} (a : Act) (w : World) (Q : Exit → Act → World → Prop) (hsz : a.tmps.size = 43)
    (t0 : a.tmps.getD 0 undef = .pointer (some ⟨rb, ro, none⟩))
    (t1 : a.tmps.getD 1 undef = .int .i64 (i : Int))
    (hR : SqAt w rb ro g cap L) (hi : i < L.length)
    (h : ∀ (a' : Act) (w' : World), w' = w → a' = (((((((((a).put (some 23) (.pointer (some ⟨rb, ro, none⟩))).put (some 24) (.pointer (some ⟨rb, ro, none⟩))).put (some 25) (.pointer (some ⟨rb, ro + 0, none⟩))).put (some 26) (.slice (some ⟨g, 0, none⟩) (L).length cap)).put (some 27) (.int .i64 (i : Int))).put (some 28) (.pointer (some ⟨g, 73 * i, none⟩))).put (some 29) (.pointer (some ⟨g, 73 * i + 68, none⟩))).put (some 30) (.int .i64 ((gt L i).up : Int))).put (some 8) (.int .i64 ((gt L i).up : Int)) → Q .normal a' w') :
    (Code.region 4 ahead4_ops false).wp Try.prog Q a w := by
  refine wp_region_list ?_
  change wpList _ _ _ [ahead4_o0, ahead4_o1, ahead4_o2, ahead4_o3, ahead4_o4, ahead4_o5, ahead4_o6, ahead4_o7, ahead4_o8] _ _
  refine qv (v := .pointer (some ⟨rb, ro, none⟩)) (by rfl) (exec_move rfl t0) (fun a0 e0 => ?_)
  rw [← e0] at h
  have z0 := pz e0 hsz
  replace t1 := pk e0 t1
  clear t0
  have t23 := pq e0 hsz
  clear e0 hsz
  refine qv (v := .pointer (some ⟨rb, ro, none⟩)) (by rfl) (exec_nilCheck rfl t23) (fun a1 e1 => ?_)
  rw [← e1] at h
  have z1 := pz e1 z0
  replace t1 := pk e1 t1
  clear t23
  have t24 := pq e1 z0
  clear e1 z0
  refine qv (v := .pointer (some ⟨rb, ro + 0, none⟩)) (by rfl) (exec_fieldAt rfl t24 (fg_65_0 _ _ _)) (fun a2 e2 => ?_)
  rw [← e2] at h
  have z2 := pz e2 z1
  replace t1 := pk e2 t1
  clear t24
  have t25 := pq e2 z1
  clear e2 z1
  refine qv (v := .slice (some ⟨g, 0, none⟩) (L).length cap) (by rfl) (exec_load rfl t25 (R_sl hR)) (fun a3 e3 => ?_)
  rw [← e3] at h
  have z3 := pz e3 z2
  replace t1 := pk e3 t1
  clear t25
  have t26 := pq e3 z2
  clear e3 z2
  refine qv (v := .int .i64 (i : Int)) (by rfl) (exec_move rfl t1) (fun a4 e4 => ?_)
  rw [← e4] at h
  have z4 := pz e4 z3
  replace t26 := pk e4 t26
  clear t1
  have t27 := pq e4 z3
  clear e4 z3
  refine qv (v := .pointer (some ⟨g, 73 * i, none⟩)) (by rfl) (exec_indexAt rfl t26 t27 (R_ix hi hR.len _)) (fun a5 e5 => ?_)
  rw [← e5] at h
  have z5 := pz e5 z4
  clear t26 t27
  have t28 := pq e5 z4
  clear e5 z4
  refine qv (v := .pointer (some ⟨g, 73 * i + 68, none⟩)) (by rfl) (exec_fieldAt rfl t28 (fg_89_2 _ _ _)) (fun a6 e6 => ?_)
  rw [← e6] at h
  have z6 := pz e6 z5
  clear t28
  have t29 := pq e6 z5
  clear e6 z5
  refine qv (v := .int .i64 ((gt L i).up : Int)) (by rfl) (exec_load rfl t29 (R_up hR hi)) (fun a7 e7 => ?_)
  rw [← e7] at h
  have z7 := pz e7 z6
  clear t29
  have t30 := pq e7 z6
  clear e7 z6
  refine qv (v := .int .i64 ((gt L i).up : Int)) (by rfl) (exec_assign rfl t30) (fun a8 e8 => ?_)
  rw [← e8] at h
  have z8 := pz e8 z7
  clear t30
  clear e8 z7
  exact wpList_nil (h _ _ (rfl) rfl)
def ahead5_o0 : Oper := { dst := some 31, op := Op.move (Operand.tmp 0), type := 90, pos := "row.go:222", after := #[], guard := none }
def ahead5_o1 : Oper := { dst := some 32, op := Op.move (Operand.tmp 1), type := 3, pos := "row.go:222", after := #[], guard := none }
def ahead5_o2 : Oper := { dst := some 33, op := Op.call { callee := Callee.value (Operand.func 74), args := #[Operand.tmp 31, Operand.tmp 32], argTypes := #[90, 3] }, type := 3, pos := "row.go:222", after := #[{ on := 0, ground := Ground.data }, { on := 1, ground := Ground.data }], guard := none }
def ahead5_o3 : Oper := { dst := some 34, op := Op.binOp BinOp.eql 3 (Operand.tmp 33) (Operand.const (Value.int IntKind.i64 1)) 3, type := 4, pos := "row.go:222", after := #[{ on := 2, ground := Ground.data }], guard := none }
def ahead5_ops : Array Oper := #[ahead5_o0, ahead5_o1, ahead5_o2, ahead5_o3]
set_option maxRecDepth 100000 in
set_option maxHeartbeats 4000000 in
theorem ahead5 {rb ro i : Nat} {s : Bool} (Fin : World → Prop) (a : Act) (w : World) (Q : Exit → Act → World → Prop) (hsz : a.tmps.size = 43)
    (t0 : a.tmps.getD 0 undef = .pointer (some ⟨rb, ro, none⟩))
    (t1 : a.tmps.getD 1 undef = .int .i64 (i : Int))
    (hs : decide ((nb s : Int) = 1) = s) (CS : Calls Try.prog 74 #[.pointer (some ⟨rb, ro, none⟩), .int .i64 (i : Int)] w fun e w' => e = .returned (.int .i64 (nb s : Int)) ∧ Fin w')
    (h : ∀ (a' : Act) (w' : World), Fin w' → a' = ((((a).put (some 31) (.pointer (some ⟨rb, ro, none⟩))).put (some 32) (.int .i64 (i : Int))).put (some 33) (.int .i64 (nb s : Int))).put (some 34) (.bool s) → Q .normal a' w') :
    (Code.region 5 ahead5_ops false).wp Try.prog Q a w := by
  refine wp_region_list ?_
  change wpList _ _ _ [ahead5_o0, ahead5_o1, ahead5_o2, ahead5_o3] _ _
  refine qv (v := .pointer (some ⟨rb, ro, none⟩)) (by rfl) (exec_move rfl t0) (fun a0 e0 => ?_)
  rw [← e0] at h
  have z0 := pz e0 hsz
  replace t1 := pk e0 t1
  clear t0
  have t31 := pq e0 hsz
  clear e0 hsz
  refine qv (v := .int .i64 (i : Int)) (by rfl) (exec_move rfl t1) (fun a1 e1 => ?_)
  rw [← e1] at h
  have z1 := pz e1 z0
  replace t31 := pk e1 t31
  clear t1
  have t32 := pq e1 z0
  clear e1 z0
  refine qc (by rfl) (by unfold ahead5_o2; go_simp) (CS) (fun e x2 hx => ?_)
  obtain ⟨rfl, HF⟩ := hx
  refine ⟨_, rfl, fun a2 e2 => ?_⟩
  rw [← e2] at h
  have z2 := pz e2 z1
  clear t31 t32
  have t33 := pq e2 z1
  clear e2 z1
  refine qv (v := .bool s) (by rfl) (ex_eql rfl t33 rfl hs) (fun a3 e3 => ?_)
  rw [← e3] at h
  have z3 := pz e3 z2
  clear t33
  clear e3 z2
  exact wpList_nil (h _ _ (HF) rfl)
def ahead6_o0 : Oper := { dst := some 35, op := Op.move (Operand.tmp 7), type := 3, pos := "row.go:223", after := #[], guard := none }
def ahead6_o1 : Oper := { dst := some 36, op := Op.move (Operand.tmp 0), type := 90, pos := "row.go:223", after := #[], guard := none }
def ahead6_o2 : Oper := { dst := some 37, op := Op.move (Operand.tmp 8), type := 3, pos := "row.go:223", after := #[], guard := none }
def ahead6_o3 : Oper := { dst := some 38, op := Op.move (Operand.tmp 2), type := 3, pos := "row.go:223", after := #[], guard := none }
def ahead6_o4 : Oper := { dst := some 39, op := Op.call { callee := Callee.value (Operand.func 80), args := #[Operand.tmp 36, Operand.tmp 37, Operand.tmp 38], argTypes := #[90, 3, 3] }, type := 3, pos := "row.go:223", after := #[{ on := 1, ground := Ground.data }, { on := 2, ground := Ground.data }, { on := 3, ground := Ground.data }], guard := none }
def ahead6_o5 : Oper := { dst := some 40, op := Op.binOp BinOp.add 3 (Operand.tmp 35) (Operand.tmp 39) 3, type := 3, pos := "row.go:223", after := #[{ on := 0, ground := Ground.data }, { on := 4, ground := Ground.data }], guard := none }
def ahead6_o6 : Oper := { dst := some 7, op := Op.assign (Operand.tmp 40), type := 3, pos := "row.go:223", after := #[{ on := 5, ground := Ground.data }, { on := 4, ground := Ground.chain }, { on := 0, ground := Ground.phase }, { on := 1, ground := Ground.phase }, { on := 2, ground := Ground.phase }, { on := 3, ground := Ground.phase }, { on := 4, ground := Ground.phase }, { on := 5, ground := Ground.phase }], guard := none }
def ahead6_ops : Array Oper := #[ahead6_o0, ahead6_o1, ahead6_o2, ahead6_o3, ahead6_o4, ahead6_o5, ahead6_o6]
set_option maxRecDepth 100000 in
set_option maxHeartbeats 4000000 in
theorem ahead6 {rb ro n u x : Nat} {c : Bool} (Fin : World → Prop) (a : Act) (w : World) (Q : Exit → Act → World → Prop) (hsz : a.tmps.size = 43)
    (t0 : a.tmps.getD 0 undef = .pointer (some ⟨rb, ro, none⟩))
    (t2 : a.tmps.getD 2 undef = .int .i64 (nb c : Int))
    (t7 : a.tmps.getD 7 undef = .int .i64 (n : Int))
    (t8 : a.tmps.getD 8 undef = .int .i64 (u : Int))
    (hs : n + x ≤ 9223372036854775807) (CU : Calls Try.prog 80 #[.pointer (some ⟨rb, ro, none⟩), .int .i64 (u : Int), .int .i64 (nb c : Int)] w fun e w' => e = .returned (.int .i64 (x : Int)) ∧ Fin w')
    (h : ∀ (a' : Act) (w' : World), Fin w' → a' = (((((((a).put (some 35) (.int .i64 (n : Int))).put (some 36) (.pointer (some ⟨rb, ro, none⟩))).put (some 37) (.int .i64 (u : Int))).put (some 38) (.int .i64 (nb c : Int))).put (some 39) (.int .i64 (x : Int))).put (some 40) (.int .i64 ((n + x : Nat) : Int))).put (some 7) (.int .i64 ((n + x : Nat) : Int)) → Q .normal a' w') :
    (Code.region 6 ahead6_ops false).wp Try.prog Q a w := by
  refine wp_region_list ?_
  change wpList _ _ _ [ahead6_o0, ahead6_o1, ahead6_o2, ahead6_o3, ahead6_o4, ahead6_o5, ahead6_o6] _ _
  refine qv (v := .int .i64 (n : Int)) (by rfl) (exec_move rfl t7) (fun a0 e0 => ?_)
  rw [← e0] at h
  have z0 := pz e0 hsz
  replace t0 := pk e0 t0
  replace t2 := pk e0 t2
  replace t8 := pk e0 t8
  clear t7
  have t35 := pq e0 hsz
  clear e0 hsz
  refine qv (v := .pointer (some ⟨rb, ro, none⟩)) (by rfl) (exec_move rfl t0) (fun a1 e1 => ?_)
  rw [← e1] at h
  have z1 := pz e1 z0
  replace t2 := pk e1 t2
  replace t8 := pk e1 t8
  replace t35 := pk e1 t35
  clear t0
  have t36 := pq e1 z0
  clear e1 z0
  refine qv (v := .int .i64 (u : Int)) (by rfl) (exec_move rfl t8) (fun a2 e2 => ?_)
  rw [← e2] at h
  have z2 := pz e2 z1
  replace t2 := pk e2 t2
  replace t35 := pk e2 t35
  replace t36 := pk e2 t36
  clear t8
  have t37 := pq e2 z1
  clear e2 z1
  refine qv (v := .int .i64 (nb c : Int)) (by rfl) (exec_move rfl t2) (fun a3 e3 => ?_)
  rw [← e3] at h
  have z3 := pz e3 z2
  replace t35 := pk e3 t35
  replace t36 := pk e3 t36
  replace t37 := pk e3 t37
  clear t2
  have t38 := pq e3 z2
  clear e3 z2
  refine qc (by rfl) (by unfold ahead6_o4; go_simp) (CU) (fun e x4 hx => ?_)
  obtain ⟨rfl, HF⟩ := hx
  refine ⟨_, rfl, fun a4 e4 => ?_⟩
  rw [← e4] at h
  have z4 := pz e4 z3
  replace t35 := pk e4 t35
  clear t36 t37 t38
  have t39 := pq e4 z3
  clear e4 z3
  refine qv (v := .int .i64 ((n + x : Nat) : Int)) (by rfl) (ex_addN rfl t35 t39 hs) (fun a5 e5 => ?_)
  rw [← e5] at h
  have z5 := pz e5 z4
  clear t35 t39
  have t40 := pq e5 z4
  clear e5 z4
  refine qv (v := .int .i64 ((n + x : Nat) : Int)) (by rfl) (exec_assign rfl t40) (fun a6 e6 => ?_)
  rw [← e6] at h
  have z6 := pz e6 z5
  clear t40
  clear e6 z5
  exact wpList_nil (h _ _ (HF) rfl)
def find3_o0 : Oper := { dst := some 14, op := Op.move (Operand.tmp 0), type := 90, pos := "row.go:234", after := #[], guard := none }
def find3_o1 : Oper := { dst := some 15, op := Op.move (Operand.tmp 7), type := 3, pos := "row.go:234", after := #[], guard := none }
def find3_o2 : Oper := { dst := some 16, op := Op.move (Operand.tmp 2), type := 3, pos := "row.go:234", after := #[], guard := none }
def find3_o3 : Oper := { dst := some 17, op := Op.call { callee := Callee.value (Operand.func 79), args := #[Operand.tmp 14, Operand.tmp 15, Operand.const (Value.int IntKind.i64 0), Operand.tmp 16], argTypes := #[90, 3, 3, 3] }, type := 3, pos := "row.go:234", after := #[{ on := 0, ground := Ground.data }, { on := 1, ground := Ground.data }, { on := 2, ground := Ground.data }], guard := none }
def find3_o4 : Oper := { dst := some 18, op := Op.move (Operand.tmp 0), type := 90, pos := "row.go:234", after := #[], guard := none }
def find3_o5 : Oper := { dst := some 19, op := Op.move (Operand.tmp 7), type := 3, pos := "row.go:234", after := #[], guard := none }
def find3_o6 : Oper := { dst := some 20, op := Op.move (Operand.tmp 2), type := 3, pos := "row.go:234", after := #[], guard := none }
def find3_o7 : Oper := { dst := some 21, op := Op.call { callee := Callee.value (Operand.func 80), args := #[Operand.tmp 18, Operand.tmp 19, Operand.tmp 20], argTypes := #[90, 3, 3] }, type := 3, pos := "row.go:234", after := #[{ on := 4, ground := Ground.data }, { on := 5, ground := Ground.data }, { on := 6, ground := Ground.data }, { on := 3, ground := Ground.chain }], guard := none }
def find3_o8 : Oper := { dst := some 8, op := Op.assign (Operand.tmp 17), type := 3, pos := "row.go:234", after := #[{ on := 3, ground := Ground.data }, { on := 7, ground := Ground.chain }, { on := 0, ground := Ground.phase }, { on := 1, ground := Ground.phase }, { on := 2, ground := Ground.phase }, { on := 3, ground := Ground.phase }, { on := 4, ground := Ground.textOnly Departure.lateStores }, { on := 5, ground := Ground.textOnly Departure.lateStores }, { on := 6, ground := Ground.textOnly Departure.lateStores }, { on := 7, ground := Ground.textOnly Departure.lateStoresUnsure }], guard := none }
def find3_o9 : Oper := { dst := some 9, op := Op.assign (Operand.tmp 21), type := 3, pos := "row.go:234", after := #[{ on := 7, ground := Ground.data }, { on := 8, ground := Ground.chain }, { on := 0, ground := Ground.phase }, { on := 1, ground := Ground.phase }, { on := 2, ground := Ground.phase }, { on := 3, ground := Ground.phase }, { on := 4, ground := Ground.phase }, { on := 5, ground := Ground.phase }, { on := 6, ground := Ground.phase }, { on := 7, ground := Ground.phase }, { on := 8, ground := Ground.phase }], guard := none }
def find3_ops : Array Oper := #[find3_o0, find3_o1, find3_o2, find3_o3, find3_o4, find3_o5, find3_o6, find3_o7, find3_o8, find3_o9]
set_option maxRecDepth 100000 in
set_option maxHeartbeats 4000000 in
theorem find3 {rb ro i u x : Nat} {c : Bool} (Fin : World → Prop) (a : Act) (w : World) (Q : Exit → Act → World → Prop) (hsz : a.tmps.size = 52)
    (t0 : a.tmps.getD 0 undef = .pointer (some ⟨rb, ro, none⟩))
    (t2 : a.tmps.getD 2 undef = .int .i64 (nb c : Int))
    (t7 : a.tmps.getD 7 undef = .int .i64 (i : Int))
    (CU : Calls Try.prog 79 #[.pointer (some ⟨rb, ro, none⟩), .int .i64 (i : Int), .int .i64 0, .int .i64 (nb c : Int)] w fun e w' => e = .returned (.int .i64 (u : Int)) ∧ Calls Try.prog 80 #[.pointer (some ⟨rb, ro, none⟩), .int .i64 (i : Int), .int .i64 (nb c : Int)] w' fun e2 w2 => e2 = .returned (.int .i64 (x : Int)) ∧ Fin w2)
    (h : ∀ (a' : Act) (w' : World), Fin w' → a' = ((((((((((a).put (some 14) (.pointer (some ⟨rb, ro, none⟩))).put (some 15) (.int .i64 (i : Int))).put (some 16) (.int .i64 (nb c : Int))).put (some 17) (.int .i64 (u : Int))).put (some 18) (.pointer (some ⟨rb, ro, none⟩))).put (some 19) (.int .i64 (i : Int))).put (some 20) (.int .i64 (nb c : Int))).put (some 21) (.int .i64 (x : Int))).put (some 8) (.int .i64 (u : Int))).put (some 9) (.int .i64 (x : Int)) → Q .normal a' w') :
    (Code.region 3 find3_ops false).wp Try.prog Q a w := by
  refine wp_region_list ?_
  change wpList _ _ _ [find3_o0, find3_o1, find3_o2, find3_o3, find3_o4, find3_o5, find3_o6, find3_o7, find3_o8, find3_o9] _ _
  refine qv (v := .pointer (some ⟨rb, ro, none⟩)) (by rfl) (exec_move rfl t0) (fun a0 e0 => ?_)
  rw [← e0] at h
  have z0 := pz e0 hsz
  replace t0 := pk e0 t0
  replace t2 := pk e0 t2
  replace t7 := pk e0 t7
  have t14 := pq e0 hsz
  clear e0 hsz
  refine qv (v := .int .i64 (i : Int)) (by rfl) (exec_move rfl t7) (fun a1 e1 => ?_)
  rw [← e1] at h
  have z1 := pz e1 z0
  replace t0 := pk e1 t0
  replace t2 := pk e1 t2
  replace t7 := pk e1 t7
  replace t14 := pk e1 t14
  have t15 := pq e1 z0
  clear e1 z0
  refine qv (v := .int .i64 (nb c : Int)) (by rfl) (exec_move rfl t2) (fun a2 e2 => ?_)
  rw [← e2] at h
  have z2 := pz e2 z1
  replace t0 := pk e2 t0
  replace t2 := pk e2 t2
  replace t7 := pk e2 t7
  replace t14 := pk e2 t14
  replace t15 := pk e2 t15
  have t16 := pq e2 z1
  clear e2 z1
  refine qc (by rfl) (by unfold find3_o3; go_simp) (CU) (fun e x3 hx => ?_)
  obtain ⟨rfl, CO⟩ := hx
  refine ⟨_, rfl, fun a3 e3 => ?_⟩
  rw [← e3] at h
  have z3 := pz e3 z2
  replace t0 := pk e3 t0
  replace t2 := pk e3 t2
  replace t7 := pk e3 t7
  clear t14 t15 t16
  have t17 := pq e3 z2
  clear e3 z2
  refine qv (v := .pointer (some ⟨rb, ro, none⟩)) (by rfl) (exec_move rfl t0) (fun a4 e4 => ?_)
  rw [← e4] at h
  have z4 := pz e4 z3
  replace t2 := pk e4 t2
  replace t7 := pk e4 t7
  replace t17 := pk e4 t17
  clear t0
  have t18 := pq e4 z3
  clear e4 z3
  refine qv (v := .int .i64 (i : Int)) (by rfl) (exec_move rfl t7) (fun a5 e5 => ?_)
  rw [← e5] at h
  have z5 := pz e5 z4
  replace t2 := pk e5 t2
  replace t17 := pk e5 t17
  replace t18 := pk e5 t18
  clear t7
  have t19 := pq e5 z4
  clear e5 z4
  refine qv (v := .int .i64 (nb c : Int)) (by rfl) (exec_move rfl t2) (fun a6 e6 => ?_)
  rw [← e6] at h
  have z6 := pz e6 z5
  replace t17 := pk e6 t17
  replace t18 := pk e6 t18
  replace t19 := pk e6 t19
  clear t2
  have t20 := pq e6 z5
  clear e6 z5
  refine qc (by rfl) (by unfold find3_o7; go_simp) (CO) (fun e x7 hx => ?_)
  obtain ⟨rfl, HF⟩ := hx
  refine ⟨_, rfl, fun a7 e7 => ?_⟩
  rw [← e7] at h
  have z7 := pz e7 z6
  replace t17 := pk e7 t17
  clear t18 t19 t20
  have t21 := pq e7 z6
  clear e7 z6
  refine qv (v := .int .i64 (u : Int)) (by rfl) (exec_assign rfl t17) (fun a8 e8 => ?_)
  rw [← e8] at h
  have z8 := pz e8 z7
  replace t21 := pk e8 t21
  clear t17
  clear e8 z7
  refine qv (v := .int .i64 (x : Int)) (by rfl) (exec_assign rfl t21) (fun a9 e9 => ?_)
  rw [← e9] at h
  have z9 := pz e9 z8
  clear t21
  clear e9 z8
  exact wpList_nil (h _ _ (HF) rfl)
def find6_o0 : Oper := { dst := some 35, op := Op.move (Operand.tmp 1), type := 3, pos := "row.go:236", after := #[], guard := none }
def find6_o1 : Oper := { dst := some 36, op := Op.move (Operand.tmp 8), type := 3, pos := "row.go:236", after := #[], guard := none }
def find6_o2 : Oper := { dst := some 37, op := Op.binOp BinOp.lss 3 (Operand.tmp 35) (Operand.tmp 36) 3, type := 4, pos := "row.go:236", after := #[{ on := 0, ground := Ground.data }, { on := 1, ground := Ground.data }], guard := none }
def find6_o3 : Oper := { dst := some 34, op := Op.assign (Operand.tmp 37), type := 4, pos := "row.go:236", after := #[{ on := 2, ground := Ground.data }], guard := none }
def find6_ops : Array Oper := #[find6_o0, find6_o1, find6_o2, find6_o3]
set_option maxRecDepth 100000 in
set_option maxHeartbeats 4000000 in
theorem find6 {k : Int} {u : Nat} {r : Bool} (a : Act) (w : World) (Q : Exit → Act → World → Prop) (hsz : a.tmps.size = 52)
    (t1 : a.tmps.getD 1 undef = .int .i64 k)
    (t8 : a.tmps.getD 8 undef = .int .i64 (u : Int))
    (hr : decide (k < (u : Int)) = r)
    (h : ∀ (a' : Act) (w' : World), w' = w → a' = ((((a).put (some 35) (.int .i64 k)).put (some 36) (.int .i64 (u : Int))).put (some 37) (.bool r)).put (some 34) (.bool r) → Q .normal a' w') :
    (Code.region 6 find6_ops false).wp Try.prog Q a w := by
  refine wp_region_list ?_
  change wpList _ _ _ [find6_o0, find6_o1, find6_o2, find6_o3] _ _
  refine qv (v := .int .i64 k) (by rfl) (exec_move rfl t1) (fun a0 e0 => ?_)
  rw [← e0] at h
  have z0 := pz e0 hsz
  replace t8 := pk e0 t8
  clear t1
  have t35 := pq e0 hsz
  clear e0 hsz
  refine qv (v := .int .i64 (u : Int)) (by rfl) (exec_move rfl t8) (fun a1 e1 => ?_)
  rw [← e1] at h
  have z1 := pz e1 z0
  replace t35 := pk e1 t35
  clear t8
  have t36 := pq e1 z0
  clear e1 z0
  refine qv (v := .bool r) (by rfl) (ex_lss rfl t35 t36 hr) (fun a2 e2 => ?_)
  rw [← e2] at h
  have z2 := pz e2 z1
  clear t35 t36
  have t37 := pq e2 z1
  clear e2 z1
  refine qv (v := .bool r) (by rfl) (exec_assign rfl t37) (fun a3 e3 => ?_)
  rw [← e3] at h
  have z3 := pz e3 z2
  clear t37
  clear e3 z2
  exact wpList_nil (h _ _ (rfl) rfl)
def find8_o0 : Oper := { dst := some 48, op := Op.move (Operand.tmp 1), type := 3, pos := "row.go:238", after := #[], guard := none }
def find8_o1 : Oper := { dst := some 49, op := Op.move (Operand.tmp 9), type := 3, pos := "row.go:238", after := #[], guard := none }
def find8_o2 : Oper := { dst := some 50, op := Op.binOp BinOp.lss 3 (Operand.tmp 48) (Operand.tmp 49) 3, type := 4, pos := "row.go:238", after := #[{ on := 0, ground := Ground.data }, { on := 1, ground := Ground.data }], guard := none }
def find8_o3 : Oper := { dst := some 47, op := Op.assign (Operand.tmp 50), type := 4, pos := "row.go:238", after := #[{ on := 2, ground := Ground.data }], guard := none }
def find8_ops : Array Oper := #[find8_o0, find8_o1, find8_o2, find8_o3]
set_option maxRecDepth 100000 in
set_option maxHeartbeats 4000000 in
theorem find8 {k : Int} {x : Nat} {r : Bool} (a : Act) (w : World) (Q : Exit → Act → World → Prop) (hsz : a.tmps.size = 52)
    (t1 : a.tmps.getD 1 undef = .int .i64 k)
    (t9 : a.tmps.getD 9 undef = .int .i64 (x : Int))
    (hr : decide (k < (x : Int)) = r)
    (h : ∀ (a' : Act) (w' : World), w' = w → a' = ((((a).put (some 48) (.int .i64 k)).put (some 49) (.int .i64 (x : Int))).put (some 50) (.bool r)).put (some 47) (.bool r) → Q .normal a' w') :
    (Code.region 8 find8_ops false).wp Try.prog Q a w := by
  refine wp_region_list ?_
  change wpList _ _ _ [find8_o0, find8_o1, find8_o2, find8_o3] _ _
  refine qv (v := .int .i64 k) (by rfl) (exec_move rfl t1) (fun a0 e0 => ?_)
  rw [← e0] at h
  have z0 := pz e0 hsz
  replace t9 := pk e0 t9
  clear t1
  have t48 := pq e0 hsz
  clear e0 hsz
  refine qv (v := .int .i64 (x : Int)) (by rfl) (exec_move rfl t9) (fun a1 e1 => ?_)
  rw [← e1] at h
  have z1 := pz e1 z0
  replace t48 := pk e1 t48
  clear t9
  have t49 := pq e1 z0
  clear e1 z0
  refine qv (v := .bool r) (by rfl) (ex_lss rfl t48 t49 hr) (fun a2 e2 => ?_)
  rw [← e2] at h
  have z2 := pz e2 z1
  clear t48 t49
  have t50 := pq e2 z1
  clear e2 z1
  refine qv (v := .bool r) (by rfl) (exec_assign rfl t50) (fun a3 e3 => ?_)
  rw [← e3] at h
  have z3 := pz e3 z2
  clear t50
  clear e3 z2
  exact wpList_nil (h _ _ (rfl) rfl)
def find4_o0 : Oper := { dst := some 22, op := Op.move (Operand.tmp 1), type := 3, pos := "row.go:241", after := #[], guard := none }
def find4_o1 : Oper := { dst := some 23, op := Op.move (Operand.tmp 9), type := 3, pos := "row.go:241", after := #[], guard := none }
def find4_o2 : Oper := { dst := some 24, op := Op.binOp BinOp.sub 3 (Operand.tmp 22) (Operand.tmp 23) 3, type := 3, pos := "row.go:241", after := #[{ on := 0, ground := Ground.data }, { on := 1, ground := Ground.data }], guard := none }
def find4_o3 : Oper := { dst := some 1, op := Op.assign (Operand.tmp 24), type := 3, pos := "row.go:241", after := #[{ on := 2, ground := Ground.data }, { on := 0, ground := Ground.phase }, { on := 1, ground := Ground.phase }, { on := 2, ground := Ground.phase }], guard := none }
def find4_ops : Array Oper := #[find4_o0, find4_o1, find4_o2, find4_o3]
set_option maxRecDepth 100000 in
set_option maxHeartbeats 4000000 in
theorem find4 {k : Int} {x : Nat} (a : Act) (w : World) (Q : Exit → Act → World → Prop) (hsz : a.tmps.size = 52)
    (t1 : a.tmps.getD 1 undef = .int .i64 k)
    (t9 : a.tmps.getD 9 undef = .int .i64 (x : Int))
    (hs : -9223372036854775808 ≤ k - (x : Int) ∧ k - (x : Int) ≤ 9223372036854775807)
    (h : ∀ (a' : Act) (w' : World), w' = w → a' = ((((a).put (some 22) (.int .i64 k)).put (some 23) (.int .i64 (x : Int))).put (some 24) (.int .i64 (k - (x : Int)))).put (some 1) (.int .i64 (k - (x : Int))) → Q .normal a' w') :
    (Code.region 4 find4_ops false).wp Try.prog Q a w := by
  refine wp_region_list ?_
  change wpList _ _ _ [find4_o0, find4_o1, find4_o2, find4_o3] _ _
  refine qv (v := .int .i64 k) (by rfl) (exec_move rfl t1) (fun a0 e0 => ?_)
  rw [← e0] at h
  have z0 := pz e0 hsz
  replace t9 := pk e0 t9
  clear t1
  have t22 := pq e0 hsz
  clear e0 hsz
  refine qv (v := .int .i64 (x : Int)) (by rfl) (exec_move rfl t9) (fun a1 e1 => ?_)
  rw [← e1] at h
  have z1 := pz e1 z0
  replace t22 := pk e1 t22
  clear t9
  have t23 := pq e1 z0
  clear e1 z0
  refine qv (v := .int .i64 (k - (x : Int))) (by rfl) (ex_sub rfl t22 t23 hs) (fun a2 e2 => ?_)
  rw [← e2] at h
  have z2 := pz e2 z1
  clear t22 t23
  have t24 := pq e2 z1
  clear e2 z1
  refine qv (v := .int .i64 (k - (x : Int))) (by rfl) (exec_assign rfl t24) (fun a3 e3 => ?_)
  rw [← e3] at h
  have z3 := pz e3 z2
  clear t24
  clear e3 z2
  exact wpList_nil (h _ _ (rfl) rfl)
def find7_o0 : Oper := { dst := some 38, op := Op.move (Operand.tmp 0), type := 90, pos := "row.go:237", after := #[], guard := none }
def find7_o1 : Oper := { dst := some 39, op := Op.nilCheck (Operand.tmp 38), type := 0, pos := "row.go:237", after := #[{ on := 0, ground := Ground.data }], guard := none }
def find7_o2 : Oper := { dst := some 40, op := Op.fieldAddr 65 (Operand.tmp 39) 0, type := 0, pos := "row.go:237", after := #[{ on := 1, ground := Ground.data }], guard := none }
def find7_o3 : Oper := { dst := some 41, op := Op.load 63 (Operand.tmp 40), type := 63, pos := "row.go:237", after := #[{ on := 2, ground := Ground.data }], guard := none }
def find7_o4 : Oper := { dst := some 42, op := Op.move (Operand.tmp 7), type := 3, pos := "row.go:237", after := #[], guard := none }
def find7_o5 : Oper := { dst := some 43, op := Op.indexAddr 63 (Operand.tmp 41) (Operand.tmp 42), type := 0, pos := "row.go:237", after := #[{ on := 3, ground := Ground.data }, { on := 4, ground := Ground.data }], guard := none }
def find7_o6 : Oper := { dst := some 44, op := Op.fieldAddr 89 (Operand.tmp 43) 3, type := 0, pos := "row.go:237", after := #[{ on := 5, ground := Ground.data }], guard := none }
def find7_o7 : Oper := { dst := some 45, op := Op.indexAddr 87 (Operand.tmp 44) (Operand.const (Value.int IntKind.i64 0)), type := 0, pos := "row.go:237", after := #[{ on := 6, ground := Ground.data }], guard := none }
def find7_o8 : Oper := { dst := some 46, op := Op.load 3 (Operand.tmp 45), type := 3, pos := "row.go:237", after := #[{ on := 7, ground := Ground.data }], guard := none }
def find7_o9 : Oper := { dst := some 7, op := Op.assign (Operand.tmp 46), type := 3, pos := "row.go:237", after := #[{ on := 8, ground := Ground.data }, { on := 0, ground := Ground.phase }, { on := 1, ground := Ground.phase }, { on := 2, ground := Ground.phase }, { on := 3, ground := Ground.phase }, { on := 4, ground := Ground.phase }, { on := 5, ground := Ground.phase }, { on := 6, ground := Ground.phase }, { on := 7, ground := Ground.phase }, { on := 8, ground := Ground.phase }], guard := none }
def find7_ops : Array Oper := #[find7_o0, find7_o1, find7_o2, find7_o3, find7_o4, find7_o5, find7_o6, find7_o7, find7_o8, find7_o9]
set_option maxRecDepth 100000 in
set_option maxHeartbeats 4000000 in
theorem find7 {rb ro g cap : Nat} {L : List Sp} {i : Nat} (a : Act) (w : World) (Q : Exit → Act → World → Prop) (hsz : a.tmps.size = 52)
    (t0 : a.tmps.getD 0 undef = .pointer (some ⟨rb, ro, none⟩))
    (t7 : a.tmps.getD 7 undef = .int .i64 (i : Int))
    (hR : SqAt w rb ro g cap L) (hi : i < L.length)
    (h : ∀ (a' : Act) (w' : World), w' = w → a' = ((((((((((a).put (some 38) (.pointer (some ⟨rb, ro, none⟩))).put (some 39) (.pointer (some ⟨rb, ro, none⟩))).put (some 40) (.pointer (some ⟨rb, ro + 0, none⟩))).put (some 41) (.slice (some ⟨g, 0, none⟩) (L).length cap)).put (some 42) (.int .i64 (i : Int))).put (some 43) (.pointer (some ⟨g, 73 * i, none⟩))).put (some 44) (.pointer (some ⟨g, 73 * i + 69, none⟩))).put (some 45) (.pointer (some ⟨g, 73 * i + 69 + nb false, none⟩))).put (some 46) (.int .i64 (dn (gt L i) false : Int))).put (some 7) (.int .i64 (dn (gt L i) false : Int)) → Q .normal a' w') :
    (Code.region 7 find7_ops false).wp Try.prog Q a w := by
  refine wp_region_list ?_
  change wpList _ _ _ [find7_o0, find7_o1, find7_o2, find7_o3, find7_o4, find7_o5, find7_o6, find7_o7, find7_o8, find7_o9] _ _
  refine qv (v := .pointer (some ⟨rb, ro, none⟩)) (by rfl) (exec_move rfl t0) (fun a0 e0 => ?_)
  rw [← e0] at h
  have z0 := pz e0 hsz
  replace t7 := pk e0 t7
  clear t0
  have t38 := pq e0 hsz
  clear e0 hsz
  refine qv (v := .pointer (some ⟨rb, ro, none⟩)) (by rfl) (exec_nilCheck rfl t38) (fun a1 e1 => ?_)
  rw [← e1] at h
  have z1 := pz e1 z0
  replace t7 := pk e1 t7
  clear t38
  have t39 := pq e1 z0
  clear e1 z0
  refine qv (v := .pointer (some ⟨rb, ro + 0, none⟩)) (by rfl) (exec_fieldAt rfl t39 (fg_65_0 _ _ _)) (fun a2 e2 => ?_)
  rw [← e2] at h
  have z2 := pz e2 z1
  replace t7 := pk e2 t7
  clear t39
  have t40 := pq e2 z1
  clear e2 z1
  refine qv (v := .slice (some ⟨g, 0, none⟩) (L).length cap) (by rfl) (exec_load rfl t40 (R_sl hR)) (fun a3 e3 => ?_)
  rw [← e3] at h
  have z3 := pz e3 z2
  replace t7 := pk e3 t7
  clear t40
  have t41 := pq e3 z2
  clear e3 z2
  refine qv (v := .int .i64 (i : Int)) (by rfl) (exec_move rfl t7) (fun a4 e4 => ?_)
  rw [← e4] at h
  have z4 := pz e4 z3
  replace t41 := pk e4 t41
  clear t7
  have t42 := pq e4 z3
  clear e4 z3
  refine qv (v := .pointer (some ⟨g, 73 * i, none⟩)) (by rfl) (exec_indexAt rfl t41 t42 (R_ix hi hR.len _)) (fun a5 e5 => ?_)
  rw [← e5] at h
  have z5 := pz e5 z4
  clear t41 t42
  have t43 := pq e5 z4
  clear e5 z4
  refine qv (v := .pointer (some ⟨g, 73 * i + 69, none⟩)) (by rfl) (exec_fieldAt rfl t43 (fg_89_3 _ _ _)) (fun a6 e6 => ?_)
  rw [← e6] at h
  have z6 := pz e6 z5
  clear t43
  have t44 := pq e6 z5
  clear e6 z5
  refine qv (v := .pointer (some ⟨g, 73 * i + 69 + nb false, none⟩)) (by rfl) (exec_indexAt rfl t44 rfl (ix_a0 _ _)) (fun a7 e7 => ?_)
  rw [← e7] at h
  have z7 := pz e7 z6
  clear t44
  have t45 := pq e7 z6
  clear e7 z6
  refine qv (v := .int .i64 (dn (gt L i) false : Int)) (by rfl) (exec_load rfl t45 (R_dn hR hi false)) (fun a8 e8 => ?_)
  rw [← e8] at h
  have z8 := pz e8 z7
  clear t45
  have t46 := pq e8 z7
  clear e8 z7
  refine qv (v := .int .i64 (dn (gt L i) false : Int)) (by rfl) (exec_assign rfl t46) (fun a9 e9 => ?_)
  rw [← e9] at h
  have z9 := pz e9 z8
  clear t46
  clear e9 z8
  exact wpList_nil (h _ _ (rfl) rfl)
def find5_o0 : Oper := { dst := some 25, op := Op.move (Operand.tmp 0), type := 90, pos := "row.go:242", after := #[], guard := none }
def find5_o1 : Oper := { dst := some 26, op := Op.nilCheck (Operand.tmp 25), type := 0, pos := "row.go:242", after := #[{ on := 0, ground := Ground.data }], guard := none }
def find5_o2 : Oper := { dst := some 27, op := Op.fieldAddr 65 (Operand.tmp 26) 0, type := 0, pos := "row.go:242", after := #[{ on := 1, ground := Ground.data }], guard := none }
def find5_o3 : Oper := { dst := some 28, op := Op.load 63 (Operand.tmp 27), type := 63, pos := "row.go:242", after := #[{ on := 2, ground := Ground.data }], guard := none }
def find5_o4 : Oper := { dst := some 29, op := Op.move (Operand.tmp 7), type := 3, pos := "row.go:242", after := #[], guard := none }
def find5_o5 : Oper := { dst := some 30, op := Op.indexAddr 63 (Operand.tmp 28) (Operand.tmp 29), type := 0, pos := "row.go:242", after := #[{ on := 3, ground := Ground.data }, { on := 4, ground := Ground.data }], guard := none }
def find5_o6 : Oper := { dst := some 31, op := Op.fieldAddr 89 (Operand.tmp 30) 3, type := 0, pos := "row.go:242", after := #[{ on := 5, ground := Ground.data }], guard := none }
def find5_o7 : Oper := { dst := some 32, op := Op.indexAddr 87 (Operand.tmp 31) (Operand.const (Value.int IntKind.i64 1)), type := 0, pos := "row.go:242", after := #[{ on := 6, ground := Ground.data }], guard := none }
def find5_o8 : Oper := { dst := some 33, op := Op.load 3 (Operand.tmp 32), type := 3, pos := "row.go:242", after := #[{ on := 7, ground := Ground.data }], guard := none }
def find5_o9 : Oper := { dst := some 7, op := Op.assign (Operand.tmp 33), type := 3, pos := "row.go:242", after := #[{ on := 8, ground := Ground.data }, { on := 0, ground := Ground.phase }, { on := 1, ground := Ground.phase }, { on := 2, ground := Ground.phase }, { on := 3, ground := Ground.phase }, { on := 4, ground := Ground.phase }, { on := 5, ground := Ground.phase }, { on := 6, ground := Ground.phase }, { on := 7, ground := Ground.phase }, { on := 8, ground := Ground.phase }], guard := none }
def find5_ops : Array Oper := #[find5_o0, find5_o1, find5_o2, find5_o3, find5_o4, find5_o5, find5_o6, find5_o7, find5_o8, find5_o9]
set_option maxRecDepth 100000 in
set_option maxHeartbeats 4000000 in
theorem find5 {rb ro g cap : Nat} {L : List Sp} {i : Nat} (a : Act) (w : World) (Q : Exit → Act → World → Prop) (hsz : a.tmps.size = 52)
    (t0 : a.tmps.getD 0 undef = .pointer (some ⟨rb, ro, none⟩))
    (t7 : a.tmps.getD 7 undef = .int .i64 (i : Int))
    (hR : SqAt w rb ro g cap L) (hi : i < L.length)
    (h : ∀ (a' : Act) (w' : World), w' = w → a' = ((((((((((a).put (some 25) (.pointer (some ⟨rb, ro, none⟩))).put (some 26) (.pointer (some ⟨rb, ro, none⟩))).put (some 27) (.pointer (some ⟨rb, ro + 0, none⟩))).put (some 28) (.slice (some ⟨g, 0, none⟩) (L).length cap)).put (some 29) (.int .i64 (i : Int))).put (some 30) (.pointer (some ⟨g, 73 * i, none⟩))).put (some 31) (.pointer (some ⟨g, 73 * i + 69, none⟩))).put (some 32) (.pointer (some ⟨g, 73 * i + 69 + nb true, none⟩))).put (some 33) (.int .i64 (dn (gt L i) true : Int))).put (some 7) (.int .i64 (dn (gt L i) true : Int)) → Q .normal a' w') :
    (Code.region 5 find5_ops false).wp Try.prog Q a w := by
  refine wp_region_list ?_
  change wpList _ _ _ [find5_o0, find5_o1, find5_o2, find5_o3, find5_o4, find5_o5, find5_o6, find5_o7, find5_o8, find5_o9] _ _
  refine qv (v := .pointer (some ⟨rb, ro, none⟩)) (by rfl) (exec_move rfl t0) (fun a0 e0 => ?_)
  rw [← e0] at h
  have z0 := pz e0 hsz
  replace t7 := pk e0 t7
  clear t0
  have t25 := pq e0 hsz
  clear e0 hsz
  refine qv (v := .pointer (some ⟨rb, ro, none⟩)) (by rfl) (exec_nilCheck rfl t25) (fun a1 e1 => ?_)
  rw [← e1] at h
  have z1 := pz e1 z0
  replace t7 := pk e1 t7
  clear t25
  have t26 := pq e1 z0
  clear e1 z0
  refine qv (v := .pointer (some ⟨rb, ro + 0, none⟩)) (by rfl) (exec_fieldAt rfl t26 (fg_65_0 _ _ _)) (fun a2 e2 => ?_)
  rw [← e2] at h
  have z2 := pz e2 z1
  replace t7 := pk e2 t7
  clear t26
  have t27 := pq e2 z1
  clear e2 z1
  refine qv (v := .slice (some ⟨g, 0, none⟩) (L).length cap) (by rfl) (exec_load rfl t27 (R_sl hR)) (fun a3 e3 => ?_)
  rw [← e3] at h
  have z3 := pz e3 z2
  replace t7 := pk e3 t7
  clear t27
  have t28 := pq e3 z2
  clear e3 z2
  refine qv (v := .int .i64 (i : Int)) (by rfl) (exec_move rfl t7) (fun a4 e4 => ?_)
  rw [← e4] at h
  have z4 := pz e4 z3
  replace t28 := pk e4 t28
  clear t7
  have t29 := pq e4 z3
  clear e4 z3
  refine qv (v := .pointer (some ⟨g, 73 * i, none⟩)) (by rfl) (exec_indexAt rfl t28 t29 (R_ix hi hR.len _)) (fun a5 e5 => ?_)
  rw [← e5] at h
  have z5 := pz e5 z4
  clear t28 t29
  have t30 := pq e5 z4
  clear e5 z4
  refine qv (v := .pointer (some ⟨g, 73 * i + 69, none⟩)) (by rfl) (exec_fieldAt rfl t30 (fg_89_3 _ _ _)) (fun a6 e6 => ?_)
  rw [← e6] at h
  have z6 := pz e6 z5
  clear t30
  have t31 := pq e6 z5
  clear e6 z5
  refine qv (v := .pointer (some ⟨g, 73 * i + 69 + nb true, none⟩)) (by rfl) (exec_indexAt rfl t31 rfl (ix_a1 _ _)) (fun a7 e7 => ?_)
  rw [← e7] at h
  have z7 := pz e7 z6
  clear t31
  have t32 := pq e7 z6
  clear e7 z6
  refine qv (v := .int .i64 (dn (gt L i) true : Int)) (by rfl) (exec_load rfl t32 (R_dn hR hi true)) (fun a8 e8 => ?_)
  rw [← e8] at h
  have z8 := pz e8 z7
  clear t32
  have t33 := pq e8 z7
  clear e8 z7
  refine qv (v := .int .i64 (dn (gt L i) true : Int)) (by rfl) (exec_assign rfl t33) (fun a9 e9 => ?_)
  rw [← e9] at h
  have z9 := pz e9 z8
  clear t33
  clear e9 z8
  exact wpList_nil (h _ _ (rfl) rfl)
end Go.Proofs.Ytpdepbakopdgpaa
