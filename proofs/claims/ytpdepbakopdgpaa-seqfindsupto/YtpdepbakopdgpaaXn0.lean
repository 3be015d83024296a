import Derived.Test.YtpdepbakopdgpaaXm
namespace Go.Proofs.Ytpdepbakopdgpaa
open Go.RowKit Sq
set_option linter.unusedVariables false
set_option linter.unusedSimpArgs false

def CpAt (w : World) (sb : Nat) (s : Sp) : Prop := KpV.ok s.kp ∧ w.heap[sb]? = some (.cells (Sp.c s).toArray 89 (0, 0))
theorem C_cell {w : World} {sb : Nat} {s : Sp} (h : CpAt w sb s) (k : Nat) (v : Value) (hk : (Sp.t s)[k]? = some v) : w.cell? ⟨sb, 67 + k, none⟩ = some v := by
  have := cells_range h.2 (67 + k) v (by rw [Sp.c, List.getElem?_append_right (by rw [KpV.len h.1]; omega), KpV.len h.1, show 67 + k - 67 = k by omega]; exact hk)
  rwa [Nat.zero_add] at this
theorem C_up {w : World} {sb : Nat} {s : Sp} (h : CpAt w sb s) : (Instr.loadAt 3 (.pointer (some ⟨sb, 0 + 68, none⟩))).run Try.prog w = .ok (.int .i64 (s.up : Int)) w := by
  have := C_cell h 1 _ rfl
  go_simp
theorem C_dn {w : World} {sb : Nat} {s : Sp} (h : CpAt w sb s) (b : Bool) : (Instr.loadAt 3 (.pointer (some ⟨sb, 0 + 69 + nb b, none⟩))).run Try.prog w = .ok (.int .i64 (dn s b : Int)) w := by
  have := C_cell h (2 + nb b) (.int .i64 (dn s b : Int)) (by cases b <;> rfl)
  rw [show 67 + (2 + nb b) = 0 + 69 + nb b by omega] at this
  go_simp
theorem ex_subN {w : World} {a : Act} {o : Oper} {x y : Operand} {p n : Nat} (ho : o.op = .binOp .sub 3 x y 3) (hx : a.eval x = .int .i64 (p : Int)) (hy : a.eval y = .int .i64 1) (h : p = n + 1 ∧ n ≤ 1400000000000) : (execOp a.eval o).run Try.prog w = .ok (.value (.int .i64 (n : Int))) w := by
  have := ex_sub (w := w) ho hx hy ⟨by omega, by omega⟩
  rw [this, show (p : Int) - 1 = (n : Int) by omega]
def FS (rb ro g cap N e : Nat) (sv : Value) (w' : World) : Prop := (Instr.loadAt 63 (.pointer (some ⟨rb, ro + 0, none⟩))).run Try.prog w' = .ok (.slice (some ⟨g, 0, none⟩) N cap) w' ∧ (Instr.loadAt 89 (.pointer (some ⟨g, 73 * e, none⟩))).run Try.prog w' = .ok sv w'
def take0_o0 : Oper := { dst := some 6, op := Op.move (Operand.tmp 0), type := 90, pos := "row.go:76", after := #[], guard := none }
def take0_o1 : Oper := { dst := some 7, op := Op.nilCheck (Operand.tmp 6), type := 0, pos := "row.go:76", after := #[{ on := 0, ground := Ground.data }], guard := none }
def take0_o2 : Oper := { dst := some 8, op := Op.fieldAddr 65 (Operand.tmp 7) 0, type := 0, pos := "row.go:76", after := #[{ on := 1, ground := Ground.data }], guard := none }
def take0_o3 : Oper := { dst := some 9, op := Op.load 63 (Operand.tmp 8), type := 63, pos := "row.go:76", after := #[{ on := 2, ground := Ground.data }], guard := none }
def take0_o4 : Oper := { dst := some 10, op := Op.move (Operand.tmp 1), type := 3, pos := "row.go:76", after := #[], guard := none }
def take0_o5 : Oper := { dst := some 11, op := Op.indexAddr 63 (Operand.tmp 9) (Operand.tmp 10), type := 0, pos := "row.go:76", after := #[{ on := 3, ground := Ground.data }, { on := 4, ground := Ground.data }], guard := none }
def take0_o6 : Oper := { dst := some 12, op := Op.load 89 (Operand.tmp 11), type := 89, pos := "row.go:76", after := #[{ on := 5, ground := Ground.data }], guard := none }
def take0_o7 : Oper := { dst := some 4, op := Op.alloc 89, type := 0, pos := "row.go:76", after := #[], guard := none }
def take0_o8 : Oper := { dst := none, op := Op.store 89 (Operand.tmp 4) (Operand.tmp 12), type := 0, pos := "row.go:76", after := #[{ on := 7, ground := Ground.data }, { on := 6, ground := Ground.data }, { on := 0, ground := Ground.phase }, { on := 1, ground := Ground.phase }, { on := 2, ground := Ground.phase }, { on := 3, ground := Ground.phase }, { on := 4, ground := Ground.phase }, { on := 5, ground := Ground.phase }, { on := 6, ground := Ground.phase }, { on := 7, ground := Ground.phase }], guard := none }
def take0_ops : Array Oper := #[take0_o0, take0_o1, take0_o2, take0_o3, take0_o4, take0_o5, take0_o6, take0_o7, take0_o8]
set_option maxRecDepth 100000 in
set_option maxHeartbeats 4000000 in
theorem take0 {rb ro g cap : Nat} {L : List Sp} {i sb : Nat} {w1 w2 : World} (a : Act) (w : World) (Q : Exit → Act → World → Prop) (hsz : a.tmps.size = 46)
    (t0 : a.tmps.getD 0 undef = .pointer (some ⟨rb, ro, none⟩))
    (t1 : a.tmps.getD 1 undef = .int .i64 (i : Int))
    (hR : SqAt w rb ro g cap L) (hi : i < L.length) (EA : (Instr.alloc 89 true (.tuple #[])).run Try.prog w = .ok (.pointer (some ⟨sb, 0, none⟩)) w1) (ES : (Instr.storeAt 89 (.pointer (some ⟨sb, 0, none⟩)) (Sp.v (gt L i))).run Try.prog w1 = .ok () w2)
    (h : ∀ (a' : Act) (w' : World), w' = w2 → a' = ((((((((a).put (some 6) (.pointer (some ⟨rb, ro, none⟩))).put (some 7) (.pointer (some ⟨rb, ro, none⟩))).put (some 8) (.pointer (some ⟨rb, ro + 0, none⟩))).put (some 9) (.slice (some ⟨g, 0, none⟩) (L).length cap)).put (some 10) (.int .i64 (i : Int))).put (some 11) (.pointer (some ⟨g, 73 * i, none⟩))).put (some 12) (Sp.v (gt L i))).put (some 4) (.pointer (some ⟨sb, 0, none⟩)) → Q .normal a' w') :
    (Code.region 0 take0_ops false).wp Try.prog Q a w := by
  refine wp_region_list ?_
  change wpList _ _ _ [take0_o0, take0_o1, take0_o2, take0_o3, take0_o4, take0_o5, take0_o6, take0_o7, take0_o8] _ _
  refine qv (v := .pointer (some ⟨rb, ro, none⟩)) (by rfl) (exec_move rfl t0) (fun a0 e0 => ?_)
  rw [← e0] at h
  have z0 := pz e0 hsz
  replace t1 := pk e0 t1
  clear t0
  have t6 := pq e0 hsz
  clear e0 hsz
  refine qv (v := .pointer (some ⟨rb, ro, none⟩)) (by rfl) (exec_nilCheck rfl t6) (fun a1 e1 => ?_)
  rw [← e1] at h
  have z1 := pz e1 z0
  replace t1 := pk e1 t1
  clear t6
  have t7 := pq e1 z0
  clear e1 z0
  refine qv (v := .pointer (some ⟨rb, ro + 0, none⟩)) (by rfl) (exec_fieldAt rfl t7 (fg_65_0 _ _ _)) (fun a2 e2 => ?_)
  rw [← e2] at h
  have z2 := pz e2 z1
  replace t1 := pk e2 t1
  clear t7
  have t8 := pq e2 z1
  clear e2 z1
  refine qv (v := .slice (some ⟨g, 0, none⟩) (L).length cap) (by rfl) (exec_load rfl t8 (R_sl hR)) (fun a3 e3 => ?_)
  rw [← e3] at h
  have z3 := pz e3 z2
  replace t1 := pk e3 t1
  clear t8
  have t9 := pq e3 z2
  clear e3 z2
  refine qv (v := .int .i64 (i : Int)) (by rfl) (exec_move rfl t1) (fun a4 e4 => ?_)
  rw [← e4] at h
  have z4 := pz e4 z3
  replace t9 := pk e4 t9
  clear t1
  have t10 := pq e4 z3
  clear e4 z3
  refine qv (v := .pointer (some ⟨g, 73 * i, none⟩)) (by rfl) (exec_indexAt rfl t9 t10 (R_ix hi hR.len _)) (fun a5 e5 => ?_)
  rw [← e5] at h
  have z5 := pz e5 z4
  clear t9 t10
  have t11 := pq e5 z4
  clear e5 z4
  refine qv (v := Sp.v (gt L i)) (by rfl) (exec_load rfl t11 (R_sp hR hi)) (fun a6 e6 => ?_)
  rw [← e6] at h
  have z6 := pz e6 z5
  clear t11
  have t12 := pq e6 z5
  clear e6 z5
  refine qk (v := .pointer (some ⟨sb, 0, none⟩)) (by rfl) (exec_alloc rfl EA) (fun a7 e7 => ?_)
  rw [← e7] at h
  have z7 := pz e7 z6
  replace t12 := pk e7 t12
  have t4 := pq e7 z6
  clear e7 z6
  refine qs (by rfl) (exec_store rfl t4 t12 ES) ?_
  exact wpList_nil (h _ _ (rfl) rfl)
def take1_o0 : Oper := { dst := some 13, op := Op.fieldAddr 89 (Operand.tmp 4) 2, type := 0, pos := "row.go:77", after := #[], guard := none }
def take1_o1 : Oper := { dst := some 14, op := Op.load 3 (Operand.tmp 13), type := 3, pos := "row.go:77", after := #[{ on := 0, ground := Ground.data }], guard := none }
def take1_o2 : Oper := { dst := some 5, op := Op.assign (Operand.tmp 14), type := 3, pos := "row.go:77", after := #[{ on := 1, ground := Ground.data }, { on := 0, ground := Ground.phase }, { on := 1, ground := Ground.phase }], guard := none }
def take1_ops : Array Oper := #[take1_o0, take1_o1, take1_o2]
set_option maxRecDepth 100000 in
set_option maxHeartbeats 4000000 in
theorem take1 {sb : Nat} {s : Sp} (a : Act) (w : World) (Q : Exit → Act → World → Prop) (hsz : a.tmps.size = 46)
    (t4 : a.tmps.getD 4 undef = .pointer (some ⟨sb, 0, none⟩))
    (hC : CpAt w sb s)
    (h : ∀ (a' : Act) (w' : World), w' = w → a' = (((a).put (some 13) (.pointer (some ⟨sb, 0 + 68, none⟩))).put (some 14) (.int .i64 (s.up : Int))).put (some 5) (.int .i64 (s.up : Int)) → Q .normal a' w') :
    (Code.region 1 take1_ops false).wp Try.prog Q a w := by
  refine wp_region_list ?_
  change wpList _ _ _ [take1_o0, take1_o1, take1_o2] _ _
  refine qv (v := .pointer (some ⟨sb, 0 + 68, none⟩)) (by rfl) (exec_fieldAt rfl t4 (fg_89_2 _ _ _)) (fun a0 e0 => ?_)
  rw [← e0] at h
  have z0 := pz e0 hsz
  clear t4
  have t13 := pq e0 hsz
  clear e0 hsz
  refine qv (v := .int .i64 (s.up : Int)) (by rfl) (exec_load rfl t13 (C_up hC)) (fun a1 e1 => ?_)
  rw [← e1] at h
  have z1 := pz e1 z0
  clear t13
  have t14 := pq e1 z0
  clear e1 z0
  refine qv (v := .int .i64 (s.up : Int)) (by rfl) (exec_assign rfl t14) (fun a2 e2 => ?_)
  rw [← e2] at h
  have z2 := pz e2 z1
  clear t14
  clear e2 z1
  exact wpList_nil (h _ _ (rfl) rfl)
def take3_o0 : Oper := { dst := some 19, op := Op.fieldAddr 89 (Operand.tmp 4) 3, type := 0, pos := "row.go:79", after := #[], guard := none }
def take3_o1 : Oper := { dst := some 20, op := Op.indexAddr 87 (Operand.tmp 19) (Operand.const (Value.int IntKind.i64 0)), type := 0, pos := "row.go:79", after := #[{ on := 0, ground := Ground.data }], guard := none }
def take3_o2 : Oper := { dst := some 21, op := Op.load 3 (Operand.tmp 20), type := 3, pos := "row.go:79", after := #[{ on := 1, ground := Ground.data }], guard := none }
def take3_o3 : Oper := { dst := some 22, op := Op.binOp BinOp.eql 3 (Operand.const (Value.int IntKind.i64 0)) (Operand.tmp 21) 3, type := 4, pos := "row.go:79", after := #[{ on := 2, ground := Ground.data }], guard := none }
def take3_o4 : Oper := { dst := some 18, op := Op.assign (Operand.tmp 22), type := 4, pos := "row.go:79", after := #[{ on := 3, ground := Ground.data }], guard := none }
def take3_ops : Array Oper := #[take3_o0, take3_o1, take3_o2, take3_o3, take3_o4]
set_option maxRecDepth 100000 in
set_option maxHeartbeats 4000000 in
theorem take3 {sb : Nat} {s : Sp} {r : Bool} (a : Act) (w : World) (Q : Exit → Act → World → Prop) (hsz : a.tmps.size = 46)
    (t4 : a.tmps.getD 4 undef = .pointer (some ⟨sb, 0, none⟩))
    (hC : CpAt w sb s) (hr : decide ((0 : Int) = (dn s false : Int)) = r)
    (h : ∀ (a' : Act) (w' : World), w' = w → a' = (((((a).put (some 19) (.pointer (some ⟨sb, 0 + 69, none⟩))).put (some 20) (.pointer (some ⟨sb, 0 + 69 + nb false, none⟩))).put (some 21) (.int .i64 (dn s false : Int))).put (some 22) (.bool r)).put (some 18) (.bool r) → Q .normal a' w') :
    (Code.region 3 take3_ops false).wp Try.prog Q a w := by
  refine wp_region_list ?_
  change wpList _ _ _ [take3_o0, take3_o1, take3_o2, take3_o3, take3_o4] _ _
  refine qv (v := .pointer (some ⟨sb, 0 + 69, none⟩)) (by rfl) (exec_fieldAt rfl t4 (fg_89_3 _ _ _)) (fun a0 e0 => ?_)
  rw [← e0] at h
  have z0 := pz e0 hsz
  clear t4
  have t19 := pq e0 hsz
  clear e0 hsz
  refine qv (v := .pointer (some ⟨sb, 0 + 69 + nb false, none⟩)) (by rfl) (exec_indexAt rfl t19 rfl (ix_a0 _ _)) (fun a1 e1 => ?_)
  rw [← e1] at h
  have z1 := pz e1 z0
  clear t19
  have t20 := pq e1 z0
  clear e1 z0
  refine qv (v := .int .i64 (dn s false : Int)) (by rfl) (exec_load rfl t20 (C_dn hC false)) (fun a2 e2 => ?_)
  rw [← e2] at h
  have z2 := pz e2 z1
  clear t20
  have t21 := pq e2 z1
  clear e2 z1
  refine qv (v := .bool r) (by rfl) (ex_eql rfl rfl t21 hr) (fun a3 e3 => ?_)
  rw [← e3] at h
  have z3 := pz e3 z2
  clear t21
  have t22 := pq e3 z2
  clear e3 z2
  refine qv (v := .bool r) (by rfl) (exec_assign rfl t22) (fun a4 e4 => ?_)
  rw [← e4] at h
  have z4 := pz e4 z3
  clear t22
  clear e4 z3
  exact wpList_nil (h _ _ (rfl) rfl)
def take4_o0 : Oper := { dst := some 23, op := Op.move (Operand.tmp 0), type := 90, pos := "row.go:80", after := #[], guard := none }
def take4_o1 : Oper := { dst := some 24, op := Op.move (Operand.tmp 1), type := 3, pos := "row.go:80", after := #[], guard := none }
def take4_o2 : Oper := { dst := some 25, op := Op.fieldAddr 89 (Operand.tmp 4) 3, type := 0, pos := "row.go:80", after := #[], guard := none }
def take4_o3 : Oper := { dst := some 26, op := Op.indexAddr 87 (Operand.tmp 25) (Operand.const (Value.int IntKind.i64 1)), type := 0, pos := "row.go:80", after := #[{ on := 2, ground := Ground.data }], guard := none }
def take4_o4 : Oper := { dst := some 27, op := Op.load 3 (Operand.tmp 26), type := 3, pos := "row.go:80", after := #[{ on := 3, ground := Ground.data }], guard := none }
def take4_o5 : Oper := { dst := some 28, op := Op.call { callee := Callee.value (Operand.func 62), args := #[Operand.tmp 23, Operand.tmp 24, Operand.tmp 27], argTypes := #[90, 3, 3] }, type := 0, pos := "row.go:80", after := #[{ on := 0, ground := Ground.data }, { on := 1, ground := Ground.data }, { on := 4, ground := Ground.data }], guard := none }
def take4_ops : Array Oper := #[take4_o0, take4_o1, take4_o2, take4_o3, take4_o4, take4_o5]
set_option maxRecDepth 100000 in
set_option maxHeartbeats 4000000 in
theorem take4 {rb ro i sb : Nat} {s : Sp} (Fin : World → Prop) (a : Act) (w : World) (Q : Exit → Act → World → Prop) (hsz : a.tmps.size = 46)
    (t0 : a.tmps.getD 0 undef = .pointer (some ⟨rb, ro, none⟩))
    (t1 : a.tmps.getD 1 undef = .int .i64 (i : Int))
    (t4 : a.tmps.getD 4 undef = .pointer (some ⟨sb, 0, none⟩))
    (hC : CpAt w sb s) (CR : Calls Try.prog 62 #[.pointer (some ⟨rb, ro, none⟩), .int .i64 (i : Int), .int .i64 (dn s true : Int)] w fun e w' => e = .returned (.tuple #[]) ∧ Fin w')
    (h : ∀ (a' : Act) (w' : World), Fin w' → a' = ((((((a).put (some 23) (.pointer (some ⟨rb, ro, none⟩))).put (some 24) (.int .i64 (i : Int))).put (some 25) (.pointer (some ⟨sb, 0 + 69, none⟩))).put (some 26) (.pointer (some ⟨sb, 0 + 69 + nb true, none⟩))).put (some 27) (.int .i64 (dn s true : Int))).put (some 28) (.tuple #[]) → Q .normal a' w') :
    (Code.region 4 take4_ops false).wp Try.prog Q a w := by
  refine wp_region_list ?_
  change wpList _ _ _ [take4_o0, take4_o1, take4_o2, take4_o3, take4_o4, take4_o5] _ _
  refine qv (v := .pointer (some ⟨rb, ro, none⟩)) (by rfl) (exec_move rfl t0) (fun a0 e0 => ?_)
  rw [← e0] at h
  have z0 := pz e0 hsz
  replace t1 := pk e0 t1
  replace t4 := pk e0 t4
  clear t0
  have t23 := pq e0 hsz
  clear e0 hsz
  refine qv (v := .int .i64 (i : Int)) (by rfl) (exec_move rfl t1) (fun a1 e1 => ?_)
  rw [← e1] at h
  have z1 := pz e1 z0
  replace t4 := pk e1 t4
  replace t23 := pk e1 t23
  clear t1
  have t24 := pq e1 z0
  clear e1 z0
  refine qv (v := .pointer (some ⟨sb, 0 + 69, none⟩)) (by rfl) (exec_fieldAt rfl t4 (fg_89_3 _ _ _)) (fun a2 e2 => ?_)
  rw [← e2] at h
  have z2 := pz e2 z1
  replace t23 := pk e2 t23
  replace t24 := pk e2 t24
  clear t4
  have t25 := pq e2 z1
  clear e2 z1
  refine qv (v := .pointer (some ⟨sb, 0 + 69 + nb true, none⟩)) (by rfl) (exec_indexAt rfl t25 rfl (ix_a1 _ _)) (fun a3 e3 => ?_)
  rw [← e3] at h
  have z3 := pz e3 z2
  replace t23 := pk e3 t23
  replace t24 := pk e3 t24
  clear t25
  have t26 := pq e3 z2
  clear e3 z2
  refine qv (v := .int .i64 (dn s true : Int)) (by rfl) (exec_load rfl t26 (C_dn hC true)) (fun a4 e4 => ?_)
  rw [← e4] at h
  have z4 := pz e4 z3
  replace t23 := pk e4 t23
  replace t24 := pk e4 t24
  clear t26
  have t27 := pq e4 z3
  clear e4 z3
  refine qc (by rfl) (by unfold take4_o5; go_simp) (CR) (fun e x5 hx => ?_)
  obtain ⟨rfl, HF⟩ := hx
  refine ⟨_, rfl, fun a5 e5 => ?_⟩
  rw [← e5] at h
  have z5 := pz e5 z4
  clear t23 t24 t27
  clear e5 z4
  exact wpList_nil (h _ _ (HF) rfl)
def take5_o0 : Oper := { dst := some 30, op := Op.fieldAddr 89 (Operand.tmp 4) 3, type := 0, pos := "row.go:81", after := #[], guard := none }
def take5_o1 : Oper := { dst := some 31, op := Op.indexAddr 87 (Operand.tmp 30) (Operand.const (Value.int IntKind.i64 1)), type := 0, pos := "row.go:81", after := #[{ on := 0, ground := Ground.data }], guard := none }
def take5_o2 : Oper := { dst := some 32, op := Op.load 3 (Operand.tmp 31), type := 3, pos := "row.go:81", after := #[{ on := 1, ground := Ground.data }], guard := none }
def take5_o3 : Oper := { dst := some 33, op := Op.binOp BinOp.eql 3 (Operand.const (Value.int IntKind.i64 0)) (Operand.tmp 32) 3, type := 4, pos := "row.go:81", after := #[{ on := 2, ground := Ground.data }], guard := none }
def take5_o4 : Oper := { dst := some 29, op := Op.assign (Operand.tmp 33), type := 4, pos := "row.go:81", after := #[{ on := 3, ground := Ground.data }], guard := none }
def take5_ops : Array Oper := #[take5_o0, take5_o1, take5_o2, take5_o3, take5_o4]
set_option maxRecDepth 100000 in
set_option maxHeartbeats 4000000 in
theorem take5 {sb : Nat} {s : Sp} {r : Bool} (a : Act) (w : World) (Q : Exit → Act → World → Prop) (hsz : a.tmps.size = 46)
    (t4 : a.tmps.getD 4 undef = .pointer (some ⟨sb, 0, none⟩))
    (hC : CpAt w sb s) (hr : decide ((0 : Int) = (dn s true : Int)) = r)
    (h : ∀ (a' : Act) (w' : World), w' = w → a' = (((((a).put (some 30) (.pointer (some ⟨sb, 0 + 69, none⟩))).put (some 31) (.pointer (some ⟨sb, 0 + 69 + nb true, none⟩))).put (some 32) (.int .i64 (dn s true : Int))).put (some 33) (.bool r)).put (some 29) (.bool r) → Q .normal a' w') :
    (Code.region 5 take5_ops false).wp Try.prog Q a w := by
  refine wp_region_list ?_
  change wpList _ _ _ [take5_o0, take5_o1, take5_o2, take5_o3, take5_o4] _ _
  refine qv (v := .pointer (some ⟨sb, 0 + 69, none⟩)) (by rfl) (exec_fieldAt rfl t4 (fg_89_3 _ _ _)) (fun a0 e0 => ?_)
  rw [← e0] at h
  have z0 := pz e0 hsz
  clear t4
  have t30 := pq e0 hsz
  clear e0 hsz
  refine qv (v := .pointer (some ⟨sb, 0 + 69 + nb true, none⟩)) (by rfl) (exec_indexAt rfl t30 rfl (ix_a1 _ _)) (fun a1 e1 => ?_)
  rw [← e1] at h
  have z1 := pz e1 z0
  clear t30
  have t31 := pq e1 z0
  clear e1 z0
  refine qv (v := .int .i64 (dn s true : Int)) (by rfl) (exec_load rfl t31 (C_dn hC true)) (fun a2 e2 => ?_)
  rw [← e2] at h
  have z2 := pz e2 z1
  clear t31
  have t32 := pq e2 z1
  clear e2 z1
  refine qv (v := .bool r) (by rfl) (ex_eql rfl rfl t32 hr) (fun a3 e3 => ?_)
  rw [← e3] at h
  have z3 := pz e3 z2
  clear t32
  have t33 := pq e3 z2
  clear e3 z2
  refine qv (v := .bool r) (by rfl) (exec_assign rfl t33) (fun a4 e4 => ?_)
  rw [← e4] at h
  have z4 := pz e4 z3
  clear t33
  clear e4 z3
  exact wpList_nil (h _ _ (rfl) rfl)
def take6_o0 : Oper := { dst := some 34, op := Op.move (Operand.tmp 0), type := 90, pos := "row.go:82", after := #[], guard := none }
def take6_o1 : Oper := { dst := some 35, op := Op.move (Operand.tmp 1), type := 3, pos := "row.go:82", after := #[], guard := none }
def take6_o2 : Oper := { dst := some 36, op := Op.fieldAddr 89 (Operand.tmp 4) 3, type := 0, pos := "row.go:82", after := #[], guard := none }
def take6_o3 : Oper := { dst := some 37, op := Op.indexAddr 87 (Operand.tmp 36) (Operand.const (Value.int IntKind.i64 0)), type := 0, pos := "row.go:82", after := #[{ on := 2, ground := Ground.data }], guard := none }
def take6_o4 : Oper := { dst := some 38, op := Op.load 3 (Operand.tmp 37), type := 3, pos := "row.go:82", after := #[{ on := 3, ground := Ground.data }], guard := none }
def take6_o5 : Oper := { dst := some 39, op := Op.call { callee := Callee.value (Operand.func 62), args := #[Operand.tmp 34, Operand.tmp 35, Operand.tmp 38], argTypes := #[90, 3, 3] }, type := 0, pos := "row.go:82", after := #[{ on := 0, ground := Ground.data }, { on := 1, ground := Ground.data }, { on := 4, ground := Ground.data }], guard := none }
def take6_ops : Array Oper := #[take6_o0, take6_o1, take6_o2, take6_o3, take6_o4, take6_o5]
set_option maxRecDepth 100000 in
set_option maxHeartbeats 4000000 in
theorem take6 {rb ro i sb : Nat} {s : Sp} (Fin : World → Prop) (a : Act) (w : World) (Q : Exit → Act → World → Prop) (hsz : a.tmps.size = 46)
    (t0 : a.tmps.getD 0 undef = .pointer (some ⟨rb, ro, none⟩))
    (t1 : a.tmps.getD 1 undef = .int .i64 (i : Int))
    (t4 : a.tmps.getD 4 undef = .pointer (some ⟨sb, 0, none⟩))
    (hC : CpAt w sb s) (CR : Calls Try.prog 62 #[.pointer (some ⟨rb, ro, none⟩), .int .i64 (i : Int), .int .i64 (dn s false : Int)] w fun e w' => e = .returned (.tuple #[]) ∧ Fin w')
    (h : ∀ (a' : Act) (w' : World), Fin w' → a' = ((((((a).put (some 34) (.pointer (some ⟨rb, ro, none⟩))).put (some 35) (.int .i64 (i : Int))).put (some 36) (.pointer (some ⟨sb, 0 + 69, none⟩))).put (some 37) (.pointer (some ⟨sb, 0 + 69 + nb false, none⟩))).put (some 38) (.int .i64 (dn s false : Int))).put (some 39) (.tuple #[]) → Q .normal a' w') :
    (Code.region 6 take6_ops false).wp Try.prog Q a w := by
  refine wp_region_list ?_
  change wpList _ _ _ [take6_o0, take6_o1, take6_o2, take6_o3, take6_o4, take6_o5] _ _
  refine qv (v := .pointer (some ⟨rb, ro, none⟩)) (by rfl) (exec_move rfl t0) (fun a0 e0 => ?_)
  rw [← e0] at h
  have z0 := pz e0 hsz
  replace t1 := pk e0 t1
  replace t4 := pk e0 t4
  clear t0
  have t34 := pq e0 hsz
  clear e0 hsz
  refine qv (v := .int .i64 (i : Int)) (by rfl) (exec_move rfl t1) (fun a1 e1 => ?_)
  rw [← e1] at h
  have z1 := pz e1 z0
  replace t4 := pk e1 t4
  replace t34 := pk e1 t34
  clear t1
  have t35 := pq e1 z0
  clear e1 z0
  refine qv (v := .pointer (some ⟨sb, 0 + 69, none⟩)) (by rfl) (exec_fieldAt rfl t4 (fg_89_3 _ _ _)) (fun a2 e2 => ?_)
  rw [← e2] at h
  have z2 := pz e2 z1
  replace t34 := pk e2 t34
  replace t35 := pk e2 t35
  clear t4
  have t36 := pq e2 z1
  clear e2 z1
  refine qv (v := .pointer (some ⟨sb, 0 + 69 + nb false, none⟩)) (by rfl) (exec_indexAt rfl t36 rfl (ix_a0 _ _)) (fun a3 e3 => ?_)
  rw [← e3] at h
  have z3 := pz e3 z2
  replace t34 := pk e3 t34
  replace t35 := pk e3 t35
  clear t36
  have t37 := pq e3 z2
  clear e3 z2
  refine qv (v := .int .i64 (dn s false : Int)) (by rfl) (exec_load rfl t37 (C_dn hC false)) (fun a4 e4 => ?_)
  rw [← e4] at h
  have z4 := pz e4 z3
  replace t34 := pk e4 t34
  replace t35 := pk e4 t35
  clear t37
  have t38 := pq e4 z3
  clear e4 z3
  refine qc (by rfl) (by unfold take6_o5; go_simp) (CR) (fun e x5 hx => ?_)
  obtain ⟨rfl, HF⟩ := hx
  refine ⟨_, rfl, fun a5 e5 => ?_⟩
  rw [← e5] at h
  have z5 := pz e5 z4
  clear t34 t35 t38
  clear e5 z4
  exact wpList_nil (h _ _ (HF) rfl)
def rbn1_o0 : Oper := { dst := some 9, op := Op.move (Operand.tmp 0), type := 90, pos := "row.go:92", after := #[], guard := none }
def rbn1_o1 : Oper := { dst := some 10, op := Op.move (Operand.tmp 0), type := 90, pos := "row.go:92", after := #[], guard := none }
def rbn1_o2 : Oper := { dst := some 11, op := Op.nilCheck (Operand.tmp 10), type := 0, pos := "row.go:92", after := #[{ on := 1, ground := Ground.data }], guard := none }
def rbn1_o3 : Oper := { dst := some 12, op := Op.fieldAddr 65 (Operand.tmp 11) 0, type := 0, pos := "row.go:92", after := #[{ on := 2, ground := Ground.data }], guard := none }
def rbn1_o4 : Oper := { dst := some 13, op := Op.load 63 (Operand.tmp 12), type := 63, pos := "row.go:92", after := #[{ on := 3, ground := Ground.data }], guard := none }
def rbn1_o5 : Oper := { dst := some 14, op := Op.move (Operand.tmp 1), type := 3, pos := "row.go:92", after := #[], guard := none }
def rbn1_o6 : Oper := { dst := some 15, op := Op.indexAddr 63 (Operand.tmp 13) (Operand.tmp 14), type := 0, pos := "row.go:92", after := #[{ on := 4, ground := Ground.data }, { on := 5, ground := Ground.data }], guard := none }
def rbn1_o7 : Oper := { dst := some 16, op := Op.fieldAddr 89 (Operand.tmp 15) 3, type := 0, pos := "row.go:92", after := #[{ on := 6, ground := Ground.data }], guard := none }
def rbn1_o8 : Oper := { dst := some 17, op := Op.indexAddr 87 (Operand.tmp 16) (Operand.const (Value.int IntKind.i64 1)), type := 0, pos := "row.go:92", after := #[{ on := 7, ground := Ground.data }], guard := none }
def rbn1_o9 : Oper := { dst := some 18, op := Op.load 3 (Operand.tmp 17), type := 3, pos := "row.go:92", after := #[{ on := 8, ground := Ground.data }], guard := none }
def rbn1_o10 : Oper := { dst := some 19, op := Op.call { callee := Callee.value (Operand.func 60), args := #[Operand.tmp 9, Operand.tmp 18], argTypes := #[90, 3] }, type := 3, pos := "row.go:92", after := #[{ on := 0, ground := Ground.data }, { on := 9, ground := Ground.data }], guard := none }
def rbn1_o11 : Oper := { dst := some 5, op := Op.assign (Operand.tmp 19), type := 3, pos := "row.go:92", after := #[{ on := 10, ground := Ground.data }, { on := 10, ground := Ground.chain }, { on := 0, ground := Ground.phase }, { on := 1, ground := Ground.phase }, { on := 2, ground := Ground.phase }, { on := 3, ground := Ground.phase }, { on := 4, ground := Ground.phase }, { on := 5, ground := Ground.phase }, { on := 6, ground := Ground.phase }, { on := 7, ground := Ground.phase }, { on := 8, ground := Ground.phase }, { on := 9, ground := Ground.phase }, { on := 10, ground := Ground.phase }], guard := none }
def rbn1_ops : Array Oper := #[rbn1_o0, rbn1_o1, rbn1_o2, rbn1_o3, rbn1_o4, rbn1_o5, rbn1_o6, rbn1_o7, rbn1_o8, rbn1_o9, rbn1_o10, rbn1_o11]
set_option maxRecDepth 100000 in
set_option maxHeartbeats 4000000 in
theorem rbn1 {rb ro g cap : Nat} {L : List Sp} {i m : Nat} (Fin : World → Prop) (a : Act) (w : World) (Q : Exit → Act → World → Prop) (hsz : a.tmps.size = 67)
    (t0 : a.tmps.getD 0 undef = .pointer (some ⟨rb, ro, none⟩))
    (t1 : a.tmps.getD 1 undef = .int .i64 (i : Int))
    (hR : SqAt w rb ro g cap L) (hi : i < L.length) (CF : Calls Try.prog 60 #[.pointer (some ⟨rb, ro, none⟩), .int .i64 (dn (gt L i) true : Int)] w fun e w' => e = .returned (.int .i64 (m : Int)) ∧ Fin w')
    (h : ∀ (a' : Act) (w' : World), Fin w' → a' = ((((((((((((a).put (some 9) (.pointer (some ⟨rb, ro, none⟩))).put (some 10) (.pointer (some ⟨rb, ro, none⟩))).put (some 11) (.pointer (some ⟨rb, ro, none⟩))).put (some 12) (.pointer (some ⟨rb, ro + 0, none⟩))).put (some 13) (.slice (some ⟨g, 0, none⟩) (L).length cap)).put (some 14) (.int .i64 (i : Int))).put (some 15) (.pointer (some ⟨g, 73 * i, none⟩))).put (some 16) (.pointer (some ⟨g, 73 * i + 69, none⟩))).put (some 17) (.pointer (some ⟨g, 73 * i + 69 + nb true, none⟩))).put (some 18) (.int .i64 (dn (gt L i) true : Int))).put (some 19) (.int .i64 (m : Int))).put (some 5) (.int .i64 (m : Int)) → Q .normal a' w') :
    (Code.region 1 rbn1_ops false).wp Try.prog Q a w := by
  refine wp_region_list ?_
  change wpList _ _ _ [rbn1_o0, rbn1_o1, rbn1_o2, rbn1_o3, rbn1_o4, rbn1_o5, rbn1_o6, rbn1_o7, rbn1_o8, rbn1_o9, rbn1_o10, rbn1_o11] _ _
  refine qv (v := .pointer (some ⟨rb, ro, none⟩)) (by rfl) (exec_move rfl t0) (fun a0 e0 => ?_)
  rw [← e0] at h
  have z0 := pz e0 hsz
  replace t0 := pk e0 t0
  replace t1 := pk e0 t1
  have t9 := pq e0 hsz
  clear e0 hsz
  refine qv (v := .pointer (some ⟨rb, ro, none⟩)) (by rfl) (exec_move rfl t0) (fun a1 e1 => ?_)
  rw [← e1] at h
  have z1 := pz e1 z0
  replace t1 := pk e1 t1
  replace t9 := pk e1 t9
  clear t0
  have t10 := pq e1 z0
  clear e1 z0
  refine qv (v := .pointer (some ⟨rb, ro, none⟩)) (by rfl) (exec_nilCheck rfl t10) (fun a2 e2 => ?_)
  rw [← e2] at h
  have z2 := pz e2 z1
  replace t1 := pk e2 t1
  replace t9 := pk e2 t9
  clear t10
  have t11 := pq e2 z1
  clear e2 z1
  refine qv (v := .pointer (some ⟨rb, ro + 0, none⟩)) (by rfl) (exec_fieldAt rfl t11 (fg_65_0 _ _ _)) (fun a3 e3 => ?_)
  rw [← e3] at h
  have z3 := pz e3 z2
  replace t1 := pk e3 t1
  replace t9 := pk e3 t9
  clear t11
  have t12 := pq e3 z2
  clear e3 z2
  refine qv (v := .slice (some ⟨g, 0, none⟩) (L).length cap) (by rfl) (exec_load rfl t12 (R_sl hR)) (fun a4 e4 => ?_)
  rw [← e4] at h
  have z4 := pz e4 z3
  replace t1 := pk e4 t1
  replace t9 := pk e4 t9
  clear t12
  have t13 := pq e4 z3
  clear e4 z3
  refine qv (v := .int .i64 (i : Int)) (by rfl) (exec_move rfl t1) (fun a5 e5 => ?_)
  rw [← e5] at h
  have z5 := pz e5 z4
  replace t9 := pk e5 t9
  replace t13 := pk e5 t13
  clear t1
  have t14 := pq e5 z4
  clear e5 z4
  refine qv (v := .pointer (some ⟨g, 73 * i, none⟩)) (by rfl) (exec_indexAt rfl t13 t14 (R_ix hi hR.len _)) (fun a6 e6 => ?_)
  rw [← e6] at h
  have z6 := pz e6 z5
  replace t9 := pk e6 t9
  clear t13 t14
  have t15 := pq e6 z5
  clear e6 z5
  refine qv (v := .pointer (some ⟨g, 73 * i + 69, none⟩)) (by rfl) (exec_fieldAt rfl t15 (fg_89_3 _ _ _)) (fun a7 e7 => ?_)
  rw [← e7] at h
  have z7 := pz e7 z6
  replace t9 := pk e7 t9
  clear t15
  have t16 := pq e7 z6
  clear e7 z6
  refine qv (v := .pointer (some ⟨g, 73 * i + 69 + nb true, none⟩)) (by rfl) (exec_indexAt rfl t16 rfl (ix_a1 _ _)) (fun a8 e8 => ?_)
  rw [← e8] at h
  have z8 := pz e8 z7
  replace t9 := pk e8 t9
  clear t16
  have t17 := pq e8 z7
  clear e8 z7
  refine qv (v := .int .i64 (dn (gt L i) true : Int)) (by rfl) (exec_load rfl t17 (R_dn hR hi true)) (fun a9 e9 => ?_)
  rw [← e9] at h
  have z9 := pz e9 z8
  replace t9 := pk e9 t9
  clear t17
  have t18 := pq e9 z8
  clear e9 z8
  refine qc (by rfl) (by unfold rbn1_o10; go_simp) (CF) (fun e x10 hx => ?_)
  obtain ⟨rfl, HF⟩ := hx
  refine ⟨_, rfl, fun a10 e10 => ?_⟩
  rw [← e10] at h
  have z10 := pz e10 z9
  clear t9 t18
  have t19 := pq e10 z9
  clear e10 z9
  refine qv (v := .int .i64 (m : Int)) (by rfl) (exec_assign rfl t19) (fun a11 e11 => ?_)
  rw [← e11] at h
  have z11 := pz e11 z10
  clear t19
  clear e11 z10
  exact wpList_nil (h _ _ (HF) rfl)
def rbn2_o0 : Oper := { dst := some 20, op := Op.move (Operand.tmp 0), type := 90, pos := "row.go:93", after := #[], guard := none }
def rbn2_o1 : Oper := { dst := some 21, op := Op.nilCheck (Operand.tmp 20), type := 0, pos := "row.go:93", after := #[{ on := 0, ground := Ground.data }], guard := none }
def rbn2_o2 : Oper := { dst := some 22, op := Op.fieldAddr 65 (Operand.tmp 21) 0, type := 0, pos := "row.go:93", after := #[{ on := 1, ground := Ground.data }], guard := none }
def rbn2_o3 : Oper := { dst := some 23, op := Op.load 63 (Operand.tmp 22), type := 63, pos := "row.go:93", after := #[{ on := 2, ground := Ground.data }], guard := none }
def rbn2_o4 : Oper := { dst := some 24, op := Op.move (Operand.tmp 5), type := 3, pos := "row.go:93", after := #[], guard := none }
def rbn2_o5 : Oper := { dst := some 25, op := Op.indexAddr 63 (Operand.tmp 23) (Operand.tmp 24), type := 0, pos := "row.go:93", after := #[{ on := 3, ground := Ground.data }, { on := 4, ground := Ground.data }], guard := none }
def rbn2_o6 : Oper := { dst := some 26, op := Op.fieldAddr 89 (Operand.tmp 25) 2, type := 0, pos := "row.go:93", after := #[{ on := 5, ground := Ground.data }], guard := none }
def rbn2_o7 : Oper := { dst := some 27, op := Op.load 3 (Operand.tmp 26), type := 3, pos := "row.go:93", after := #[{ on := 6, ground := Ground.data }], guard := none }
def rbn2_o8 : Oper := { dst := some 6, op := Op.assign (Operand.tmp 27), type := 3, pos := "row.go:93", after := #[{ on := 7, ground := Ground.data }, { on := 0, ground := Ground.phase }, { on := 1, ground := Ground.phase }, { on := 2, ground := Ground.phase }, { on := 3, ground := Ground.phase }, { on := 4, ground := Ground.phase }, { on := 5, ground := Ground.phase }, { on := 6, ground := Ground.phase }, { on := 7, ground := Ground.phase }], guard := none }
def rbn2_ops : Array Oper := #[rbn2_o0, rbn2_o1, rbn2_o2, rbn2_o3, rbn2_o4, rbn2_o5, rbn2_o6, rbn2_o7, rbn2_o8]
set_option maxRecDepth 100000 in
set_option maxHeartbeats 4000000 in
theorem rbn2 {rb ro g cap : Nat} {L : List Sp} {m : Nat} (a : Act) (w : World) (Q : Exit → Act → World → Prop) (hsz : a.tmps.size = 67)
    (t0 : a.tmps.getD 0 undef = .pointer (some ⟨rb, ro, none⟩))
    (t5 : a.tmps.getD 5 undef = .int .i64 (m : Int))
    (hR : SqAt w rb ro g cap L) (hm : m < L.length)
    (h : ∀ (a' : Act) (w' : World), w' = w → a' = (((((((((a).put (some 20) (.pointer (some ⟨rb, ro, none⟩))).put (some 21) (.pointer (some ⟨rb, ro, none⟩))).put (some 22) (.pointer (some ⟨rb, ro + 0, none⟩))).put (some 23) (.slice (some ⟨g, 0, none⟩) (L).length cap)).put (some 24) (.int .i64 (m : Int))).put (some 25) (.pointer (some ⟨g, 73 * m, none⟩))).put (some 26) (.pointer (some ⟨g, 73 * m + 68, none⟩))).put (some 27) (.int .i64 ((gt L m).up : Int))).put (some 6) (.int .i64 ((gt L m).up : Int)) → Q .normal a' w') :
    (Code.region 2 rbn2_ops false).wp Try.prog Q a w := by
  refine wp_region_list ?_
  change wpList _ _ _ [rbn2_o0, rbn2_o1, rbn2_o2, rbn2_o3, rbn2_o4, rbn2_o5, rbn2_o6, rbn2_o7, rbn2_o8] _ _
  refine qv (v := .pointer (some ⟨rb, ro, none⟩)) (by rfl) (exec_move rfl t0) (fun a0 e0 => ?_)
  rw [← e0] at h
  have z0 := pz e0 hsz
  replace t5 := pk e0 t5
  clear t0
  have t20 := pq e0 hsz
  clear e0 hsz
  refine qv (v := .pointer (some ⟨rb, ro, none⟩)) (by rfl) (exec_nilCheck rfl t20) (fun a1 e1 => ?_)
  rw [← e1] at h
  have z1 := pz e1 z0
  replace t5 := pk e1 t5
  clear t20
  have t21 := pq e1 z0
  clear e1 z0
  refine qv (v := .pointer (some ⟨rb, ro + 0, none⟩)) (by rfl) (exec_fieldAt rfl t21 (fg_65_0 _ _ _)) (fun a2 e2 => ?_)
  rw [← e2] at h
  have z2 := pz e2 z1
  replace t5 := pk e2 t5
  clear t21
  have t22 := pq e2 z1
  clear e2 z1
  refine qv (v := .slice (some ⟨g, 0, none⟩) (L).length cap) (by rfl) (exec_load rfl t22 (R_sl hR)) (fun a3 e3 => ?_)
  rw [← e3] at h
  have z3 := pz e3 z2
  replace t5 := pk e3 t5
  clear t22
  have t23 := pq e3 z2
  clear e3 z2
  refine qv (v := .int .i64 (m : Int)) (by rfl) (exec_move rfl t5) (fun a4 e4 => ?_)
  rw [← e4] at h
  have z4 := pz e4 z3
  replace t23 := pk e4 t23
  clear t5
  have t24 := pq e4 z3
  clear e4 z3
  refine qv (v := .pointer (some ⟨g, 73 * m, none⟩)) (by rfl) (exec_indexAt rfl t23 t24 (R_ix hm hR.len _)) (fun a5 e5 => ?_)
  rw [← e5] at h
  have z5 := pz e5 z4
  clear t23 t24
  have t25 := pq e5 z4
  clear e5 z4
  refine qv (v := .pointer (some ⟨g, 73 * m + 68, none⟩)) (by rfl) (exec_fieldAt rfl t25 (fg_89_2 _ _ _)) (fun a6 e6 => ?_)
  rw [← e6] at h
  have z6 := pz e6 z5
  clear t25
  have t26 := pq e6 z5
  clear e6 z5
  refine qv (v := .int .i64 ((gt L m).up : Int)) (by rfl) (exec_load rfl t26 (R_up hR hm)) (fun a7 e7 => ?_)
  rw [← e7] at h
  have z7 := pz e7 z6
  clear t26
  have t27 := pq e7 z6
  clear e7 z6
  refine qv (v := .int .i64 ((gt L m).up : Int)) (by rfl) (exec_assign rfl t27) (fun a8 e8 => ?_)
  rw [← e8] at h
  have z8 := pz e8 z7
  clear t27
  clear e8 z7
  exact wpList_nil (h _ _ (rfl) rfl)
def rbn3_o0 : Oper := { dst := some 28, op := Op.move (Operand.tmp 0), type := 90, pos := "row.go:94", after := #[], guard := none }
def rbn3_o1 : Oper := { dst := some 29, op := Op.move (Operand.tmp 5), type := 3, pos := "row.go:94", after := #[], guard := none }
def rbn3_o2 : Oper := { dst := some 30, op := Op.move (Operand.tmp 0), type := 90, pos := "row.go:94", after := #[], guard := none }
def rbn3_o3 : Oper := { dst := some 31, op := Op.nilCheck (Operand.tmp 30), type := 0, pos := "row.go:94", after := #[{ on := 2, ground := Ground.data }], guard := none }
def rbn3_o4 : Oper := { dst := some 32, op := Op.fieldAddr 65 (Operand.tmp 31) 0, type := 0, pos := "row.go:94", after := #[{ on := 3, ground := Ground.data }], guard := none }
def rbn3_o5 : Oper := { dst := some 33, op := Op.load 63 (Operand.tmp 32), type := 63, pos := "row.go:94", after := #[{ on := 4, ground := Ground.data }], guard := none }
def rbn3_o6 : Oper := { dst := some 34, op := Op.move (Operand.tmp 5), type := 3, pos := "row.go:94", after := #[], guard := none }
def rbn3_o7 : Oper := { dst := some 35, op := Op.indexAddr 63 (Operand.tmp 33) (Operand.tmp 34), type := 0, pos := "row.go:94", after := #[{ on := 5, ground := Ground.data }, { on := 6, ground := Ground.data }], guard := none }
def rbn3_o8 : Oper := { dst := some 36, op := Op.fieldAddr 89 (Operand.tmp 35) 3, type := 0, pos := "row.go:94", after := #[{ on := 7, ground := Ground.data }], guard := none }
def rbn3_o9 : Oper := { dst := some 37, op := Op.indexAddr 87 (Operand.tmp 36) (Operand.const (Value.int IntKind.i64 1)), type := 0, pos := "row.go:94", after := #[{ on := 8, ground := Ground.data }], guard := none }
def rbn3_o10 : Oper := { dst := some 38, op := Op.load 3 (Operand.tmp 37), type := 3, pos := "row.go:94", after := #[{ on := 9, ground := Ground.data }], guard := none }
def rbn3_o11 : Oper := { dst := some 39, op := Op.call { callee := Callee.value (Operand.func 62), args := #[Operand.tmp 28, Operand.tmp 29, Operand.tmp 38], argTypes := #[90, 3, 3] }, type := 0, pos := "row.go:94", after := #[{ on := 0, ground := Ground.data }, { on := 1, ground := Ground.data }, { on := 10, ground := Ground.data }], guard := none }
def rbn3_ops : Array Oper := #[rbn3_o0, rbn3_o1, rbn3_o2, rbn3_o3, rbn3_o4, rbn3_o5, rbn3_o6, rbn3_o7, rbn3_o8, rbn3_o9, rbn3_o10, rbn3_o11]
set_option maxRecDepth 100000 in
set_option maxHeartbeats 4000000 in
theorem rbn3 {rb ro g cap : Nat} {L : List Sp} {m : Nat} (Fin : World → Prop) (a : Act) (w : World) (Q : Exit → Act → World → Prop) (hsz : a.tmps.size = 67)
    (t0 : a.tmps.getD 0 undef = .pointer (some ⟨rb, ro, none⟩))
    (t5 : a.tmps.getD 5 undef = .int .i64 (m : Int))
    (hR : SqAt w rb ro g cap L) (hm : m < L.length) (CR : Calls Try.prog 62 #[.pointer (some ⟨rb, ro, none⟩), .int .i64 (m : Int), .int .i64 (dn (gt L m) true : Int)] w fun e w' => e = .returned (.tuple #[]) ∧ Fin w')
    (h : ∀ (a' : Act) (w' : World), Fin w' → a' = ((((((((((((a).put (some 28) (.pointer (some ⟨rb, ro, none⟩))).put (some 29) (.int .i64 (m : Int))).put (some 30) (.pointer (some ⟨rb, ro, none⟩))).put (some 31) (.pointer (some ⟨rb, ro, none⟩))).put (some 32) (.pointer (some ⟨rb, ro + 0, none⟩))).put (some 33) (.slice (some ⟨g, 0, none⟩) (L).length cap)).put (some 34) (.int .i64 (m : Int))).put (some 35) (.pointer (some ⟨g, 73 * m, none⟩))).put (some 36) (.pointer (some ⟨g, 73 * m + 69, none⟩))).put (some 37) (.pointer (some ⟨g, 73 * m + 69 + nb true, none⟩))).put (some 38) (.int .i64 (dn (gt L m) true : Int))).put (some 39) (.tuple #[]) → Q .normal a' w') :
    (Code.region 3 rbn3_ops false).wp Try.prog Q a w := by
  refine wp_region_list ?_
  change wpList _ _ _ [rbn3_o0, rbn3_o1, rbn3_o2, rbn3_o3, rbn3_o4, rbn3_o5, rbn3_o6, rbn3_o7, rbn3_o8, rbn3_o9, rbn3_o10, rbn3_o11] _ _
  refine qv (v := .pointer (some ⟨rb, ro, none⟩)) (by rfl) (exec_move rfl t0) (fun a0 e0 => ?_)
  rw [← e0] at h
  have z0 := pz e0 hsz
  replace t0 := pk e0 t0
  replace t5 := pk e0 t5
  have t28 := pq e0 hsz
  clear e0 hsz
  refine qv (v := .int .i64 (m : Int)) (by rfl) (exec_move rfl t5) (fun a1 e1 => ?_)
  rw [← e1] at h
  have z1 := pz e1 z0
  replace t0 := pk e1 t0
  replace t5 := pk e1 t5
  replace t28 := pk e1 t28
  have t29 := pq e1 z0
  clear e1 z0
  refine qv (v := .pointer (some ⟨rb, ro, none⟩)) (by rfl) (exec_move rfl t0) (fun a2 e2 => ?_)
  rw [← e2] at h
  have z2 := pz e2 z1
  replace t5 := pk e2 t5
  replace t28 := pk e2 t28
  replace t29 := pk e2 t29
  clear t0
  have t30 := pq e2 z1
  clear e2 z1
  refine qv (v := .pointer (some ⟨rb, ro, none⟩)) (by rfl) (exec_nilCheck rfl t30) (fun a3 e3 => ?_)
  rw [← e3] at h
  have z3 := pz e3 z2
  replace t5 := pk e3 t5
  replace t28 := pk e3 t28
  replace t29 := pk e3 t29
  clear t30
  have t31 := pq e3 z2
  clear e3 z2
  refine qv (v := .pointer (some ⟨rb, ro + 0, none⟩)) (by rfl) (exec_fieldAt rfl t31 (fg_65_0 _ _ _)) (fun a4 e4 => ?_)
  rw [← e4] at h
  have z4 := pz e4 z3
  replace t5 := pk e4 t5
  replace t28 := pk e4 t28
  replace t29 := pk e4 t29
  clear t31
  have t32 := pq e4 z3
  clear e4 z3
  refine qv (v := .slice (some ⟨g, 0, none⟩) (L).length cap) (by rfl) (exec_load rfl t32 (R_sl hR)) (fun a5 e5 => ?_)
  rw [← e5] at h
  have z5 := pz e5 z4
  replace t5 := pk e5 t5
  replace t28 := pk e5 t28
  replace t29 := pk e5 t29
  clear t32
  have t33 := pq e5 z4
  clear e5 z4
  refine qv (v := .int .i64 (m : Int)) (by rfl) (exec_move rfl t5) (fun a6 e6 => ?_)
  rw [← e6] at h
  have z6 := pz e6 z5
  replace t28 := pk e6 t28
  replace t29 := pk e6 t29
  replace t33 := pk e6 t33
  clear t5
  have t34 := pq e6 z5
  clear e6 z5
  refine qv (v := .pointer (some ⟨g, 73 * m, none⟩)) (by rfl) (exec_indexAt rfl t33 t34 (R_ix hm hR.len _)) (fun a7 e7 => ?_)
  rw [← e7] at h
  have z7 := pz e7 z6
  replace t28 := pk e7 t28
  replace t29 := pk e7 t29
  clear t33 t34
  have t35 := pq e7 z6
  clear e7 z6
  refine qv (v := .pointer (some ⟨g, 73 * m + 69, none⟩)) (by rfl) (exec_fieldAt rfl t35 (fg_89_3 _ _ _)) (fun a8 e8 => ?_)
  rw [← e8] at h
  have z8 := pz e8 z7
  replace t28 := pk e8 t28
  replace t29 := pk e8 t29
  clear t35
  have t36 := pq e8 z7
  clear e8 z7
  refine qv (v := .pointer (some ⟨g, 73 * m + 69 + nb true, none⟩)) (by rfl) (exec_indexAt rfl t36 rfl (ix_a1 _ _)) (fun a9 e9 => ?_)
  rw [← e9] at h
  have z9 := pz e9 z8
  replace t28 := pk e9 t28
  replace t29 := pk e9 t29
  clear t36
  have t37 := pq e9 z8
  clear e9 z8
  refine qv (v := .int .i64 (dn (gt L m) true : Int)) (by rfl) (exec_load rfl t37 (R_dn hR hm true)) (fun a10 e10 => ?_)
  rw [← e10] at h
  have z10 := pz e10 z9
  replace t28 := pk e10 t28
  replace t29 := pk e10 t29
  clear t37
  have t38 := pq e10 z9
  clear e10 z9
  refine qc (by rfl) (by unfold rbn3_o11; go_simp) (CR) (fun e x11 hx => ?_)
  obtain ⟨rfl, HF⟩ := hx
  refine ⟨_, rfl, fun a11 e11 => ?_⟩
  rw [← e11] at h
  have z11 := pz e11 z10
  clear t28 t29 t38
  clear e11 z10
  exact wpList_nil (h _ _ (HF) rfl)
def rbn5_o0 : Oper := { dst := some 44, op := Op.move (Operand.tmp 0), type := 90, pos := "row.go:96", after := #[], guard := none }
def rbn5_o1 : Oper := { dst := some 45, op := Op.nilCheck (Operand.tmp 44), type := 0, pos := "row.go:96", after := #[{ on := 0, ground := Ground.data }], guard := none }
def rbn5_o2 : Oper := { dst := some 46, op := Op.fieldAddr 65 (Operand.tmp 45) 0, type := 0, pos := "row.go:96", after := #[{ on := 1, ground := Ground.data }], guard := none }
def rbn5_o3 : Oper := { dst := some 47, op := Op.load 63 (Operand.tmp 46), type := 63, pos := "row.go:96", after := #[{ on := 2, ground := Ground.data }], guard := none }
def rbn5_o4 : Oper := { dst := some 48, op := Op.move (Operand.tmp 1), type := 3, pos := "row.go:96", after := #[], guard := none }
def rbn5_o5 : Oper := { dst := some 49, op := Op.indexAddr 63 (Operand.tmp 47) (Operand.tmp 48), type := 0, pos := "row.go:96", after := #[{ on := 3, ground := Ground.data }, { on := 4, ground := Ground.data }], guard := none }
def rbn5_o6 : Oper := { dst := some 50, op := Op.fieldAddr 89 (Operand.tmp 49) 3, type := 0, pos := "row.go:96", after := #[{ on := 5, ground := Ground.data }], guard := none }
def rbn5_o7 : Oper := { dst := some 51, op := Op.load 87 (Operand.tmp 50), type := 87, pos := "row.go:96", after := #[{ on := 6, ground := Ground.data }], guard := none }
def rbn5_o8 : Oper := { dst := some 52, op := Op.move (Operand.const (Value.int IntKind.i64 0)), type := 3, pos := "row.go:96", after := #[], guard := none }
def rbn5_ops : Array Oper := #[rbn5_o0, rbn5_o1, rbn5_o2, rbn5_o3, rbn5_o4, rbn5_o5, rbn5_o6, rbn5_o7, rbn5_o8]
set_option maxRecDepth 100000 in
set_option maxHeartbeats 4000000 in
theorem rbn5 {rb ro g cap : Nat} {L : List Sp} {i : Nat} (a : Act) (w : World) (Q : Exit → Act → World → Prop) (hsz : a.tmps.size = 67)
    (t0 : a.tmps.getD 0 undef = .pointer (some ⟨rb, ro, none⟩))
    (t1 : a.tmps.getD 1 undef = .int .i64 (i : Int))
    (hR : SqAt w rb ro g cap L) (hi : i < L.length)
    (h : ∀ (a' : Act) (w' : World), w' = w → a' = (((((((((a).put (some 44) (.pointer (some ⟨rb, ro, none⟩))).put (some 45) (.pointer (some ⟨rb, ro, none⟩))).put (some 46) (.pointer (some ⟨rb, ro + 0, none⟩))).put (some 47) (.slice (some ⟨g, 0, none⟩) (L).length cap)).put (some 48) (.int .i64 (i : Int))).put (some 49) (.pointer (some ⟨g, 73 * i, none⟩))).put (some 50) (.pointer (some ⟨g, 73 * i + 69, none⟩))).put (some 51) (.agg #[.int .i64 ((gt L i).l : Int), .int .i64 ((gt L i).r : Int)])).put (some 52) (.int .i64 0) → Q .normal a' w') :
    (Code.region 5 rbn5_ops false).wp Try.prog Q a w := by
  refine wp_region_list ?_
  change wpList _ _ _ [rbn5_o0, rbn5_o1, rbn5_o2, rbn5_o3, rbn5_o4, rbn5_o5, rbn5_o6, rbn5_o7, rbn5_o8] _ _
  refine qv (v := .pointer (some ⟨rb, ro, none⟩)) (by rfl) (exec_move rfl t0) (fun a0 e0 => ?_)
  rw [← e0] at h
  have z0 := pz e0 hsz
  replace t1 := pk e0 t1
  clear t0
  have t44 := pq e0 hsz
  clear e0 hsz
  refine qv (v := .pointer (some ⟨rb, ro, none⟩)) (by rfl) (exec_nilCheck rfl t44) (fun a1 e1 => ?_)
  rw [← e1] at h
  have z1 := pz e1 z0
  replace t1 := pk e1 t1
  clear t44
  have t45 := pq e1 z0
  clear e1 z0
  refine qv (v := .pointer (some ⟨rb, ro + 0, none⟩)) (by rfl) (exec_fieldAt rfl t45 (fg_65_0 _ _ _)) (fun a2 e2 => ?_)
  rw [← e2] at h
  have z2 := pz e2 z1
  replace t1 := pk e2 t1
  clear t45
  have t46 := pq e2 z1
  clear e2 z1
  refine qv (v := .slice (some ⟨g, 0, none⟩) (L).length cap) (by rfl) (exec_load rfl t46 (R_sl hR)) (fun a3 e3 => ?_)
  rw [← e3] at h
  have z3 := pz e3 z2
  replace t1 := pk e3 t1
  clear t46
  have t47 := pq e3 z2
  clear e3 z2
  refine qv (v := .int .i64 (i : Int)) (by rfl) (exec_move rfl t1) (fun a4 e4 => ?_)
  rw [← e4] at h
  have z4 := pz e4 z3
  replace t47 := pk e4 t47
  clear t1
  have t48 := pq e4 z3
  clear e4 z3
  refine qv (v := .pointer (some ⟨g, 73 * i, none⟩)) (by rfl) (exec_indexAt rfl t47 t48 (R_ix hi hR.len _)) (fun a5 e5 => ?_)
  rw [← e5] at h
  have z5 := pz e5 z4
  clear t47 t48
  have t49 := pq e5 z4
  clear e5 z4
  refine qv (v := .pointer (some ⟨g, 73 * i + 69, none⟩)) (by rfl) (exec_fieldAt rfl t49 (fg_89_3 _ _ _)) (fun a6 e6 => ?_)
  rw [← e6] at h
  have z6 := pz e6 z5
  clear t49
  have t50 := pq e6 z5
  clear e6 z5
  refine qv (v := .agg #[.int .i64 ((gt L i).l : Int), .int .i64 ((gt L i).r : Int)]) (by rfl) (exec_load rfl t50 (R_down hR hi)) (fun a7 e7 => ?_)
  rw [← e7] at h
  have z7 := pz e7 z6
  clear t50
  clear e7 z6
  refine qv (v := .int .i64 0) (by rfl) (exec_move rfl rfl) (fun a8 e8 => ?_)
  rw [← e8] at h
  have z8 := pz e8 z7
  clear e8 z7
  exact wpList_nil (h _ _ (rfl) rfl)
def rbn7_o0 : Oper := { dst := some 54, op := Op.move (Operand.tmp 52), type := 3, pos := "row.go:96", after := #[], guard := none }
def rbn7_o1 : Oper := { dst := some 55, op := Op.index 87 (Operand.tmp 51) (Operand.tmp 52), type := 3, pos := "row.go:96", after := #[], guard := none }
def rbn7_o2 : Oper := { dst := some 7, op := Op.assign (Operand.tmp 54), type := 3, pos := "row.go:96", after := #[{ on := 0, ground := Ground.data }, { on := 0, ground := Ground.phase }, { on := 1, ground := Ground.phase }], guard := none }
def rbn7_o3 : Oper := { dst := some 8, op := Op.assign (Operand.tmp 55), type := 3, pos := "row.go:96", after := #[{ on := 1, ground := Ground.data }, { on := 2, ground := Ground.chain }, { on := 0, ground := Ground.phase }, { on := 1, ground := Ground.phase }, { on := 2, ground := Ground.phase }], guard := none }
def rbn7_ops : Array Oper := #[rbn7_o0, rbn7_o1, rbn7_o2, rbn7_o3]
set_option maxRecDepth 100000 in
set_option maxHeartbeats 4000000 in
theorem rbn7 {q : Sp} {s : Bool} (a : Act) (w : World) (Q : Exit → Act → World → Prop) (hsz : a.tmps.size = 67)
    (t51 : a.tmps.getD 51 undef = .agg #[.int .i64 (q.l : Int), .int .i64 (q.r : Int)])
    (t52 : a.tmps.getD 52 undef = .int .i64 (nb s : Int))
    (h : ∀ (a' : Act) (w' : World), w' = w → a' = ((((a).put (some 54) (.int .i64 (nb s : Int))).put (some 55) (.int .i64 (dn q s : Int))).put (some 7) (.int .i64 (nb s : Int))).put (some 8) (.int .i64 (dn q s : Int)) → Q .normal a' w') :
    (Code.region 7 rbn7_ops false).wp Try.prog Q a w := by
  refine wp_region_list ?_
  change wpList _ _ _ [rbn7_o0, rbn7_o1, rbn7_o2, rbn7_o3] _ _
  refine qv (v := .int .i64 (nb s : Int)) (by rfl) (exec_move rfl t52) (fun a0 e0 => ?_)
  rw [← e0] at h
  have z0 := pz e0 hsz
  replace t51 := pk e0 t51
  replace t52 := pk e0 t52
  have t54 := pq e0 hsz
  clear e0 hsz
  refine qv (v := .int .i64 (dn q s : Int)) (by rfl) (ex_ix2 rfl t51 t52) (fun a1 e1 => ?_)
  rw [← e1] at h
  have z1 := pz e1 z0
  replace t54 := pk e1 t54
  clear t51 t52
  have t55 := pq e1 z0
  clear e1 z0
  refine qv (v := .int .i64 (nb s : Int)) (by rfl) (exec_assign rfl t54) (fun a2 e2 => ?_)
  rw [← e2] at h
  have z2 := pz e2 z1
  replace t55 := pk e2 t55
  clear t54
  clear e2 z1
  refine qv (v := .int .i64 (dn q s : Int)) (by rfl) (exec_assign rfl t55) (fun a3 e3 => ?_)
  rw [← e3] at h
  have z3 := pz e3 z2
  clear t55
  clear e3 z2
  exact wpList_nil (h _ _ (rfl) rfl)
def fill0_o0 : Oper := { dst := some 7, op := Op.move (Operand.tmp 0), type := 90, pos := "row.go:107", after := #[], guard := none }
def fill0_o1 : Oper := { dst := some 8, op := Op.nilCheck (Operand.tmp 7), type := 0, pos := "row.go:107", after := #[{ on := 0, ground := Ground.data }], guard := none }
def fill0_o2 : Oper := { dst := some 9, op := Op.fieldAddr 65 (Operand.tmp 8) 0, type := 0, pos := "row.go:107", after := #[{ on := 1, ground := Ground.data }], guard := none }
def fill0_o3 : Oper := { dst := some 10, op := Op.load 63 (Operand.tmp 9), type := 63, pos := "row.go:107", after := #[{ on := 2, ground := Ground.data }], guard := none }
def fill0_o4 : Oper := { dst := some 11, op := Op.call { callee := Callee.builtin Builtin.len, args := #[Operand.tmp 10], argTypes := #[63] }, type := 3, pos := "row.go:107", after := #[{ on := 3, ground := Ground.data }], guard := none }
def fill0_o5 : Oper := { dst := some 12, op := Op.binOp BinOp.sub 3 (Operand.tmp 11) (Operand.const (Value.int IntKind.i64 1)) 3, type := 3, pos := "row.go:107", after := #[{ on := 4, ground := Ground.data }], guard := none }
def fill0_o6 : Oper := { dst := some 4, op := Op.assign (Operand.tmp 12), type := 3, pos := "row.go:107", after := #[{ on := 5, ground := Ground.data }, { on := 0, ground := Ground.phase }, { on := 1, ground := Ground.phase }, { on := 2, ground := Ground.phase }, { on := 3, ground := Ground.phase }, { on := 4, ground := Ground.phase }, { on := 5, ground := Ground.phase }], guard := none }
def fill0_ops : Array Oper := #[fill0_o0, fill0_o1, fill0_o2, fill0_o3, fill0_o4, fill0_o5, fill0_o6]
set_option maxRecDepth 100000 in
set_option maxHeartbeats 4000000 in
theorem fill0 {rb ro g cap : Nat} {L : List Sp} {n : Nat} (a : Act) (w : World) (Q : Exit → Act → World → Prop) (hsz : a.tmps.size = 62)
    (t0 : a.tmps.getD 0 undef = .pointer (some ⟨rb, ro, none⟩))
    (hR : SqAt w rb ro g cap L) (hn : L.length = n + 1 ∧ n ≤ 1400000000000)
    (h : ∀ (a' : Act) (w' : World), w' = w → a' = (((((((a).put (some 7) (.pointer (some ⟨rb, ro, none⟩))).put (some 8) (.pointer (some ⟨rb, ro, none⟩))).put (some 9) (.pointer (some ⟨rb, ro + 0, none⟩))).put (some 10) (.slice (some ⟨g, 0, none⟩) (L).length cap)).put (some 11) (.int .i64 (L.length : Int))).put (some 12) (.int .i64 (n : Int))).put (some 4) (.int .i64 (n : Int)) → Q .normal a' w') :
    (Code.region 0 fill0_ops false).wp Try.prog Q a w := by
  refine wp_region_list ?_
  change wpList _ _ _ [fill0_o0, fill0_o1, fill0_o2, fill0_o3, fill0_o4, fill0_o5, fill0_o6] _ _
  refine qv (v := .pointer (some ⟨rb, ro, none⟩)) (by rfl) (exec_move rfl t0) (fun a0 e0 => ?_)
  rw [← e0] at h
  have z0 := pz e0 hsz
  clear t0
  have t7 := pq e0 hsz
  clear e0 hsz
  refine qv (v := .pointer (some ⟨rb, ro, none⟩)) (by rfl) (exec_nilCheck rfl t7) (fun a1 e1 => ?_)
  rw [← e1] at h
  have z1 := pz e1 z0
  clear t7
  have t8 := pq e1 z0
  clear e1 z0
  refine qv (v := .pointer (some ⟨rb, ro + 0, none⟩)) (by rfl) (exec_fieldAt rfl t8 (fg_65_0 _ _ _)) (fun a2 e2 => ?_)
  rw [← e2] at h
  have z2 := pz e2 z1
  clear t8
  have t9 := pq e2 z1
  clear e2 z1
  refine qv (v := .slice (some ⟨g, 0, none⟩) (L).length cap) (by rfl) (exec_load rfl t9 (R_sl hR)) (fun a3 e3 => ?_)
  rw [← e3] at h
  have z3 := pz e3 z2
  clear t9
  have t10 := pq e3 z2
  clear e3 z2
  refine qv (v := .int .i64 (L.length : Int)) (by rfl) (exec_len rfl t10 (len_sl _)) (fun a4 e4 => ?_)
  rw [← e4] at h
  have z4 := pz e4 z3
  clear t10
  have t11 := pq e4 z3
  clear e4 z3
  refine qv (v := .int .i64 (n : Int)) (by rfl) (ex_subN rfl t11 rfl hn) (fun a5 e5 => ?_)
  rw [← e5] at h
  have z5 := pz e5 z4
  clear t11
  have t12 := pq e5 z4
  clear e5 z4
  refine qv (v := .int .i64 (n : Int)) (by rfl) (exec_assign rfl t12) (fun a6 e6 => ?_)
  rw [← e6] at h
  have z6 := pz e6 z5
  clear t12
  clear e6 z5
  exact wpList_nil (h _ _ (rfl) rfl)
def fill3_o0 : Oper := { dst := some 20, op := Op.move (Operand.tmp 0), type := 90, pos := "row.go:110", after := #[], guard := none }
def fill3_o1 : Oper := { dst := some 21, op := Op.nilCheck (Operand.tmp 20), type := 0, pos := "row.go:110", after := #[{ on := 0, ground := Ground.data }], guard := none }
def fill3_o2 : Oper := { dst := some 22, op := Op.fieldAddr 65 (Operand.tmp 21) 0, type := 0, pos := "row.go:110", after := #[{ on := 1, ground := Ground.data }], guard := none }
def fill3_o3 : Oper := { dst := some 23, op := Op.load 63 (Operand.tmp 22), type := 63, pos := "row.go:110", after := #[{ on := 2, ground := Ground.data }], guard := none }
def fill3_o4 : Oper := { dst := some 24, op := Op.move (Operand.tmp 1), type := 3, pos := "row.go:110", after := #[], guard := none }
def fill3_o5 : Oper := { dst := some 25, op := Op.move (Operand.tmp 0), type := 90, pos := "row.go:110", after := #[], guard := none }
def fill3_o6 : Oper := { dst := some 26, op := Op.nilCheck (Operand.tmp 25), type := 0, pos := "row.go:110", after := #[{ on := 5, ground := Ground.data }], guard := none }
def fill3_o7 : Oper := { dst := some 27, op := Op.fieldAddr 65 (Operand.tmp 26) 0, type := 0, pos := "row.go:110", after := #[{ on := 6, ground := Ground.data }], guard := none }
def fill3_o8 : Oper := { dst := some 28, op := Op.load 63 (Operand.tmp 27), type := 63, pos := "row.go:110", after := #[{ on := 7, ground := Ground.data }], guard := none }
def fill3_o9 : Oper := { dst := some 29, op := Op.move (Operand.tmp 4), type := 3, pos := "row.go:110", after := #[], guard := none }
def fill3_o10 : Oper := { dst := some 30, op := Op.indexAddr 63 (Operand.tmp 28) (Operand.tmp 29), type := 0, pos := "row.go:110", after := #[{ on := 8, ground := Ground.data }, { on := 9, ground := Ground.data }], guard := none }
def fill3_o11 : Oper := { dst := some 31, op := Op.load 89 (Operand.tmp 30), type := 89, pos := "row.go:110", after := #[{ on := 10, ground := Ground.data }], guard := none }
def fill3_o12 : Oper := { dst := some 32, op := Op.indexAddr 63 (Operand.tmp 23) (Operand.tmp 24), type := 0, pos := "row.go:110", after := #[{ on := 3, ground := Ground.data }, { on := 4, ground := Ground.data }, { on := 0, ground := Ground.phase }, { on := 1, ground := Ground.phase }, { on := 2, ground := Ground.phase }, { on := 3, ground := Ground.phase }, { on := 4, ground := Ground.phase }, { on := 5, ground := Ground.phase }, { on := 6, ground := Ground.phase }, { on := 7, ground := Ground.phase }, { on := 8, ground := Ground.phase }, { on := 9, ground := Ground.phase }, { on := 10, ground := Ground.phase }, { on := 11, ground := Ground.phase }], guard := none }
def fill3_o13 : Oper := { dst := none, op := Op.store 89 (Operand.tmp 32) (Operand.tmp 31), type := 0, pos := "row.go:110", after := #[{ on := 12, ground := Ground.data }, { on := 11, ground := Ground.data }, { on := 0, ground := Ground.phase }, { on := 1, ground := Ground.phase }, { on := 2, ground := Ground.phase }, { on := 3, ground := Ground.phase }, { on := 4, ground := Ground.phase }, { on := 5, ground := Ground.phase }, { on := 6, ground := Ground.phase }, { on := 7, ground := Ground.phase }, { on := 8, ground := Ground.phase }, { on := 9, ground := Ground.phase }, { on := 10, ground := Ground.phase }, { on := 11, ground := Ground.phase }], guard := none }
def fill3_ops : Array Oper := #[fill3_o0, fill3_o1, fill3_o2, fill3_o3, fill3_o4, fill3_o5, fill3_o6, fill3_o7, fill3_o8, fill3_o9, fill3_o10, fill3_o11, fill3_o12, fill3_o13]
set_option maxRecDepth 100000 in
set_option maxHeartbeats 4000000 in
theorem fill3 {rb ro g cap N f e : Nat} {sv : Value} {w2 : World} (a : Act) (w : World) (Q : Exit → Act → World → Prop) (hsz : a.tmps.size = 62)
    (t0 : a.tmps.getD 0 undef = .pointer (some ⟨rb, ro, none⟩))
    (t1 : a.tmps.getD 1 undef = .int .i64 (f : Int))
    (t4 : a.tmps.getD 4 undef = .int .i64 (e : Int))
    (h0 : FS rb ro g cap N e sv w.drew) (XE : ∀ W, (Instr.indexAt 63 (.slice (some ⟨g, 0, none⟩) N cap) (.int .i64 (e : Int))).run Try.prog W = .ok (.pointer (some ⟨g, 73 * e, none⟩)) W) (XF : ∀ W, (Instr.indexAt 63 (.slice (some ⟨g, 0, none⟩) N cap) (.int .i64 (f : Int))).run Try.prog W = .ok (.pointer (some ⟨g, 73 * f, none⟩)) W) (ES : (Instr.storeAt 89 (.pointer (some ⟨g, 73 * f, none⟩)) sv).run Try.prog w.drew = .ok () w2) (S2 : FS rb ro g cap N e sv w2)
    (h : ∀ (a' : Act) (w' : World), w' = w2 → a' = (((((((((((((a).put (some 20) (.pointer (some ⟨rb, ro, none⟩))).put (some 21) (.pointer (some ⟨rb, ro, none⟩))).put (some 22) (.pointer (some ⟨rb, ro + 0, none⟩))).put (some 23) (.slice (some ⟨g, 0, none⟩) N cap)).put (some 24) (.int .i64 (f : Int))).put (some 25) (.pointer (some ⟨rb, ro, none⟩))).put (some 26) (.pointer (some ⟨rb, ro, none⟩))).put (some 27) (.pointer (some ⟨rb, ro + 0, none⟩))).put (some 28) (.slice (some ⟨g, 0, none⟩) N cap)).put (some 29) (.int .i64 (e : Int))).put (some 30) (.pointer (some ⟨g, 73 * e, none⟩))).put (some 31) (sv)).put (some 32) (.pointer (some ⟨g, 73 * f, none⟩)) → Q .normal a' w') :
    (Code.region 3 fill3_ops true).wp Try.prog Q a w := by
  refine wp_region_noPanic ?_
  refine wp_region_held_drew (S := fun w' => FS rb ro g cap N e sv w') (by kernel_rfl) (h0) (fun hHeld => ?_)
  refine wpAnyH_take (i := 0) (oi := fill3_o0) (v := .pointer (some ⟨rb, ro, none⟩)) rfl (by kernel_rfl) (by kernel_rfl) (by kernel_rfl) (fun _ _ _ h => h) (Or.inl ⟨by rfl, fun w1 hw => exec_move rfl t0⟩) hHeld ?_
  change wpAnyH _ _ _ _ _ _ _ (a.put (some 20) (.pointer (some ⟨rb, ro, none⟩))) _
  obtain ⟨a0, e0⟩ : ∃ act, act = a.put (some 20) (.pointer (some ⟨rb, ro, none⟩)) := ⟨_, rfl⟩
  rw [← e0] at h ⊢
  have z0 := pz e0 hsz
  replace t0 := pk e0 t0
  replace t1 := pk e0 t1
  replace t4 := pk e0 t4
  have t20 := pq e0 hsz
  clear e0 hsz
  refine wpAnyH_take (i := 1) (oi := fill3_o1) (v := .pointer (some ⟨rb, ro, none⟩)) rfl (by kernel_rfl) (by kernel_rfl) (by kernel_rfl) (fun _ _ _ h => h) (Or.inl ⟨by rfl, fun w1 hw => exec_nilCheck rfl t20⟩) hHeld ?_
  change wpAnyH _ _ _ _ _ _ _ (a0.put (some 21) (.pointer (some ⟨rb, ro, none⟩))) _
  obtain ⟨a1, e1⟩ : ∃ act, act = a0.put (some 21) (.pointer (some ⟨rb, ro, none⟩)) := ⟨_, rfl⟩
  rw [← e1] at h ⊢
  have z1 := pz e1 z0
  replace t0 := pk e1 t0
  replace t1 := pk e1 t1
  replace t4 := pk e1 t4
  clear t20
  have t21 := pq e1 z0
  clear e1 z0
  refine wpAnyH_take (i := 2) (oi := fill3_o2) (v := .pointer (some ⟨rb, ro + 0, none⟩)) rfl (by kernel_rfl) (by kernel_rfl) (by kernel_rfl) (fun _ _ _ h => h) (Or.inl ⟨by rfl, fun w1 hw => exec_fieldAt rfl t21 (fg_65_0 _ _ _)⟩) hHeld ?_
  change wpAnyH _ _ _ _ _ _ _ (a1.put (some 22) (.pointer (some ⟨rb, ro + 0, none⟩))) _
  obtain ⟨a2, e2⟩ : ∃ act, act = a1.put (some 22) (.pointer (some ⟨rb, ro + 0, none⟩)) := ⟨_, rfl⟩
  rw [← e2] at h ⊢
  have z2 := pz e2 z1
  replace t0 := pk e2 t0
  replace t1 := pk e2 t1
  replace t4 := pk e2 t4
  clear t21
  have t22 := pq e2 z1
  clear e2 z1
  refine wpAnyH_take (i := 3) (oi := fill3_o3) (v := .slice (some ⟨g, 0, none⟩) N cap) rfl (by kernel_rfl) (by kernel_rfl) (by kernel_rfl) (fun _ _ _ h => h) (Or.inl ⟨by rfl, fun w1 hw => exec_load rfl t22 hw.1⟩) hHeld ?_
  change wpAnyH _ _ _ _ _ _ _ (a2.put (some 23) (.slice (some ⟨g, 0, none⟩) N cap)) _
  obtain ⟨a3, e3⟩ : ∃ act, act = a2.put (some 23) (.slice (some ⟨g, 0, none⟩) N cap) := ⟨_, rfl⟩
  rw [← e3] at h ⊢
  have z3 := pz e3 z2
  replace t0 := pk e3 t0
  replace t1 := pk e3 t1
  replace t4 := pk e3 t4
  clear t22
  have t23 := pq e3 z2
  clear e3 z2
  refine wpAnyH_take (i := 4) (oi := fill3_o4) (v := .int .i64 (f : Int)) rfl (by kernel_rfl) (by kernel_rfl) (by kernel_rfl) (fun _ _ _ h => h) (Or.inl ⟨by rfl, fun w1 hw => exec_move rfl t1⟩) hHeld ?_
  change wpAnyH _ _ _ _ _ _ _ (a3.put (some 24) (.int .i64 (f : Int))) _
  obtain ⟨a4, e4⟩ : ∃ act, act = a3.put (some 24) (.int .i64 (f : Int)) := ⟨_, rfl⟩
  rw [← e4] at h ⊢
  have z4 := pz e4 z3
  replace t0 := pk e4 t0
  replace t4 := pk e4 t4
  replace t23 := pk e4 t23
  clear t1
  have t24 := pq e4 z3
  clear e4 z3
  refine wpAnyH_take (i := 5) (oi := fill3_o5) (v := .pointer (some ⟨rb, ro, none⟩)) rfl (by kernel_rfl) (by kernel_rfl) (by kernel_rfl) (fun _ _ _ h => h) (Or.inl ⟨by rfl, fun w1 hw => exec_move rfl t0⟩) hHeld ?_
  change wpAnyH _ _ _ _ _ _ _ (a4.put (some 25) (.pointer (some ⟨rb, ro, none⟩))) _
  obtain ⟨a5, e5⟩ : ∃ act, act = a4.put (some 25) (.pointer (some ⟨rb, ro, none⟩)) := ⟨_, rfl⟩
  rw [← e5] at h ⊢
  have z5 := pz e5 z4
  replace t4 := pk e5 t4
  replace t23 := pk e5 t23
  replace t24 := pk e5 t24
  clear t0
  have t25 := pq e5 z4
  clear e5 z4
  refine wpAnyH_take (i := 6) (oi := fill3_o6) (v := .pointer (some ⟨rb, ro, none⟩)) rfl (by kernel_rfl) (by kernel_rfl) (by kernel_rfl) (fun _ _ _ h => h) (Or.inl ⟨by rfl, fun w1 hw => exec_nilCheck rfl t25⟩) hHeld ?_
  change wpAnyH _ _ _ _ _ _ _ (a5.put (some 26) (.pointer (some ⟨rb, ro, none⟩))) _
  obtain ⟨a6, e6⟩ : ∃ act, act = a5.put (some 26) (.pointer (some ⟨rb, ro, none⟩)) := ⟨_, rfl⟩
  rw [← e6] at h ⊢
  have z6 := pz e6 z5
  replace t4 := pk e6 t4
  replace t23 := pk e6 t23
  replace t24 := pk e6 t24
  clear t25
  have t26 := pq e6 z5
  clear e6 z5
  refine wpAnyH_take (i := 7) (oi := fill3_o7) (v := .pointer (some ⟨rb, ro + 0, none⟩)) rfl (by kernel_rfl) (by kernel_rfl) (by kernel_rfl) (fun _ _ _ h => h) (Or.inl ⟨by rfl, fun w1 hw => exec_fieldAt rfl t26 (fg_65_0 _ _ _)⟩) hHeld ?_
  change wpAnyH _ _ _ _ _ _ _ (a6.put (some 27) (.pointer (some ⟨rb, ro + 0, none⟩))) _
  obtain ⟨a7, e7⟩ : ∃ act, act = a6.put (some 27) (.pointer (some ⟨rb, ro + 0, none⟩)) := ⟨_, rfl⟩
  rw [← e7] at h ⊢
  have z7 := pz e7 z6
  replace t4 := pk e7 t4
  replace t23 := pk e7 t23
  replace t24 := pk e7 t24
  clear t26
  have t27 := pq e7 z6
  clear e7 z6
  refine wpAnyH_take (i := 8) (oi := fill3_o8) (v := .slice (some ⟨g, 0, none⟩) N cap) rfl (by kernel_rfl) (by kernel_rfl) (by kernel_rfl) (fun _ _ _ h => h) (Or.inl ⟨by rfl, fun w1 hw => exec_load rfl t27 hw.1⟩) hHeld ?_
  change wpAnyH _ _ _ _ _ _ _ (a7.put (some 28) (.slice (some ⟨g, 0, none⟩) N cap)) _
  obtain ⟨a8, e8⟩ : ∃ act, act = a7.put (some 28) (.slice (some ⟨g, 0, none⟩) N cap) := ⟨_, rfl⟩
  rw [← e8] at h ⊢
  have z8 := pz e8 z7
  replace t4 := pk e8 t4
  replace t23 := pk e8 t23
  replace t24 := pk e8 t24
  clear t27
  have t28 := pq e8 z7
  clear e8 z7
  refine wpAnyH_take (i := 9) (oi := fill3_o9) (v := .int .i64 (e : Int)) rfl (by kernel_rfl) (by kernel_rfl) (by kernel_rfl) (fun _ _ _ h => h) (Or.inl ⟨by rfl, fun w1 hw => exec_move rfl t4⟩) hHeld ?_
  change wpAnyH _ _ _ _ _ _ _ (a8.put (some 29) (.int .i64 (e : Int))) _
  obtain ⟨a9, e9⟩ : ∃ act, act = a8.put (some 29) (.int .i64 (e : Int)) := ⟨_, rfl⟩
  rw [← e9] at h ⊢
  have z9 := pz e9 z8
  replace t23 := pk e9 t23
  replace t24 := pk e9 t24
  replace t28 := pk e9 t28
  clear t4
  have t29 := pq e9 z8
  clear e9 z8
  refine wpAnyH_take (i := 10) (oi := fill3_o10) (v := .pointer (some ⟨g, 73 * e, none⟩)) rfl (by kernel_rfl) (by kernel_rfl) (by kernel_rfl) (fun _ _ _ h => h) (Or.inl ⟨by rfl, fun w1 hw => exec_indexAt rfl t28 t29 (XE _)⟩) hHeld ?_
  change wpAnyH _ _ _ _ _ _ _ (a9.put (some 30) (.pointer (some ⟨g, 73 * e, none⟩))) _
  obtain ⟨a10, e10⟩ : ∃ act, act = a9.put (some 30) (.pointer (some ⟨g, 73 * e, none⟩)) := ⟨_, rfl⟩
  rw [← e10] at h ⊢
  have z10 := pz e10 z9
  replace t23 := pk e10 t23
  replace t24 := pk e10 t24
  clear t28 t29
  have t30 := pq e10 z9
  clear e10 z9
  refine wpAnyH_take (i := 11) (oi := fill3_o11) (v := sv) rfl (by kernel_rfl) (by kernel_rfl) (by kernel_rfl) (fun _ _ _ h => h) (Or.inl ⟨by rfl, fun w1 hw => exec_load rfl t30 hw.2⟩) hHeld ?_
  change wpAnyH _ _ _ _ _ _ _ (a10.put (some 31) (sv)) _
  obtain ⟨a11, e11⟩ : ∃ act, act = a10.put (some 31) (sv) := ⟨_, rfl⟩
  rw [← e11] at h ⊢
  have z11 := pz e11 z10
  replace t23 := pk e11 t23
  replace t24 := pk e11 t24
  clear t30
  have t31 := pq e11 z10
  clear e11 z10
  refine wpAnyH_take (i := 12) (oi := fill3_o12) (v := .pointer (some ⟨g, 73 * f, none⟩)) rfl (by kernel_rfl) (by kernel_rfl) (by kernel_rfl) (fun _ _ _ h => h) (Or.inl ⟨by rfl, fun w1 hw => exec_indexAt rfl t23 t24 (XF _)⟩) hHeld ?_
  change wpAnyH _ _ _ _ _ _ _ (a11.put (some 32) (.pointer (some ⟨g, 73 * f, none⟩))) _
  obtain ⟨a12, e12⟩ : ∃ act, act = a11.put (some 32) (.pointer (some ⟨g, 73 * f, none⟩)) := ⟨_, rfl⟩
  rw [← e12] at h ⊢
  have z12 := pz e12 z11
  replace t31 := pk e12 t31
  clear t23 t24
  have t32 := pq e12 z11
  clear e12 z11
  refine wpAnyH_ready (rs := [13]) (by kernel_rfl) (by simp) ?_
  refine AllReadyH.cons (o := fill3_o13) rfl (fun K hK => ?_) AllReadyH.nil
  have XX := exec_store (P := Try.prog) (a := a12) (o := fill3_o13) rfl t32 t31 ES
  rw [if_pos (by rfl), Oper.wp, XX]
  show K _ _
  clear XX
  refine hK.out _ _ (S2) (fun hHeld => ?_)
  clear hK K
  exact wpAnyH_done (by kernel_rfl) (NoPanic.normal (h _ _ (rfl) rfl)) _
def fill4_o0 : Oper := { dst := some 33, op := Op.move (Operand.tmp 0), type := 90, pos := "row.go:111", after := #[], guard := none }
def fill4_o1 : Oper := { dst := some 34, op := Op.nilCheck (Operand.tmp 33), type := 0, pos := "row.go:111", after := #[{ on := 0, ground := Ground.data }], guard := none }
def fill4_o2 : Oper := { dst := some 35, op := Op.fieldAddr 65 (Operand.tmp 34) 0, type := 0, pos := "row.go:111", after := #[{ on := 1, ground := Ground.data }], guard := none }
def fill4_o3 : Oper := { dst := some 36, op := Op.load 63 (Operand.tmp 35), type := 63, pos := "row.go:111", after := #[{ on := 2, ground := Ground.data }], guard := none }
def fill4_o4 : Oper := { dst := some 37, op := Op.move (Operand.tmp 1), type := 3, pos := "row.go:111", after := #[], guard := none }
def fill4_o5 : Oper := { dst := some 38, op := Op.indexAddr 63 (Operand.tmp 36) (Operand.tmp 37), type := 0, pos := "row.go:111", after := #[{ on := 3, ground := Ground.data }, { on := 4, ground := Ground.data }], guard := none }
def fill4_o6 : Oper := { dst := some 39, op := Op.fieldAddr 89 (Operand.tmp 38) 3, type := 0, pos := "row.go:111", after := #[{ on := 5, ground := Ground.data }], guard := none }
def fill4_o7 : Oper := { dst := some 40, op := Op.load 87 (Operand.tmp 39), type := 87, pos := "row.go:111", after := #[{ on := 6, ground := Ground.data }], guard := none }
def fill4_o8 : Oper := { dst := some 41, op := Op.move (Operand.const (Value.int IntKind.i64 0)), type := 3, pos := "row.go:111", after := #[], guard := none }
def fill4_ops : Array Oper := #[fill4_o0, fill4_o1, fill4_o2, fill4_o3, fill4_o4, fill4_o5, fill4_o6, fill4_o7, fill4_o8]
set_option maxRecDepth 100000 in
set_option maxHeartbeats 4000000 in
theorem fill4 {rb ro g cap : Nat} {L : List Sp} {f : Nat} (a : Act) (w : World) (Q : Exit → Act → World → Prop) (hsz : a.tmps.size = 62)
    (t0 : a.tmps.getD 0 undef = .pointer (some ⟨rb, ro, none⟩))
    (t1 : a.tmps.getD 1 undef = .int .i64 (f : Int))
    (hR : SqAt w rb ro g cap L) (hf : f < L.length)
    (h : ∀ (a' : Act) (w' : World), w' = w → a' = (((((((((a).put (some 33) (.pointer (some ⟨rb, ro, none⟩))).put (some 34) (.pointer (some ⟨rb, ro, none⟩))).put (some 35) (.pointer (some ⟨rb, ro + 0, none⟩))).put (some 36) (.slice (some ⟨g, 0, none⟩) (L).length cap)).put (some 37) (.int .i64 (f : Int))).put (some 38) (.pointer (some ⟨g, 73 * f, none⟩))).put (some 39) (.pointer (some ⟨g, 73 * f + 69, none⟩))).put (some 40) (.agg #[.int .i64 ((gt L f).l : Int), .int .i64 ((gt L f).r : Int)])).put (some 41) (.int .i64 0) → Q .normal a' w') :
    (Code.region 4 fill4_ops false).wp Try.prog Q a w := by
  refine wp_region_list ?_
  change wpList _ _ _ [fill4_o0, fill4_o1, fill4_o2, fill4_o3, fill4_o4, fill4_o5, fill4_o6, fill4_o7, fill4_o8] _ _
  refine qv (v := .pointer (some ⟨rb, ro, none⟩)) (by rfl) (exec_move rfl t0) (fun a0 e0 => ?_)
  rw [← e0] at h
  have z0 := pz e0 hsz
  replace t1 := pk e0 t1
  clear t0
  have t33 := pq e0 hsz
  clear e0 hsz
  refine qv (v := .pointer (some ⟨rb, ro, none⟩)) (by rfl) (exec_nilCheck rfl t33) (fun a1 e1 => ?_)
  rw [← e1] at h
  have z1 := pz e1 z0
  replace t1 := pk e1 t1
  clear t33
  have t34 := pq e1 z0
  clear e1 z0
  refine qv (v := .pointer (some ⟨rb, ro + 0, none⟩)) (by rfl) (exec_fieldAt rfl t34 (fg_65_0 _ _ _)) (fun a2 e2 => ?_)
  rw [← e2] at h
  have z2 := pz e2 z1
  replace t1 := pk e2 t1
  clear t34
  have t35 := pq e2 z1
  clear e2 z1
  refine qv (v := .slice (some ⟨g, 0, none⟩) (L).length cap) (by rfl) (exec_load rfl t35 (R_sl hR)) (fun a3 e3 => ?_)
  rw [← e3] at h
  have z3 := pz e3 z2
  replace t1 := pk e3 t1
  clear t35
  have t36 := pq e3 z2
  clear e3 z2
  refine qv (v := .int .i64 (f : Int)) (by rfl) (exec_move rfl t1) (fun a4 e4 => ?_)
  rw [← e4] at h
  have z4 := pz e4 z3
  replace t36 := pk e4 t36
  clear t1
  have t37 := pq e4 z3
  clear e4 z3
  refine qv (v := .pointer (some ⟨g, 73 * f, none⟩)) (by rfl) (exec_indexAt rfl t36 t37 (R_ix hf hR.len _)) (fun a5 e5 => ?_)
  rw [← e5] at h
  have z5 := pz e5 z4
  clear t36 t37
  have t38 := pq e5 z4
  clear e5 z4
  refine qv (v := .pointer (some ⟨g, 73 * f + 69, none⟩)) (by rfl) (exec_fieldAt rfl t38 (fg_89_3 _ _ _)) (fun a6 e6 => ?_)
  rw [← e6] at h
  have z6 := pz e6 z5
  clear t38
  have t39 := pq e6 z5
  clear e6 z5
  refine qv (v := .agg #[.int .i64 ((gt L f).l : Int), .int .i64 ((gt L f).r : Int)]) (by rfl) (exec_load rfl t39 (R_down hR hf)) (fun a7 e7 => ?_)
  rw [← e7] at h
  have z7 := pz e7 z6
  clear t39
  clear e7 z6
  refine qv (v := .int .i64 0) (by rfl) (exec_move rfl rfl) (fun a8 e8 => ?_)
  rw [← e8] at h
  have z8 := pz e8 z7
  clear e8 z7
  exact wpList_nil (h _ _ (rfl) rfl)
def fill6_o0 : Oper := { dst := some 43, op := Op.move (Operand.tmp 41), type := 3, pos := "row.go:111", after := #[], guard := none }
def fill6_o1 : Oper := { dst := some 44, op := Op.index 87 (Operand.tmp 40) (Operand.tmp 41), type := 3, pos := "row.go:111", after := #[], guard := none }
def fill6_o2 : Oper := { dst := some 5, op := Op.assign (Operand.tmp 43), type := 3, pos := "row.go:111", after := #[{ on := 0, ground := Ground.data }, { on := 0, ground := Ground.phase }, { on := 1, ground := Ground.phase }], guard := none }
def fill6_o3 : Oper := { dst := some 6, op := Op.assign (Operand.tmp 44), type := 3, pos := "row.go:111", after := #[{ on := 1, ground := Ground.data }, { on := 2, ground := Ground.chain }, { on := 0, ground := Ground.phase }, { on := 1, ground := Ground.phase }, { on := 2, ground := Ground.phase }], guard := none }
def fill6_ops : Array Oper := #[fill6_o0, fill6_o1, fill6_o2, fill6_o3]
set_option maxRecDepth 100000 in
set_option maxHeartbeats 4000000 in
theorem fill6 {q : Sp} {s : Bool} (a : Act) (w : World) (Q : Exit → Act → World → Prop) (hsz : a.tmps.size = 62)
    (t40 : a.tmps.getD 40 undef = .agg #[.int .i64 (q.l : Int), .int .i64 (q.r : Int)])
    (t41 : a.tmps.getD 41 undef = .int .i64 (nb s : Int))
    (h : ∀ (a' : Act) (w' : World), w' = w → a' = ((((a).put (some 43) (.int .i64 (nb s : Int))).put (some 44) (.int .i64 (dn q s : Int))).put (some 5) (.int .i64 (nb s : Int))).put (some 6) (.int .i64 (dn q s : Int)) → Q .normal a' w') :
    (Code.region 6 fill6_ops false).wp Try.prog Q a w := by
  refine wp_region_list ?_
  change wpList _ _ _ [fill6_o0, fill6_o1, fill6_o2, fill6_o3] _ _
  refine qv (v := .int .i64 (nb s : Int)) (by rfl) (exec_move rfl t41) (fun a0 e0 => ?_)
  rw [← e0] at h
  have z0 := pz e0 hsz
  replace t40 := pk e0 t40
  replace t41 := pk e0 t41
  have t43 := pq e0 hsz
  clear e0 hsz
  refine qv (v := .int .i64 (dn q s : Int)) (by rfl) (ex_ix2 rfl t40 t41) (fun a1 e1 => ?_)
  rw [← e1] at h
  have z1 := pz e1 z0
  replace t43 := pk e1 t43
  clear t40 t41
  have t44 := pq e1 z0
  clear e1 z0
  refine qv (v := .int .i64 (nb s : Int)) (by rfl) (exec_assign rfl t43) (fun a2 e2 => ?_)
  rw [← e2] at h
  have z2 := pz e2 z1
  replace t44 := pk e2 t44
  clear t43
  clear e2 z1
  refine qv (v := .int .i64 (dn q s : Int)) (by rfl) (exec_assign rfl t44) (fun a3 e3 => ?_)
  rw [← e3] at h
  have z3 := pz e3 z2
  clear t44
  clear e3 z2
  exact wpList_nil (h _ _ (rfl) rfl)
def fill9_o0 : Oper := { dst := some 51, op := Op.move (Operand.tmp 0), type := 90, pos := "row.go:115", after := #[], guard := none }
def fill9_o1 : Oper := { dst := some 52, op := Op.move (Operand.tmp 0), type := 90, pos := "row.go:115", after := #[], guard := none }
def fill9_o2 : Oper := { dst := some 53, op := Op.nilCheck (Operand.tmp 52), type := 0, pos := "row.go:115", after := #[{ on := 1, ground := Ground.data }], guard := none }
def fill9_o3 : Oper := { dst := some 54, op := Op.fieldAddr 65 (Operand.tmp 53) 0, type := 0, pos := "row.go:115", after := #[{ on := 2, ground := Ground.data }], guard := none }
def fill9_o4 : Oper := { dst := some 55, op := Op.load 63 (Operand.tmp 54), type := 63, pos := "row.go:115", after := #[{ on := 3, ground := Ground.data }], guard := none }
def fill9_o5 : Oper := { dst := some 56, op := Op.move (Operand.tmp 4), type := 3, pos := "row.go:115", after := #[], guard := none }
def fill9_o6 : Oper := { dst := some 57, op := Op.move (Operand.tmp 4), type := 3, pos := "row.go:115", after := #[], guard := none }
def fill9_o7 : Oper := { dst := some 58, op := Op.binOp BinOp.add 3 (Operand.tmp 57) (Operand.const (Value.int IntKind.i64 1)) 3, type := 3, pos := "row.go:115", after := #[{ on := 6, ground := Ground.data }], guard := none }
def fill9_o8 : Oper := { dst := some 59, op := Op.call { callee := Callee.value (Operand.func 75), args := #[Operand.tmp 55, Operand.tmp 56, Operand.tmp 58], argTypes := #[63, 3, 3] }, type := 63, pos := "row.go:115", after := #[{ on := 4, ground := Ground.data }, { on := 5, ground := Ground.data }, { on := 7, ground := Ground.data }], guard := none }
def fill9_o9 : Oper := { dst := some 60, op := Op.nilCheck (Operand.tmp 51), type := 0, pos := "row.go:115", after := #[{ on := 0, ground := Ground.data }, { on := 0, ground := Ground.phase }, { on := 1, ground := Ground.phase }, { on := 2, ground := Ground.phase }, { on := 3, ground := Ground.phase }, { on := 4, ground := Ground.phase }, { on := 5, ground := Ground.phase }, { on := 6, ground := Ground.phase }, { on := 7, ground := Ground.phase }, { on := 8, ground := Ground.phase }], guard := none }
def fill9_o10 : Oper := { dst := some 61, op := Op.fieldAddr 65 (Operand.tmp 60) 0, type := 0, pos := "row.go:115", after := #[{ on := 9, ground := Ground.data }, { on := 0, ground := Ground.phase }, { on := 1, ground := Ground.phase }, { on := 2, ground := Ground.phase }, { on := 3, ground := Ground.phase }, { on := 4, ground := Ground.phase }, { on := 5, ground := Ground.phase }, { on := 6, ground := Ground.phase }, { on := 7, ground := Ground.phase }, { on := 8, ground := Ground.phase }], guard := none }
def fill9_o11 : Oper := { dst := none, op := Op.store 63 (Operand.tmp 61) (Operand.tmp 59), type := 0, pos := "row.go:115", after := #[{ on := 10, ground := Ground.data }, { on := 8, ground := Ground.data }, { on := 8, ground := Ground.chain }, { on := 0, ground := Ground.phase }, { on := 1, ground := Ground.phase }, { on := 2, ground := Ground.phase }, { on := 3, ground := Ground.phase }, { on := 4, ground := Ground.phase }, { on := 5, ground := Ground.phase }, { on := 6, ground := Ground.phase }, { on := 7, ground := Ground.phase }, { on := 8, ground := Ground.phase }], guard := none }
def fill9_ops : Array Oper := #[fill9_o0, fill9_o1, fill9_o2, fill9_o3, fill9_o4, fill9_o5, fill9_o6, fill9_o7, fill9_o8, fill9_o9, fill9_o10, fill9_o11]
set_option maxRecDepth 100000 in
set_option maxHeartbeats 4000000 in
theorem fill9 {rb ro g cap : Nat} {L : List Sp} {n : Nat} (Fin : World → Prop) (a : Act) (w : World) (Q : Exit → Act → World → Prop) (hsz : a.tmps.size = 62)
    (t0 : a.tmps.getD 0 undef = .pointer (some ⟨rb, ro, none⟩))
    (t4 : a.tmps.getD 4 undef = .int .i64 (n : Int))
    (hR : SqAt w rb ro g cap L) (hs : n + 1 ≤ 9223372036854775807) (CD : Calls Try.prog 75 #[.slice (some ⟨g, 0, none⟩) L.length cap, .int .i64 (n : Int), .int .i64 ((n + 1 : Nat) : Int)] w fun e w' => e = .returned (.slice (some ⟨g, 0, none⟩) n cap) ∧ ∃ w2, (Instr.storeAt 63 (.pointer (some ⟨rb, ro + 0, none⟩)) (.slice (some ⟨g, 0, none⟩) n cap)).run Try.prog w' = .ok () w2 ∧ Fin w2)
    (h : ∀ (a' : Act) (w' : World), Fin w' → a' = (((((((((((a).put (some 51) (.pointer (some ⟨rb, ro, none⟩))).put (some 52) (.pointer (some ⟨rb, ro, none⟩))).put (some 53) (.pointer (some ⟨rb, ro, none⟩))).put (some 54) (.pointer (some ⟨rb, ro + 0, none⟩))).put (some 55) (.slice (some ⟨g, 0, none⟩) (L).length cap)).put (some 56) (.int .i64 (n : Int))).put (some 57) (.int .i64 (n : Int))).put (some 58) (.int .i64 ((n + 1 : Nat) : Int))).put (some 59) (.slice (some ⟨g, 0, none⟩) n cap)).put (some 60) (.pointer (some ⟨rb, ro, none⟩))).put (some 61) (.pointer (some ⟨rb, ro + 0, none⟩)) → Q .normal a' w') :
    (Code.region 9 fill9_ops false).wp Try.prog Q a w := by
  refine wp_region_list ?_
  change wpList _ _ _ [fill9_o0, fill9_o1, fill9_o2, fill9_o3, fill9_o4, fill9_o5, fill9_o6, fill9_o7, fill9_o8, fill9_o9, fill9_o10, fill9_o11] _ _
  refine qv (v := .pointer (some ⟨rb, ro, none⟩)) (by rfl) (exec_move rfl t0) (fun a0 e0 => ?_)
  rw [← e0] at h
  have z0 := pz e0 hsz
  replace t0 := pk e0 t0
  replace t4 := pk e0 t4
  have t51 := pq e0 hsz
  clear e0 hsz
  refine qv (v := .pointer (some ⟨rb, ro, none⟩)) (by rfl) (exec_move rfl t0) (fun a1 e1 => ?_)
  rw [← e1] at h
  have z1 := pz e1 z0
  replace t4 := pk e1 t4
  replace t51 := pk e1 t51
  clear t0
  have t52 := pq e1 z0
  clear e1 z0
  refine qv (v := .pointer (some ⟨rb, ro, none⟩)) (by rfl) (exec_nilCheck rfl t52) (fun a2 e2 => ?_)
  rw [← e2] at h
  have z2 := pz e2 z1
  replace t4 := pk e2 t4
  replace t51 := pk e2 t51
  clear t52
  have t53 := pq e2 z1
  clear e2 z1
  refine qv (v := .pointer (some ⟨rb, ro + 0, none⟩)) (by rfl) (exec_fieldAt rfl t53 (fg_65_0 _ _ _)) (fun a3 e3 => ?_)
  rw [← e3] at h
  have z3 := pz e3 z2
  replace t4 := pk e3 t4
  replace t51 := pk e3 t51
  clear t53
  have t54 := pq e3 z2
  clear e3 z2
  refine qv (v := .slice (some ⟨g, 0, none⟩) (L).length cap) (by rfl) (exec_load rfl t54 (R_sl hR)) (fun a4 e4 => ?_)
  rw [← e4] at h
  have z4 := pz e4 z3
  replace t4 := pk e4 t4
  replace t51 := pk e4 t51
  clear t54
  have t55 := pq e4 z3
  clear e4 z3
  refine qv (v := .int .i64 (n : Int)) (by rfl) (exec_move rfl t4) (fun a5 e5 => ?_)
  rw [← e5] at h
  have z5 := pz e5 z4
  replace t4 := pk e5 t4
  replace t51 := pk e5 t51
  replace t55 := pk e5 t55
  have t56 := pq e5 z4
  clear e5 z4
  refine qv (v := .int .i64 (n : Int)) (by rfl) (exec_move rfl t4) (fun a6 e6 => ?_)
  rw [← e6] at h
  have z6 := pz e6 z5
  replace t51 := pk e6 t51
  replace t55 := pk e6 t55
  replace t56 := pk e6 t56
  clear t4
  have t57 := pq e6 z5
  clear e6 z5
  refine qv (v := .int .i64 ((n + 1 : Nat) : Int)) (by rfl) (ex_addN (q := 1) rfl t57 rfl hs) (fun a7 e7 => ?_)
  rw [← e7] at h
  have z7 := pz e7 z6
  replace t51 := pk e7 t51
  replace t55 := pk e7 t55
  replace t56 := pk e7 t56
  clear t57
  have t58 := pq e7 z6
  clear e7 z6
  refine qc (by rfl) (by unfold fill9_o8; go_simp) (CD) (fun e x8 hx => ?_)
  obtain ⟨rfl, w2, ES, HF⟩ := hx
  refine ⟨_, rfl, fun a8 e8 => ?_⟩
  rw [← e8] at h
  have z8 := pz e8 z7
  replace t51 := pk e8 t51
  clear t55 t56 t58
  have t59 := pq e8 z7
  clear e8 z7
  refine qv (v := .pointer (some ⟨rb, ro, none⟩)) (by rfl) (exec_nilCheck rfl t51) (fun a9 e9 => ?_)
  rw [← e9] at h
  have z9 := pz e9 z8
  replace t59 := pk e9 t59
  clear t51
  have t60 := pq e9 z8
  clear e9 z8
  refine qv (v := .pointer (some ⟨rb, ro + 0, none⟩)) (by rfl) (exec_fieldAt rfl t60 (fg_65_0 _ _ _)) (fun a10 e10 => ?_)
  rw [← e10] at h
  have z10 := pz e10 z9
  replace t59 := pk e10 t59
  clear t60
  have t61 := pq e10 z9
  clear e10 z9
  refine qs (by rfl) (exec_store rfl t61 t59 ES) ?_
  exact wpList_nil (h _ _ (HF) rfl)
def del1_o0 : Oper := { dst := some 8, op := Op.move (Operand.tmp 0), type := 63, pos := "slices.go:225", after := #[], guard := none }
def del1_o1 : Oper := { dst := some 9, op := Op.move (Operand.tmp 1), type := 3, pos := "slices.go:225", after := #[], guard := none }
def del1_o2 : Oper := { dst := some 10, op := Op.move (Operand.tmp 2), type := 3, pos := "slices.go:225", after := #[], guard := none }
def del1_o3 : Oper := { dst := some 11, op := Op.move (Operand.tmp 0), type := 63, pos := "slices.go:225", after := #[], guard := none }
def del1_o4 : Oper := { dst := some 12, op := Op.call { callee := Callee.builtin Builtin.len, args := #[Operand.tmp 11], argTypes := #[63] }, type := 3, pos := "slices.go:225", after := #[{ on := 3, ground := Ground.data }], guard := none }
def del1_o5 : Oper := { dst := some 13, op := Op.slice 63 (Operand.tmp 8) (some (Operand.tmp 9)) (some (Operand.tmp 10)) (some (Operand.tmp 12)), type := 63, pos := "slices.go:225", after := #[{ on := 0, ground := Ground.data }, { on := 1, ground := Ground.data }, { on := 2, ground := Ground.data }, { on := 4, ground := Ground.data }], guard := none }
def del1_ops : Array Oper := #[del1_o0, del1_o1, del1_o2, del1_o3, del1_o4, del1_o5]
set_option maxRecDepth 100000 in
set_option maxHeartbeats 4000000 in
theorem del1 {g n cap : Nat} {sv : Value} (a : Act) (w : World) (Q : Exit → Act → World → Prop) (hsz : a.tmps.size = 33)
    (t0 : a.tmps.getD 0 undef = .slice (some ⟨g, 0, none⟩) (n + 1) cap)
    (t1 : a.tmps.getD 1 undef = .int .i64 (n : Int))
    (t2 : a.tmps.getD 2 undef = .int .i64 ((n + 1 : Nat) : Int))
    (E : ∀ W, (Instr.sliceAt 63 (.slice (some ⟨g, 0, none⟩) (n + 1) cap) (some (.int .i64 (n : Int))) (some (.int .i64 ((n + 1 : Nat) : Int))) (some (.int .i64 ((n + 1 : Nat) : Int)))).run Try.prog W = .ok sv W)
    (h : ∀ (a' : Act) (w' : World), w' = w → a' = ((((((a).put (some 8) (.slice (some ⟨g, 0, none⟩) (n + 1) cap)).put (some 9) (.int .i64 (n : Int))).put (some 10) (.int .i64 ((n + 1 : Nat) : Int))).put (some 11) (.slice (some ⟨g, 0, none⟩) (n + 1) cap)).put (some 12) (.int .i64 ((n + 1 : Nat) : Int))).put (some 13) (sv) → Q .normal a' w') :
    (Code.region 1 del1_ops false).wp Try.prog Q a w := by
  refine wp_region_list ?_
  change wpList _ _ _ [del1_o0, del1_o1, del1_o2, del1_o3, del1_o4, del1_o5] _ _
  refine qv (v := .slice (some ⟨g, 0, none⟩) (n + 1) cap) (by rfl) (exec_move rfl t0) (fun a0 e0 => ?_)
  rw [← e0] at h
  have z0 := pz e0 hsz
  replace t0 := pk e0 t0
  replace t1 := pk e0 t1
  replace t2 := pk e0 t2
  have t8 := pq e0 hsz
  clear e0 hsz
  refine qv (v := .int .i64 (n : Int)) (by rfl) (exec_move rfl t1) (fun a1 e1 => ?_)
  rw [← e1] at h
  have z1 := pz e1 z0
  replace t0 := pk e1 t0
  replace t2 := pk e1 t2
  replace t8 := pk e1 t8
  clear t1
  have t9 := pq e1 z0
  clear e1 z0
  refine qv (v := .int .i64 ((n + 1 : Nat) : Int)) (by rfl) (exec_move rfl t2) (fun a2 e2 => ?_)
  rw [← e2] at h
  have z2 := pz e2 z1
  replace t0 := pk e2 t0
  replace t8 := pk e2 t8
  replace t9 := pk e2 t9
  clear t2
  have t10 := pq e2 z1
  clear e2 z1
  refine qv (v := .slice (some ⟨g, 0, none⟩) (n + 1) cap) (by rfl) (exec_move rfl t0) (fun a3 e3 => ?_)
  rw [← e3] at h
  have z3 := pz e3 z2
  replace t8 := pk e3 t8
  replace t9 := pk e3 t9
  replace t10 := pk e3 t10
  clear t0
  have t11 := pq e3 z2
  clear e3 z2
  refine qv (v := .int .i64 ((n + 1 : Nat) : Int)) (by rfl) (exec_len rfl t11 (len_sl _)) (fun a4 e4 => ?_)
  rw [← e4] at h
  have z4 := pz e4 z3
  replace t8 := pk e4 t8
  replace t9 := pk e4 t9
  replace t10 := pk e4 t10
  clear t11
  have t12 := pq e4 z3
  clear e4 z3
  refine qv (v := sv) (by rfl) (exec_slice rfl t8 (congrArg some t9) (congrArg some t10) (congrArg some t12) (E _)) (fun a5 e5 => ?_)
  rw [← e5] at h
  have z5 := pz e5 z4
  clear t8 t9 t10 t12
  clear e5 z4
  exact wpList_nil (h _ _ (rfl) rfl)
def del5_o0 : Oper := { dst := some 20, op := Op.move (Operand.tmp 0), type := 63, pos := "slices.go:232", after := #[], guard := none }
def del5_o1 : Oper := { dst := some 21, op := Op.move (Operand.tmp 1), type := 3, pos := "slices.go:232", after := #[], guard := none }
def del5_o2 : Oper := { dst := some 22, op := Op.slice 63 (Operand.tmp 20) none (some (Operand.tmp 21)) none, type := 63, pos := "slices.go:232", after := #[{ on := 0, ground := Ground.data }, { on := 1, ground := Ground.data }], guard := none }
def del5_o3 : Oper := { dst := some 23, op := Op.move (Operand.tmp 0), type := 63, pos := "slices.go:232", after := #[], guard := none }
def del5_o4 : Oper := { dst := some 24, op := Op.move (Operand.tmp 2), type := 3, pos := "slices.go:232", after := #[], guard := none }
def del5_o5 : Oper := { dst := some 25, op := Op.slice 63 (Operand.tmp 23) (some (Operand.tmp 24)) none none, type := 63, pos := "slices.go:232", after := #[{ on := 3, ground := Ground.data }, { on := 4, ground := Ground.data }], guard := none }
def del5_o6 : Oper := { dst := some 26, op := Op.call { callee := Callee.builtin Builtin.append, args := #[Operand.tmp 22, Operand.tmp 25], argTypes := #[63, 63] }, type := 63, pos := "slices.go:232", after := #[{ on := 2, ground := Ground.data }, { on := 5, ground := Ground.data }], guard := none }
def del5_o7 : Oper := { dst := some 0, op := Op.assign (Operand.tmp 26), type := 63, pos := "slices.go:232", after := #[{ on := 6, ground := Ground.data }, { on := 6, ground := Ground.chain }, { on := 0, ground := Ground.phase }, { on := 1, ground := Ground.phase }, { on := 2, ground := Ground.phase }, { on := 3, ground := Ground.phase }, { on := 4, ground := Ground.phase }, { on := 5, ground := Ground.phase }, { on := 6, ground := Ground.phase }], guard := none }
def del5_ops : Array Oper := #[del5_o0, del5_o1, del5_o2, del5_o3, del5_o4, del5_o5, del5_o6, del5_o7]
set_option maxRecDepth 100000 in
set_option maxHeartbeats 4000000 in
theorem del5 {g n cap : Nat} {sv : Value} (a : Act) (w : World) (Q : Exit → Act → World → Prop) (hsz : a.tmps.size = 33)
    (t0 : a.tmps.getD 0 undef = .slice (some ⟨g, 0, none⟩) (n + 1) cap)
    (t1 : a.tmps.getD 1 undef = .int .i64 (n : Int))
    (t2 : a.tmps.getD 2 undef = .int .i64 ((n + 1 : Nat) : Int))
    (E1 : ∀ W, (Instr.sliceAt 63 (.slice (some ⟨g, 0, none⟩) (n + 1) cap) none (some (.int .i64 (n : Int))) none).run Try.prog W = .ok (.slice (some ⟨g, 0, none⟩) n cap) W) (E2 : ∀ W, (Instr.sliceAt 63 (.slice (some ⟨g, 0, none⟩) (n + 1) cap) (some (.int .i64 ((n + 1 : Nat) : Int))) none none).run Try.prog W = .ok sv W) (EA : (Builtin.append_ #[63, 63] 63 #[.slice (some ⟨g, 0, none⟩) n cap, sv]).run Try.prog w.drew = .ok (.slice (some ⟨g, 0, none⟩) n cap) w.drew)
    (h : ∀ (a' : Act) (w' : World), w' = w.drew → a' = ((((((((a).put (some 20) (.slice (some ⟨g, 0, none⟩) (n + 1) cap)).put (some 21) (.int .i64 (n : Int))).put (some 22) (.slice (some ⟨g, 0, none⟩) n cap)).put (some 23) (.slice (some ⟨g, 0, none⟩) (n + 1) cap)).put (some 24) (.int .i64 ((n + 1 : Nat) : Int))).put (some 25) (sv)).put (some 26) (.slice (some ⟨g, 0, none⟩) n cap)).put (some 0) (.slice (some ⟨g, 0, none⟩) n cap) → Q .normal a' w') :
    (Code.region 5 del5_ops true).wp Try.prog Q a w := by
  refine wp_region_noPanic ?_
  refine wp_region_held_drew (S := fun w' => w' = w.drew) (by kernel_rfl) (rfl) (fun hHeld => ?_)
  refine wpAnyH_take (i := 0) (oi := del5_o0) (v := .slice (some ⟨g, 0, none⟩) (n + 1) cap) rfl (by kernel_rfl) (by kernel_rfl) (by kernel_rfl) (fun _ _ _ h => h) (Or.inl ⟨by rfl, fun w1 hw => exec_move rfl t0⟩) hHeld ?_
  change wpAnyH _ _ _ _ _ _ _ (a.put (some 20) (.slice (some ⟨g, 0, none⟩) (n + 1) cap)) _
  obtain ⟨a0, e0⟩ : ∃ act, act = a.put (some 20) (.slice (some ⟨g, 0, none⟩) (n + 1) cap) := ⟨_, rfl⟩
  rw [← e0] at h ⊢
  have z0 := pz e0 hsz
  replace t0 := pk e0 t0
  replace t1 := pk e0 t1
  replace t2 := pk e0 t2
  have t20 := pq e0 hsz
  clear e0 hsz
  refine wpAnyH_take (i := 1) (oi := del5_o1) (v := .int .i64 (n : Int)) rfl (by kernel_rfl) (by kernel_rfl) (by kernel_rfl) (fun _ _ _ h => h) (Or.inl ⟨by rfl, fun w1 hw => exec_move rfl t1⟩) hHeld ?_
  change wpAnyH _ _ _ _ _ _ _ (a0.put (some 21) (.int .i64 (n : Int))) _
  obtain ⟨a1, e1⟩ : ∃ act, act = a0.put (some 21) (.int .i64 (n : Int)) := ⟨_, rfl⟩
  rw [← e1] at h ⊢
  have z1 := pz e1 z0
  replace t0 := pk e1 t0
  replace t2 := pk e1 t2
  replace t20 := pk e1 t20
  clear t1
  have t21 := pq e1 z0
  clear e1 z0
  refine wpAnyH_take (i := 2) (oi := del5_o2) (v := .slice (some ⟨g, 0, none⟩) n cap) rfl (by kernel_rfl) (by kernel_rfl) (by kernel_rfl) (fun _ _ _ h => h) (Or.inl ⟨by rfl, fun w1 hw => exec_slice rfl t20 rfl (congrArg some t21) rfl (E1 _)⟩) hHeld ?_
  change wpAnyH _ _ _ _ _ _ _ (a1.put (some 22) (.slice (some ⟨g, 0, none⟩) n cap)) _
  obtain ⟨a2, e2⟩ : ∃ act, act = a1.put (some 22) (.slice (some ⟨g, 0, none⟩) n cap) := ⟨_, rfl⟩
  rw [← e2] at h ⊢
  have z2 := pz e2 z1
  replace t0 := pk e2 t0
  replace t2 := pk e2 t2
  clear t20 t21
  have t22 := pq e2 z1
  clear e2 z1
  refine wpAnyH_take (i := 3) (oi := del5_o3) (v := .slice (some ⟨g, 0, none⟩) (n + 1) cap) rfl (by kernel_rfl) (by kernel_rfl) (by kernel_rfl) (fun _ _ _ h => h) (Or.inl ⟨by rfl, fun w1 hw => exec_move rfl t0⟩) hHeld ?_
  change wpAnyH _ _ _ _ _ _ _ (a2.put (some 23) (.slice (some ⟨g, 0, none⟩) (n + 1) cap)) _
  obtain ⟨a3, e3⟩ : ∃ act, act = a2.put (some 23) (.slice (some ⟨g, 0, none⟩) (n + 1) cap) := ⟨_, rfl⟩
  rw [← e3] at h ⊢
  have z3 := pz e3 z2
  replace t2 := pk e3 t2
  replace t22 := pk e3 t22
  clear t0
  have t23 := pq e3 z2
  clear e3 z2
  refine wpAnyH_take (i := 4) (oi := del5_o4) (v := .int .i64 ((n + 1 : Nat) : Int)) rfl (by kernel_rfl) (by kernel_rfl) (by kernel_rfl) (fun _ _ _ h => h) (Or.inl ⟨by rfl, fun w1 hw => exec_move rfl t2⟩) hHeld ?_
  change wpAnyH _ _ _ _ _ _ _ (a3.put (some 24) (.int .i64 ((n + 1 : Nat) : Int))) _
  obtain ⟨a4, e4⟩ : ∃ act, act = a3.put (some 24) (.int .i64 ((n + 1 : Nat) : Int)) := ⟨_, rfl⟩
  rw [← e4] at h ⊢
  have z4 := pz e4 z3
  replace t22 := pk e4 t22
  replace t23 := pk e4 t23
  clear t2
  have t24 := pq e4 z3
  clear e4 z3
  refine wpAnyH_take (i := 5) (oi := del5_o5) (v := sv) rfl (by kernel_rfl) (by kernel_rfl) (by kernel_rfl) (fun _ _ _ h => h) (Or.inl ⟨by rfl, fun w1 hw => exec_slice rfl t23 (congrArg some t24) rfl rfl (E2 _)⟩) hHeld ?_
  change wpAnyH _ _ _ _ _ _ _ (a4.put (some 25) (sv)) _
  obtain ⟨a5, e5⟩ : ∃ act, act = a4.put (some 25) (sv) := ⟨_, rfl⟩
  rw [← e5] at h ⊢
  have z5 := pz e5 z4
  replace t22 := pk e5 t22
  clear t23 t24
  have t25 := pq e5 z4
  clear e5 z4
  refine wpAnyH_ready (rs := [6]) (by kernel_rfl) (by simp) ?_
  refine AllReadyH.cons (o := del5_o6) rfl (fun K hK => ?_) AllReadyH.nil
  have XX := exec_append (P := Try.prog) (a := a5) (o := del5_o6) rfl t22 t25 (hHeld ▸ EA)
  rw [if_pos (by rfl), Oper.wp, XX]
  show K _ _
  clear XX
  refine hK.out _ _ (hHeld) (fun hHeld => ?_)
  clear hK K
  change wpAnyH _ _ _ _ _ _ _ (a5.put (some 26) (.slice (some ⟨g, 0, none⟩) n cap)) _
  obtain ⟨a6, e6⟩ : ∃ act, act = a5.put (some 26) (.slice (some ⟨g, 0, none⟩) n cap) := ⟨_, rfl⟩
  rw [← e6] at h ⊢
  have z6 := pz e6 z5
  clear t22 t25
  have t26 := pq e6 z5
  clear e6 z5
  refine wpAnyH_take (i := 7) (oi := del5_o7) (v := .slice (some ⟨g, 0, none⟩) n cap) rfl (by kernel_rfl) (by kernel_rfl) (by kernel_rfl) (fun _ _ _ h => h) (Or.inl ⟨by rfl, fun w1 hw => exec_assign rfl t26⟩) hHeld ?_
  change wpAnyH _ _ _ _ _ _ _ (a6.put (some 0) (.slice (some ⟨g, 0, none⟩) n cap)) _
  obtain ⟨a7, e7⟩ : ∃ act, act = a6.put (some 0) (.slice (some ⟨g, 0, none⟩) n cap) := ⟨_, rfl⟩
  rw [← e7] at h ⊢
  have z7 := pz e7 z6
  clear t26
  clear e7 z6
  exact wpAnyH_done (by kernel_rfl) (NoPanic.normal (h _ _ (hHeld) rfl)) _
def del6_o0 : Oper := { dst := some 27, op := Op.move (Operand.tmp 0), type := 63, pos := "slices.go:233", after := #[], guard := none }
def del6_o1 : Oper := { dst := some 28, op := Op.move (Operand.tmp 0), type := 63, pos := "slices.go:233", after := #[], guard := none }
def del6_o2 : Oper := { dst := some 29, op := Op.call { callee := Callee.builtin Builtin.len, args := #[Operand.tmp 28], argTypes := #[63] }, type := 3, pos := "slices.go:233", after := #[{ on := 1, ground := Ground.data }], guard := none }
def del6_o3 : Oper := { dst := some 30, op := Op.move (Operand.tmp 7), type := 3, pos := "slices.go:233", after := #[], guard := none }
def del6_o4 : Oper := { dst := some 31, op := Op.slice 63 (Operand.tmp 27) (some (Operand.tmp 29)) (some (Operand.tmp 30)) none, type := 63, pos := "slices.go:233", after := #[{ on := 0, ground := Ground.data }, { on := 2, ground := Ground.data }, { on := 3, ground := Ground.data }], guard := none }
def del6_o5 : Oper := { dst := none, op := Op.call { callee := Callee.builtin Builtin.clear, args := #[Operand.tmp 31], argTypes := #[63] }, type := 0, pos := "slices.go:233", after := #[{ on := 4, ground := Ground.data }], guard := none }
def del6_ops : Array Oper := #[del6_o0, del6_o1, del6_o2, del6_o3, del6_o4, del6_o5]
set_option maxRecDepth 100000 in
set_option maxHeartbeats 4000000 in
theorem del6 {g n cap : Nat} {vv : Value} {w2 : World} (a : Act) (w : World) (Q : Exit → Act → World → Prop) (hsz : a.tmps.size = 33)
    (t0 : a.tmps.getD 0 undef = .slice (some ⟨g, 0, none⟩) n cap)
    (t7 : a.tmps.getD 7 undef = .int .i64 ((n + 1 : Nat) : Int))
    (E1 : ∀ W, (Instr.sliceAt 63 (.slice (some ⟨g, 0, none⟩) n cap) (some (.int .i64 (n : Int))) (some (.int .i64 ((n + 1 : Nat) : Int))) none).run Try.prog W = .ok (.slice (some ⟨g, n * 73, none⟩) 1 (cap - n)) W) (EC : (Builtin.clear_ #[63] 0 #[.slice (some ⟨g, n * 73, none⟩) 1 (cap - n)]).run Try.prog w = .ok vv w2)
    (h : ∀ (a' : Act) (w' : World), w' = w2 → a' = (((((a).put (some 27) (.slice (some ⟨g, 0, none⟩) n cap)).put (some 28) (.slice (some ⟨g, 0, none⟩) n cap)).put (some 29) (.int .i64 (n : Int))).put (some 30) (.int .i64 ((n + 1 : Nat) : Int))).put (some 31) (.slice (some ⟨g, n * 73, none⟩) 1 (cap - n)) → Q .normal a' w') :
    (Code.region 6 del6_ops false).wp Try.prog Q a w := by
  refine wp_region_list ?_
  change wpList _ _ _ [del6_o0, del6_o1, del6_o2, del6_o3, del6_o4, del6_o5] _ _
  refine qv (v := .slice (some ⟨g, 0, none⟩) n cap) (by rfl) (exec_move rfl t0) (fun a0 e0 => ?_)
  rw [← e0] at h
  have z0 := pz e0 hsz
  replace t0 := pk e0 t0
  replace t7 := pk e0 t7
  have t27 := pq e0 hsz
  clear e0 hsz
  refine qv (v := .slice (some ⟨g, 0, none⟩) n cap) (by rfl) (exec_move rfl t0) (fun a1 e1 => ?_)
  rw [← e1] at h
  have z1 := pz e1 z0
  replace t7 := pk e1 t7
  replace t27 := pk e1 t27
  clear t0
  have t28 := pq e1 z0
  clear e1 z0
  refine qv (v := .int .i64 (n : Int)) (by rfl) (exec_len rfl t28 (len_sl _)) (fun a2 e2 => ?_)
  rw [← e2] at h
  have z2 := pz e2 z1
  replace t7 := pk e2 t7
  replace t27 := pk e2 t27
  clear t28
  have t29 := pq e2 z1
  clear e2 z1
  refine qv (v := .int .i64 ((n + 1 : Nat) : Int)) (by rfl) (exec_move rfl t7) (fun a3 e3 => ?_)
  rw [← e3] at h
  have z3 := pz e3 z2
  replace t27 := pk e3 t27
  replace t29 := pk e3 t29
  clear t7
  have t30 := pq e3 z2
  clear e3 z2
  refine qv (v := .slice (some ⟨g, n * 73, none⟩) 1 (cap - n)) (by rfl) (exec_slice rfl t27 (congrArg some t29) (congrArg some t30) rfl (E1 _)) (fun a4 e4 => ?_)
  rw [← e4] at h
  have z4 := pz e4 z3
  clear t27 t29 t30
  have t31 := pq e4 z3
  clear e4 z3
  refine qd (by rfl) (exec_clear rfl t31 EC) ?_
  exact wpList_nil (h _ _ (rfl) rfl)
end Go.Proofs.Ytpdepbakopdgpaa
