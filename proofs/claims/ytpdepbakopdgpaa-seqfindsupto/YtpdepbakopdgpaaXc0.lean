import Derived.Test.YtpdepbakopdgpaaXb
namespace Go.Proofs.Ytpdepbakopdgpaa
open Go.RowKit Sq
set_option linter.unusedVariables false
set_option linter.unusedSimpArgs false

def RS (rb ro g cap i : Nat) (L : List Sp) (w' : World) : Prop := (Instr.loadAt 63 (.pointer (some ⟨rb, ro + 0, none⟩))).run Try.prog w' = .ok (.slice (some ⟨g, 0, none⟩) L.length cap) w' ∧ (Instr.loadAt 3 (.pointer (some ⟨g, 73 * i + 68, none⟩))).run Try.prog w' = .ok (.int .i64 ((gt L i).up : Int)) w'
def TS (rb ro g cap i : Nat) (c : Bool) (L : List Sp) (w' : World) : Prop := (Instr.loadAt 63 (.pointer (some ⟨rb, ro + 0, none⟩))).run Try.prog w' = .ok (.slice (some ⟨g, 0, none⟩) L.length cap) w' ∧ (Instr.loadAt 3 (.pointer (some ⟨g, 73 * i + 69 + nb true, none⟩))).run Try.prog w' = .ok (.int .i64 (dn (gt L i) true : Int)) w' ∧ (Instr.loadAt 3 (.pointer (some ⟨g, 73 * (dn (gt L i) true) + 71 + nb c, none⟩))).run Try.prog w' = .ok (.int .i64 (ct (gt L (dn (gt L i) true)) c : Int)) w'
def weight1_o0 : Oper := { dst := some 5, op := Op.move (Operand.tmp 0), type := 90, pos := "row.go:187", after := #[], guard := none }
def weight1_o1 : Oper := { dst := some 6, op := Op.nilCheck (Operand.tmp 5), type := 0, pos := "row.go:187", after := #[{ on := 0, ground := Ground.data }], guard := none }
def weight1_o2 : Oper := { dst := some 7, op := Op.fieldAddr 65 (Operand.tmp 6) 0, type := 0, pos := "row.go:187", after := #[{ on := 1, ground := Ground.data }], guard := none }
def weight1_o3 : Oper := { dst := some 8, op := Op.load 63 (Operand.tmp 7), type := 63, pos := "row.go:187", after := #[{ on := 2, ground := Ground.data }], guard := none }
def weight1_o4 : Oper := { dst := some 9, op := Op.move (Operand.tmp 1), type := 3, pos := "row.go:187", after := #[], guard := none }
def weight1_o5 : Oper := { dst := some 10, op := Op.indexAddr 63 (Operand.tmp 8) (Operand.tmp 9), type := 0, pos := "row.go:187", after := #[{ on := 3, ground := Ground.data }, { on := 4, ground := Ground.data }], guard := none }
def weight1_o6 : Oper := { dst := some 11, op := Op.fieldAddr 89 (Operand.tmp 10) 4, type := 0, pos := "row.go:187", after := #[{ on := 5, ground := Ground.data }], guard := none }
def weight1_o7 : Oper := { dst := some 12, op := Op.indexAddr 87 (Operand.tmp 11) (Operand.const (Value.int IntKind.i64 0)), type := 0, pos := "row.go:187", after := #[{ on := 6, ground := Ground.data }], guard := none }
def weight1_o8 : Oper := { dst := some 13, op := Op.load 3 (Operand.tmp 12), type := 3, pos := "row.go:187", after := #[{ on := 7, ground := Ground.data }], guard := none }
def weight1_o9 : Oper := { dst := some 14, op := Op.binOp BinOp.add 3 (Operand.tmp 13) (Operand.const (Value.int IntKind.i64 1)) 3, type := 3, pos := "row.go:187", after := #[{ on := 8, ground := Ground.data }], guard := none }
def weight1_o10 : Oper := { dst := some 4, op := Op.assign (Operand.tmp 14), type := 3, pos := "row.go:187", after := #[{ on := 9, ground := Ground.data }, { on := 0, ground := Ground.phase }, { on := 1, ground := Ground.phase }, { on := 2, ground := Ground.phase }, { on := 3, ground := Ground.phase }, { on := 4, ground := Ground.phase }, { on := 5, ground := Ground.phase }, { on := 6, ground := Ground.phase }, { on := 7, ground := Ground.phase }, { on := 8, ground := Ground.phase }, { on := 9, ground := Ground.phase }], guard := none }
def weight1_ops : Array Oper := #[weight1_o0, weight1_o1, weight1_o2, weight1_o3, weight1_o4, weight1_o5, weight1_o6, weight1_o7, weight1_o8, weight1_o9, weight1_o10]
set_option maxRecDepth 100000 in
set_option maxHeartbeats 4000000 in
theorem weight1 {rb ro g cap : Nat} {L : List Sp} {i : Nat} (a : Act) (w : World) (Q : Exit → Act → World → Prop) (hsz : a.tmps.size = 15)
    (t0 : a.tmps.getD 0 undef = .pointer (some ⟨rb, ro, none⟩))
    (t1 : a.tmps.getD 1 undef = .int .i64 (i : Int))
    (hR : SqAt w rb ro g cap L) (hi : i < L.length) (hs : ct (gt L i) false + 1 ≤ 9223372036854775807)
    (h : ∀ (a' : Act) (w' : World), w' = w → a' = (((((((((((a).put (some 5) (.pointer (some ⟨rb, ro, none⟩))).put (some 6) (.pointer (some ⟨rb, ro, none⟩))).put (some 7) (.pointer (some ⟨rb, ro + 0, none⟩))).put (some 8) (.slice (some ⟨g, 0, none⟩) (L).length cap)).put (some 9) (.int .i64 (i : Int))).put (some 10) (.pointer (some ⟨g, 73 * i, none⟩))).put (some 11) (.pointer (some ⟨g, 73 * i + 71, none⟩))).put (some 12) (.pointer (some ⟨g, 73 * i + 71 + nb false, none⟩))).put (some 13) (.int .i64 (ct (gt L i) false : Int))).put (some 14) (.int .i64 ((ct (gt L i) false + 1 : Nat) : Int))).put (some 4) (.int .i64 ((ct (gt L i) false + 1 : Nat) : Int)) → Q .normal a' w') :
    (Code.region 1 weight1_ops false).wp Try.prog Q a w := by
  refine wp_region_list ?_
  change wpList _ _ _ [weight1_o0, weight1_o1, weight1_o2, weight1_o3, weight1_o4, weight1_o5, weight1_o6, weight1_o7, weight1_o8, weight1_o9, weight1_o10] _ _
  refine qv (v := .pointer (some ⟨rb, ro, none⟩)) (by rfl) (exec_move rfl t0) (fun a0 e0 => ?_)
  rw [← e0] at h
  have z0 := pz e0 hsz
  replace t1 := pk e0 t1
  clear t0
  have t5 := pq e0 hsz
  clear e0 hsz
  refine qv (v := .pointer (some ⟨rb, ro, none⟩)) (by rfl) (exec_nilCheck rfl t5) (fun a1 e1 => ?_)
  rw [← e1] at h
  have z1 := pz e1 z0
  replace t1 := pk e1 t1
  clear t5
  have t6 := pq e1 z0
  clear e1 z0
  refine qv (v := .pointer (some ⟨rb, ro + 0, none⟩)) (by rfl) (exec_fieldAt rfl t6 (fg_65_0 _ _ _)) (fun a2 e2 => ?_)
  rw [← e2] at h
  have z2 := pz e2 z1
  replace t1 := pk e2 t1
  clear t6
  have t7 := pq e2 z1
  clear e2 z1
  refine qv (v := .slice (some ⟨g, 0, none⟩) (L).length cap) (by rfl) (exec_load rfl t7 (R_sl hR)) (fun a3 e3 => ?_)
  rw [← e3] at h
  have z3 := pz e3 z2
  replace t1 := pk e3 t1
  clear t7
  have t8 := pq e3 z2
  clear e3 z2
  refine qv (v := .int .i64 (i : Int)) (by rfl) (exec_move rfl t1) (fun a4 e4 => ?_)
  rw [← e4] at h
  have z4 := pz e4 z3
  replace t8 := pk e4 t8
  clear t1
  have t9 := pq e4 z3
  clear e4 z3
  refine qv (v := .pointer (some ⟨g, 73 * i, none⟩)) (by rfl) (exec_indexAt rfl t8 t9 (R_ix hi hR.len _)) (fun a5 e5 => ?_)
  rw [← e5] at h
  have z5 := pz e5 z4
  clear t8 t9
  have t10 := pq e5 z4
  clear e5 z4
  refine qv (v := .pointer (some ⟨g, 73 * i + 71, none⟩)) (by rfl) (exec_fieldAt rfl t10 (fg_89_4 _ _ _)) (fun a6 e6 => ?_)
  rw [← e6] at h
  have z6 := pz e6 z5
  clear t10
  have t11 := pq e6 z5
  clear e6 z5
  refine qv (v := .pointer (some ⟨g, 73 * i + 71 + nb false, none⟩)) (by rfl) (exec_indexAt rfl t11 rfl (ix_a0 _ _)) (fun a7 e7 => ?_)
  rw [← e7] at h
  have z7 := pz e7 z6
  clear t11
  have t12 := pq e7 z6
  clear e7 z6
  refine qv (v := .int .i64 (ct (gt L i) false : Int)) (by rfl) (exec_load rfl t12 (R_ct hR hi false)) (fun a8 e8 => ?_)
  rw [← e8] at h
  have z8 := pz e8 z7
  clear t12
  have t13 := pq e8 z7
  clear e8 z7
  refine qv (v := .int .i64 ((ct (gt L i) false + 1 : Nat) : Int)) (by rfl) (ex_addN (q := 1) rfl t13 rfl hs) (fun a9 e9 => ?_)
  rw [← e9] at h
  have z9 := pz e9 z8
  clear t13
  have t14 := pq e9 z8
  clear e9 z8
  refine qv (v := .int .i64 ((ct (gt L i) false + 1 : Nat) : Int)) (by rfl) (exec_assign rfl t14) (fun a10 e10 => ?_)
  rw [← e10] at h
  have z10 := pz e10 z9
  clear t14
  clear e10 z9
  exact wpList_nil (h _ _ (rfl) rfl)
def under1_o0 : Oper := { dst := some 9, op := Op.move (Operand.tmp 0), type := 90, pos := "row.go:174", after := #[], guard := none }
def under1_o1 : Oper := { dst := some 10, op := Op.nilCheck (Operand.tmp 9), type := 0, pos := "row.go:174", after := #[{ on := 0, ground := Ground.data }], guard := none }
def under1_o2 : Oper := { dst := some 11, op := Op.fieldAddr 65 (Operand.tmp 10) 0, type := 0, pos := "row.go:174", after := #[{ on := 1, ground := Ground.data }], guard := none }
def under1_o3 : Oper := { dst := some 12, op := Op.load 63 (Operand.tmp 11), type := 63, pos := "row.go:174", after := #[{ on := 2, ground := Ground.data }], guard := none }
def under1_o4 : Oper := { dst := some 13, op := Op.move (Operand.tmp 0), type := 90, pos := "row.go:174", after := #[], guard := none }
def under1_o5 : Oper := { dst := some 14, op := Op.nilCheck (Operand.tmp 13), type := 0, pos := "row.go:174", after := #[{ on := 4, ground := Ground.data }], guard := none }
def under1_o6 : Oper := { dst := some 15, op := Op.fieldAddr 65 (Operand.tmp 14) 0, type := 0, pos := "row.go:174", after := #[{ on := 5, ground := Ground.data }], guard := none }
def under1_o7 : Oper := { dst := some 16, op := Op.load 63 (Operand.tmp 15), type := 63, pos := "row.go:174", after := #[{ on := 6, ground := Ground.data }], guard := none }
def under1_o8 : Oper := { dst := some 17, op := Op.move (Operand.tmp 1), type := 3, pos := "row.go:174", after := #[], guard := none }
def under1_o9 : Oper := { dst := some 18, op := Op.move (Operand.tmp 2), type := 3, pos := "row.go:174", after := #[], guard := none }
def under1_o10 : Oper := { dst := some 19, op := Op.indexAddr 63 (Operand.tmp 16) (Operand.tmp 17), type := 0, pos := "row.go:174", after := #[{ on := 7, ground := Ground.data }, { on := 8, ground := Ground.data }], guard := none }
def under1_o11 : Oper := { dst := some 20, op := Op.fieldAddr 89 (Operand.tmp 19) 3, type := 0, pos := "row.go:174", after := #[{ on := 10, ground := Ground.data }], guard := none }
def under1_o12 : Oper := { dst := some 21, op := Op.indexAddr 87 (Operand.tmp 20) (Operand.tmp 18), type := 0, pos := "row.go:174", after := #[{ on := 11, ground := Ground.data }, { on := 9, ground := Ground.data }], guard := none }
def under1_o13 : Oper := { dst := some 22, op := Op.load 3 (Operand.tmp 21), type := 3, pos := "row.go:174", after := #[{ on := 12, ground := Ground.data }], guard := none }
def under1_o14 : Oper := { dst := some 23, op := Op.move (Operand.tmp 3), type := 3, pos := "row.go:174", after := #[], guard := none }
def under1_o15 : Oper := { dst := some 24, op := Op.indexAddr 63 (Operand.tmp 12) (Operand.tmp 22), type := 0, pos := "row.go:174", after := #[{ on := 3, ground := Ground.data }, { on := 13, ground := Ground.data }], guard := none }
def under1_o16 : Oper := { dst := some 25, op := Op.fieldAddr 89 (Operand.tmp 24) 4, type := 0, pos := "row.go:174", after := #[{ on := 15, ground := Ground.data }], guard := none }
def under1_o17 : Oper := { dst := some 26, op := Op.indexAddr 87 (Operand.tmp 25) (Operand.tmp 23), type := 0, pos := "row.go:174", after := #[{ on := 16, ground := Ground.data }, { on := 14, ground := Ground.data }], guard := none }
def under1_o18 : Oper := { dst := some 27, op := Op.load 3 (Operand.tmp 26), type := 3, pos := "row.go:174", after := #[{ on := 17, ground := Ground.data }], guard := none }
def under1_o19 : Oper := { dst := some 8, op := Op.assign (Operand.tmp 27), type := 3, pos := "row.go:174", after := #[{ on := 18, ground := Ground.data }, { on := 0, ground := Ground.phase }, { on := 1, ground := Ground.phase }, { on := 2, ground := Ground.phase }, { on := 3, ground := Ground.phase }, { on := 4, ground := Ground.phase }, { on := 5, ground := Ground.phase }, { on := 6, ground := Ground.phase }, { on := 7, ground := Ground.phase }, { on := 8, ground := Ground.phase }, { on := 9, ground := Ground.phase }, { on := 10, ground := Ground.phase }, { on := 11, ground := Ground.phase }, { on := 12, ground := Ground.phase }, { on := 13, ground := Ground.phase }, { on := 14, ground := Ground.phase }, { on := 15, ground := Ground.phase }, { on := 16, ground := Ground.phase }, { on := 17, ground := Ground.phase }, { on := 18, ground := Ground.phase }], guard := none }
def under1_ops : Array Oper := #[under1_o0, under1_o1, under1_o2, under1_o3, under1_o4, under1_o5, under1_o6, under1_o7, under1_o8, under1_o9, under1_o10, under1_o11, under1_o12, under1_o13, under1_o14, under1_o15, under1_o16, under1_o17, under1_o18, under1_o19]
set_option maxRecDepth 100000 in
set_option maxHeartbeats 4000000 in
theorem under1 {rb ro g cap : Nat} {L : List Sp} {i : Nat} {b c : Bool} (a : Act) (w : World) (Q : Exit → Act → World → Prop) (hsz : a.tmps.size = 28)
    (t0 : a.tmps.getD 0 undef = .pointer (some ⟨rb, ro, none⟩))
    (t1 : a.tmps.getD 1 undef = .int .i64 (i : Int))
    (t2 : a.tmps.getD 2 undef = .int .i64 (nb b : Int))
    (t3 : a.tmps.getD 3 undef = .int .i64 (nb c : Int))
    (hR : SqAt w rb ro g cap L) (hi : i < L.length) (hd : dn (gt L i) b < L.length)
    (h : ∀ (a' : Act) (w' : World), w' = w.drew → a' = ((((((((((((((((((((a).put (some 9) (.pointer (some ⟨rb, ro, none⟩))).put (some 10) (.pointer (some ⟨rb, ro, none⟩))).put (some 11) (.pointer (some ⟨rb, ro + 0, none⟩))).put (some 12) (.slice (some ⟨g, 0, none⟩) (L).length cap)).put (some 13) (.pointer (some ⟨rb, ro, none⟩))).put (some 14) (.pointer (some ⟨rb, ro, none⟩))).put (some 15) (.pointer (some ⟨rb, ro + 0, none⟩))).put (some 16) (.slice (some ⟨g, 0, none⟩) (L).length cap)).put (some 17) (.int .i64 (i : Int))).put (some 18) (.int .i64 (nb b : Int))).put (some 19) (.pointer (some ⟨g, 73 * i, none⟩))).put (some 20) (.pointer (some ⟨g, 73 * i + 69, none⟩))).put (some 21) (.pointer (some ⟨g, 73 * i + 69 + nb b, none⟩))).put (some 22) (.int .i64 (dn (gt L i) b : Int))).put (some 23) (.int .i64 (nb c : Int))).put (some 24) (.pointer (some ⟨g, 73 * (dn (gt L i) b), none⟩))).put (some 25) (.pointer (some ⟨g, 73 * (dn (gt L i) b) + 71, none⟩))).put (some 26) (.pointer (some ⟨g, 73 * (dn (gt L i) b) + 71 + nb c, none⟩))).put (some 27) (.int .i64 (ct (gt L (dn (gt L i) b)) c : Int))).put (some 8) (.int .i64 (ct (gt L (dn (gt L i) b)) c : Int)) → Q .normal a' w') :
    (Code.region 1 under1_ops true).wp Try.prog Q a w := by
  refine wp_region_noPanic ?_
  refine wp_region_held_drew (S := fun w' => w' = w.drew) (by kernel_rfl) (rfl) (fun hHeld => ?_)
  refine wpAnyH_take (i := 0) (oi := under1_o0) (v := .pointer (some ⟨rb, ro, none⟩)) rfl (by kernel_rfl) (by kernel_rfl) (by kernel_rfl) (fun _ _ _ h => h) (Or.inl ⟨by rfl, fun w1 hw => exec_move rfl t0⟩) hHeld ?_
  change wpAnyH _ _ _ _ _ _ _ (a.put (some 9) (.pointer (some ⟨rb, ro, none⟩))) _
  obtain ⟨a0, e0⟩ : ∃ act, act = a.put (some 9) (.pointer (some ⟨rb, ro, none⟩)) := ⟨_, rfl⟩
  rw [← e0] at h ⊢
  have z0 := pz e0 hsz
  replace t0 := pk e0 t0
  replace t1 := pk e0 t1
  replace t2 := pk e0 t2
  replace t3 := pk e0 t3
  have t9 := pq e0 hsz
  clear e0 hsz
  refine wpAnyH_take (i := 1) (oi := under1_o1) (v := .pointer (some ⟨rb, ro, none⟩)) rfl (by kernel_rfl) (by kernel_rfl) (by kernel_rfl) (fun _ _ _ h => h) (Or.inl ⟨by rfl, fun w1 hw => exec_nilCheck rfl t9⟩) hHeld ?_
  change wpAnyH _ _ _ _ _ _ _ (a0.put (some 10) (.pointer (some ⟨rb, ro, none⟩))) _
  obtain ⟨a1, e1⟩ : ∃ act, act = a0.put (some 10) (.pointer (some ⟨rb, ro, none⟩)) := ⟨_, rfl⟩
  rw [← e1] at h ⊢
  have z1 := pz e1 z0
  replace t0 := pk e1 t0
  replace t1 := pk e1 t1
  replace t2 := pk e1 t2
  replace t3 := pk e1 t3
  clear t9
  have t10 := pq e1 z0
  clear e1 z0
  refine wpAnyH_take (i := 2) (oi := under1_o2) (v := .pointer (some ⟨rb, ro + 0, none⟩)) rfl (by kernel_rfl) (by kernel_rfl) (by kernel_rfl) (fun _ _ _ h => h) (Or.inl ⟨by rfl, fun w1 hw => exec_fieldAt rfl t10 (fg_65_0 _ _ _)⟩) hHeld ?_
  change wpAnyH _ _ _ _ _ _ _ (a1.put (some 11) (.pointer (some ⟨rb, ro + 0, none⟩))) _
  obtain ⟨a2, e2⟩ : ∃ act, act = a1.put (some 11) (.pointer (some ⟨rb, ro + 0, none⟩)) := ⟨_, rfl⟩
  rw [← e2] at h ⊢
  have z2 := pz e2 z1
  replace t0 := pk e2 t0
  replace t1 := pk e2 t1
  replace t2 := pk e2 t2
  replace t3 := pk e2 t3
  clear t10
  have t11 := pq e2 z1
  clear e2 z1
  refine wpAnyH_take (i := 3) (oi := under1_o3) (v := .slice (some ⟨g, 0, none⟩) (L).length cap) rfl (by kernel_rfl) (by kernel_rfl) (by kernel_rfl) (fun _ _ _ h => h) (Or.inl ⟨by rfl, fun w1 hw => exec_load rfl t11 (R_sl (hw ▸ hR.drew))⟩) hHeld ?_
  change wpAnyH _ _ _ _ _ _ _ (a2.put (some 12) (.slice (some ⟨g, 0, none⟩) (L).length cap)) _
  obtain ⟨a3, e3⟩ : ∃ act, act = a2.put (some 12) (.slice (some ⟨g, 0, none⟩) (L).length cap) := ⟨_, rfl⟩
  rw [← e3] at h ⊢
  have z3 := pz e3 z2
  replace t0 := pk e3 t0
  replace t1 := pk e3 t1
  replace t2 := pk e3 t2
  replace t3 := pk e3 t3
  clear t11
  have t12 := pq e3 z2
  clear e3 z2
  refine wpAnyH_take (i := 4) (oi := under1_o4) (v := .pointer (some ⟨rb, ro, none⟩)) rfl (by kernel_rfl) (by kernel_rfl) (by kernel_rfl) (fun _ _ _ h => h) (Or.inl ⟨by rfl, fun w1 hw => exec_move rfl t0⟩) hHeld ?_
  change wpAnyH _ _ _ _ _ _ _ (a3.put (some 13) (.pointer (some ⟨rb, ro, none⟩))) _
  obtain ⟨a4, e4⟩ : ∃ act, act = a3.put (some 13) (.pointer (some ⟨rb, ro, none⟩)) := ⟨_, rfl⟩
  rw [← e4] at h ⊢
  have z4 := pz e4 z3
  replace t1 := pk e4 t1
  replace t2 := pk e4 t2
  replace t3 := pk e4 t3
  replace t12 := pk e4 t12
  clear t0
  have t13 := pq e4 z3
  clear e4 z3
  refine wpAnyH_take (i := 5) (oi := under1_o5) (v := .pointer (some ⟨rb, ro, none⟩)) rfl (by kernel_rfl) (by kernel_rfl) (by kernel_rfl) (fun _ _ _ h => h) (Or.inl ⟨by rfl, fun w1 hw => exec_nilCheck rfl t13⟩) hHeld ?_
  change wpAnyH _ _ _ _ _ _ _ (a4.put (some 14) (.pointer (some ⟨rb, ro, none⟩))) _
  obtain ⟨a5, e5⟩ : ∃ act, act = a4.put (some 14) (.pointer (some ⟨rb, ro, none⟩)) := ⟨_, rfl⟩
  rw [← e5] at h ⊢
  have z5 := pz e5 z4
  replace t1 := pk e5 t1
  replace t2 := pk e5 t2
  replace t3 := pk e5 t3
  replace t12 := pk e5 t12
  clear t13
  have t14 := pq e5 z4
  clear e5 z4
  refine wpAnyH_take (i := 6) (oi := under1_o6) (v := .pointer (some ⟨rb, ro + 0, none⟩)) rfl (by kernel_rfl) (by kernel_rfl) (by kernel_rfl) (fun _ _ _ h => h) (Or.inl ⟨by rfl, fun w1 hw => exec_fieldAt rfl t14 (fg_65_0 _ _ _)⟩) hHeld ?_
  change wpAnyH _ _ _ _ _ _ _ (a5.put (some 15) (.pointer (some ⟨rb, ro + 0, none⟩))) _
  obtain ⟨a6, e6⟩ : ∃ act, act = a5.put (some 15) (.pointer (some ⟨rb, ro + 0, none⟩)) := ⟨_, rfl⟩
  rw [← e6] at h ⊢
  have z6 := pz e6 z5
  replace t1 := pk e6 t1
  replace t2 := pk e6 t2
  replace t3 := pk e6 t3
  replace t12 := pk e6 t12
  clear t14
  have t15 := pq e6 z5
  clear e6 z5
  refine wpAnyH_take (i := 7) (oi := under1_o7) (v := .slice (some ⟨g, 0, none⟩) (L).length cap) rfl (by kernel_rfl) (by kernel_rfl) (by kernel_rfl) (fun _ _ _ h => h) (Or.inl ⟨by rfl, fun w1 hw => exec_load rfl t15 (R_sl (hw ▸ hR.drew))⟩) hHeld ?_
  change wpAnyH _ _ _ _ _ _ _ (a6.put (some 16) (.slice (some ⟨g, 0, none⟩) (L).length cap)) _
  obtain ⟨a7, e7⟩ : ∃ act, act = a6.put (some 16) (.slice (some ⟨g, 0, none⟩) (L).length cap) := ⟨_, rfl⟩
  rw [← e7] at h ⊢
  have z7 := pz e7 z6
  replace t1 := pk e7 t1
  replace t2 := pk e7 t2
  replace t3 := pk e7 t3
  replace t12 := pk e7 t12
  clear t15
  have t16 := pq e7 z6
  clear e7 z6
  refine wpAnyH_take (i := 8) (oi := under1_o8) (v := .int .i64 (i : Int)) rfl (by kernel_rfl) (by kernel_rfl) (by kernel_rfl) (fun _ _ _ h => h) (Or.inl ⟨by rfl, fun w1 hw => exec_move rfl t1⟩) hHeld ?_
  change wpAnyH _ _ _ _ _ _ _ (a7.put (some 17) (.int .i64 (i : Int))) _
  obtain ⟨a8, e8⟩ : ∃ act, act = a7.put (some 17) (.int .i64 (i : Int)) := ⟨_, rfl⟩
  rw [← e8] at h ⊢
  have z8 := pz e8 z7
  replace t2 := pk e8 t2
  replace t3 := pk e8 t3
  replace t12 := pk e8 t12
  replace t16 := pk e8 t16
  clear t1
  have t17 := pq e8 z7
  clear e8 z7
  refine wpAnyH_take (i := 9) (oi := under1_o9) (v := .int .i64 (nb b : Int)) rfl (by kernel_rfl) (by kernel_rfl) (by kernel_rfl) (fun _ _ _ h => h) (Or.inl ⟨by rfl, fun w1 hw => exec_move rfl t2⟩) hHeld ?_
  change wpAnyH _ _ _ _ _ _ _ (a8.put (some 18) (.int .i64 (nb b : Int))) _
  obtain ⟨a9, e9⟩ : ∃ act, act = a8.put (some 18) (.int .i64 (nb b : Int)) := ⟨_, rfl⟩
  rw [← e9] at h ⊢
  have z9 := pz e9 z8
  replace t3 := pk e9 t3
  replace t12 := pk e9 t12
  replace t16 := pk e9 t16
  replace t17 := pk e9 t17
  clear t2
  have t18 := pq e9 z8
  clear e9 z8
  refine wpAnyH_take (i := 10) (oi := under1_o10) (v := .pointer (some ⟨g, 73 * i, none⟩)) rfl (by kernel_rfl) (by kernel_rfl) (by kernel_rfl) (fun _ _ _ h => h) (Or.inl ⟨by rfl, fun w1 hw => exec_indexAt rfl t16 t17 (R_ix hi hR.len _)⟩) hHeld ?_
  change wpAnyH _ _ _ _ _ _ _ (a9.put (some 19) (.pointer (some ⟨g, 73 * i, none⟩))) _
  obtain ⟨a10, e10⟩ : ∃ act, act = a9.put (some 19) (.pointer (some ⟨g, 73 * i, none⟩)) := ⟨_, rfl⟩
  rw [← e10] at h ⊢
  have z10 := pz e10 z9
  replace t3 := pk e10 t3
  replace t12 := pk e10 t12
  replace t18 := pk e10 t18
  clear t16 t17
  have t19 := pq e10 z9
  clear e10 z9
  refine wpAnyH_take (i := 11) (oi := under1_o11) (v := .pointer (some ⟨g, 73 * i + 69, none⟩)) rfl (by kernel_rfl) (by kernel_rfl) (by kernel_rfl) (fun _ _ _ h => h) (Or.inl ⟨by rfl, fun w1 hw => exec_fieldAt rfl t19 (fg_89_3 _ _ _)⟩) hHeld ?_
  change wpAnyH _ _ _ _ _ _ _ (a10.put (some 20) (.pointer (some ⟨g, 73 * i + 69, none⟩))) _
  obtain ⟨a11, e11⟩ : ∃ act, act = a10.put (some 20) (.pointer (some ⟨g, 73 * i + 69, none⟩)) := ⟨_, rfl⟩
  rw [← e11] at h ⊢
  have z11 := pz e11 z10
  replace t3 := pk e11 t3
  replace t12 := pk e11 t12
  replace t18 := pk e11 t18
  clear t19
  have t20 := pq e11 z10
  clear e11 z10
  refine wpAnyH_take (i := 12) (oi := under1_o12) (v := .pointer (some ⟨g, 73 * i + 69 + nb b, none⟩)) rfl (by kernel_rfl) (by kernel_rfl) (by kernel_rfl) (fun _ _ _ h => h) (Or.inl ⟨by rfl, fun w1 hw => exec_indexAt rfl t20 t18 (ix_ar _ b _)⟩) hHeld ?_
  change wpAnyH _ _ _ _ _ _ _ (a11.put (some 21) (.pointer (some ⟨g, 73 * i + 69 + nb b, none⟩))) _
  obtain ⟨a12, e12⟩ : ∃ act, act = a11.put (some 21) (.pointer (some ⟨g, 73 * i + 69 + nb b, none⟩)) := ⟨_, rfl⟩
  rw [← e12] at h ⊢
  have z12 := pz e12 z11
  replace t3 := pk e12 t3
  replace t12 := pk e12 t12
  clear t18 t20
  have t21 := pq e12 z11
  clear e12 z11
  refine wpAnyH_take (i := 13) (oi := under1_o13) (v := .int .i64 (dn (gt L i) b : Int)) rfl (by kernel_rfl) (by kernel_rfl) (by kernel_rfl) (fun _ _ _ h => h) (Or.inl ⟨by rfl, fun w1 hw => exec_load rfl t21 (R_dn (hw ▸ hR.drew) hi b)⟩) hHeld ?_
  change wpAnyH _ _ _ _ _ _ _ (a12.put (some 22) (.int .i64 (dn (gt L i) b : Int))) _
  obtain ⟨a13, e13⟩ : ∃ act, act = a12.put (some 22) (.int .i64 (dn (gt L i) b : Int)) := ⟨_, rfl⟩
  rw [← e13] at h ⊢
  have z13 := pz e13 z12
  replace t3 := pk e13 t3
  replace t12 := pk e13 t12
  clear t21
  have t22 := pq e13 z12
  clear e13 z12
  refine wpAnyH_take (i := 14) (oi := under1_o14) (v := .int .i64 (nb c : Int)) rfl (by kernel_rfl) (by kernel_rfl) (by kernel_rfl) (fun _ _ _ h => h) (Or.inl ⟨by rfl, fun w1 hw => exec_move rfl t3⟩) hHeld ?_
  change wpAnyH _ _ _ _ _ _ _ (a13.put (some 23) (.int .i64 (nb c : Int))) _
  obtain ⟨a14, e14⟩ : ∃ act, act = a13.put (some 23) (.int .i64 (nb c : Int)) := ⟨_, rfl⟩
  rw [← e14] at h ⊢
  have z14 := pz e14 z13
  replace t12 := pk e14 t12
  replace t22 := pk e14 t22
  clear t3
  have t23 := pq e14 z13
  clear e14 z13
  refine wpAnyH_take (i := 15) (oi := under1_o15) (v := .pointer (some ⟨g, 73 * (dn (gt L i) b), none⟩)) rfl (by kernel_rfl) (by kernel_rfl) (by kernel_rfl) (fun _ _ _ h => h) (Or.inl ⟨by rfl, fun w1 hw => exec_indexAt rfl t12 t22 (R_ix hd hR.len _)⟩) hHeld ?_
  change wpAnyH _ _ _ _ _ _ _ (a14.put (some 24) (.pointer (some ⟨g, 73 * (dn (gt L i) b), none⟩))) _
  obtain ⟨a15, e15⟩ : ∃ act, act = a14.put (some 24) (.pointer (some ⟨g, 73 * (dn (gt L i) b), none⟩)) := ⟨_, rfl⟩
  rw [← e15] at h ⊢
  have z15 := pz e15 z14
  replace t23 := pk e15 t23
  clear t12 t22
  have t24 := pq e15 z14
  clear e15 z14
  refine wpAnyH_take (i := 16) (oi := under1_o16) (v := .pointer (some ⟨g, 73 * (dn (gt L i) b) + 71, none⟩)) rfl (by kernel_rfl) (by kernel_rfl) (by kernel_rfl) (fun _ _ _ h => h) (Or.inl ⟨by rfl, fun w1 hw => exec_fieldAt rfl t24 (fg_89_4 _ _ _)⟩) hHeld ?_
  change wpAnyH _ _ _ _ _ _ _ (a15.put (some 25) (.pointer (some ⟨g, 73 * (dn (gt L i) b) + 71, none⟩))) _
  obtain ⟨a16, e16⟩ : ∃ act, act = a15.put (some 25) (.pointer (some ⟨g, 73 * (dn (gt L i) b) + 71, none⟩)) := ⟨_, rfl⟩
  rw [← e16] at h ⊢
  have z16 := pz e16 z15
  replace t23 := pk e16 t23
  clear t24
  have t25 := pq e16 z15
  clear e16 z15
  refine wpAnyH_take (i := 17) (oi := under1_o17) (v := .pointer (some ⟨g, 73 * (dn (gt L i) b) + 71 + nb c, none⟩)) rfl (by kernel_rfl) (by kernel_rfl) (by kernel_rfl) (fun _ _ _ h => h) (Or.inl ⟨by rfl, fun w1 hw => exec_indexAt rfl t25 t23 (ix_ar _ c _)⟩) hHeld ?_
  change wpAnyH _ _ _ _ _ _ _ (a16.put (some 26) (.pointer (some ⟨g, 73 * (dn (gt L i) b) + 71 + nb c, none⟩))) _
  obtain ⟨a17, e17⟩ : ∃ act, act = a16.put (some 26) (.pointer (some ⟨g, 73 * (dn (gt L i) b) + 71 + nb c, none⟩)) := ⟨_, rfl⟩
  rw [← e17] at h ⊢
  have z17 := pz e17 z16
  clear t23 t25
  have t26 := pq e17 z16
  clear e17 z16
  refine wpAnyH_take (i := 18) (oi := under1_o18) (v := .int .i64 (ct (gt L (dn (gt L i) b)) c : Int)) rfl (by kernel_rfl) (by kernel_rfl) (by kernel_rfl) (fun _ _ _ h => h) (Or.inl ⟨by rfl, fun w1 hw => exec_load rfl t26 (R_ct (hw ▸ hR.drew) hd c)⟩) hHeld ?_
  change wpAnyH _ _ _ _ _ _ _ (a17.put (some 27) (.int .i64 (ct (gt L (dn (gt L i) b)) c : Int))) _
  obtain ⟨a18, e18⟩ : ∃ act, act = a17.put (some 27) (.int .i64 (ct (gt L (dn (gt L i) b)) c : Int)) := ⟨_, rfl⟩
  rw [← e18] at h ⊢
  have z18 := pz e18 z17
  clear t26
  have t27 := pq e18 z17
  clear e18 z17
  refine wpAnyH_take (i := 19) (oi := under1_o19) (v := .int .i64 (ct (gt L (dn (gt L i) b)) c : Int)) rfl (by kernel_rfl) (by kernel_rfl) (by kernel_rfl) (fun _ _ _ h => h) (Or.inl ⟨by rfl, fun w1 hw => exec_assign rfl t27⟩) hHeld ?_
  change wpAnyH _ _ _ _ _ _ _ (a18.put (some 8) (.int .i64 (ct (gt L (dn (gt L i) b)) c : Int))) _
  obtain ⟨a19, e19⟩ : ∃ act, act = a18.put (some 8) (.int .i64 (ct (gt L (dn (gt L i) b)) c : Int)) := ⟨_, rfl⟩
  rw [← e19] at h ⊢
  have z19 := pz e19 z18
  clear t27
  clear e19 z18
  exact wpAnyH_done (by kernel_rfl) (NoPanic.normal (h _ _ (hHeld) rfl)) _
def own1a_o0 : Oper := { dst := some 7, op := Op.move (Operand.tmp 2), type := 3, pos := "row.go:179", after := #[], guard := none }
def own1a_o1 : Oper := { dst := some 8, op := Op.binOp BinOp.eql 3 (Operand.tmp 7) (Operand.const (Value.int IntKind.i64 0)) 3, type := 4, pos := "row.go:179", after := #[{ on := 0, ground := Ground.data }], guard := none }
def own1a_o2 : Oper := { dst := some 9, op := Op.move (Operand.tmp 8), type := 4, pos := "row.go:179", after := #[{ on := 1, ground := Ground.data }], guard := none }
def own1a_o3 : Oper := { dst := some 10, op := Op.move (Operand.tmp 0), type := 90, pos := "row.go:179", after := #[{ on := 2, ground := Ground.guard }], guard := some (2, false) }
def own1a_o4 : Oper := { dst := some 11, op := Op.nilCheck (Operand.tmp 10), type := 0, pos := "row.go:179", after := #[{ on := 3, ground := Ground.data }, { on := 2, ground := Ground.guard }], guard := some (2, false) }
def own1a_o5 : Oper := { dst := some 12, op := Op.fieldAddr 65 (Operand.tmp 11) 0, type := 0, pos := "row.go:179", after := #[{ on := 4, ground := Ground.data }, { on := 2, ground := Ground.guard }], guard := some (2, false) }
def own1a_o6 : Oper := { dst := some 13, op := Op.load 63 (Operand.tmp 12), type := 63, pos := "row.go:179", after := #[{ on := 5, ground := Ground.data }, { on := 2, ground := Ground.guard }], guard := some (2, false) }
def own1a_o7 : Oper := { dst := some 14, op := Op.move (Operand.tmp 1), type := 3, pos := "row.go:179", after := #[{ on := 2, ground := Ground.guard }], guard := some (2, false) }
def own1a_o8 : Oper := { dst := some 15, op := Op.indexAddr 63 (Operand.tmp 13) (Operand.tmp 14), type := 0, pos := "row.go:179", after := #[{ on := 6, ground := Ground.data }, { on := 7, ground := Ground.data }, { on := 2, ground := Ground.guard }], guard := some (2, false) }
def own1a_o9 : Oper := { dst := some 16, op := Op.fieldAddr 89 (Operand.tmp 15) 1, type := 0, pos := "row.go:179", after := #[{ on := 8, ground := Ground.data }, { on := 2, ground := Ground.guard }], guard := some (2, false) }
def own1a_o10 : Oper := { dst := some 17, op := Op.load 4 (Operand.tmp 16), type := 4, pos := "row.go:179", after := #[{ on := 9, ground := Ground.data }, { on := 2, ground := Ground.guard }], guard := some (2, false) }
def own1a_o11 : Oper := { dst := some 18, op := Op.pick (Operand.tmp 9) (Operand.const (Value.bool true)) (Operand.tmp 17), type := 4, pos := "row.go:179", after := #[{ on := 2, ground := Ground.data }, { on := 10, ground := Ground.data }], guard := none }
def own1a_ops : Array Oper := #[own1a_o0, own1a_o1, own1a_o2, own1a_o3, own1a_o4, own1a_o5, own1a_o6, own1a_o7, own1a_o8, own1a_o9, own1a_o10, own1a_o11]
set_option maxRecDepth 100000 in
set_option maxHeartbeats 4000000 in
theorem own1a {rb ro i : Nat} {c : Bool} (a : Act) (w : World) (Q : Exit → Act → World → Prop) (hsz : a.tmps.size = 19)
    (t0 : a.tmps.getD 0 undef = .pointer (some ⟨rb, ro, none⟩))
    (t1 : a.tmps.getD 1 undef = .int .i64 (i : Int))
    (t2 : a.tmps.getD 2 undef = .int .i64 (nb c : Int))
    (hc : decide ((nb c : Int) = 0) = true)
    (h : ∀ (a' : Act) (w' : World), w' = w → a' = ((((((((((((a).put (some 7) (.int .i64 (nb c : Int))).put (some 8) (.bool true)).put (some 9) (.bool true)).put (some 10) (undef)).put (some 11) (undef)).put (some 12) (undef)).put (some 13) (undef)).put (some 14) (undef)).put (some 15) (undef)).put (some 16) (undef)).put (some 17) (undef)).put (some 18) (.bool true) → Q .normal a' w') :
    (Code.region 1 own1a_ops false).wp Try.prog Q a w := by
  refine wp_region_list ?_
  change wpList _ _ _ [own1a_o0, own1a_o1, own1a_o2, own1a_o3, own1a_o4, own1a_o5, own1a_o6, own1a_o7, own1a_o8, own1a_o9, own1a_o10, own1a_o11] _ _
  refine qv (v := .int .i64 (nb c : Int)) (by rfl) (exec_move rfl t2) (fun a0 e0 => ?_)
  rw [← e0] at h
  have z0 := pz e0 hsz
  replace t0 := pk e0 t0
  replace t1 := pk e0 t1
  clear t2
  have t7 := pq e0 hsz
  clear e0 hsz
  refine qv (v := .bool true) (by rfl) (ex_eql rfl t7 rfl hc) (fun a1 e1 => ?_)
  rw [← e1] at h
  have z1 := pz e1 z0
  replace t0 := pk e1 t0
  replace t1 := pk e1 t1
  clear t7
  have t8 := pq e1 z0
  clear e1 z0
  refine qv (v := .bool true) (by rfl) (exec_move rfl t8) (fun a2 e2 => ?_)
  rw [← e2] at h
  have z2 := pz e2 z1
  replace t0 := pk e2 t0
  replace t1 := pk e2 t1
  clear t8
  have t9 := pq e2 z1
  clear e2 z1
  refine qn (by simp [Region.wanted, yielded, own1a_ops, own1a_o3, own1a_o2, tget z2 (by decide) t9]) (fun a3 e3 => ?_)
  rw [← e3] at h
  have z3 := pz e3 z2
  replace t1 := pk e3 t1
  replace t9 := pk e3 t9
  clear t0
  have t10 := pq e3 z2
  clear e3 z2
  refine qn (by simp [Region.wanted, yielded, own1a_ops, own1a_o4, own1a_o2, tget z3 (by decide) t9]) (fun a4 e4 => ?_)
  rw [← e4] at h
  have z4 := pz e4 z3
  replace t1 := pk e4 t1
  replace t9 := pk e4 t9
  clear t10
  have t11 := pq e4 z3
  clear e4 z3
  refine qn (by simp [Region.wanted, yielded, own1a_ops, own1a_o5, own1a_o2, tget z4 (by decide) t9]) (fun a5 e5 => ?_)
  rw [← e5] at h
  have z5 := pz e5 z4
  replace t1 := pk e5 t1
  replace t9 := pk e5 t9
  clear t11
  have t12 := pq e5 z4
  clear e5 z4
  refine qn (by simp [Region.wanted, yielded, own1a_ops, own1a_o6, own1a_o2, tget z5 (by decide) t9]) (fun a6 e6 => ?_)
  rw [← e6] at h
  have z6 := pz e6 z5
  replace t1 := pk e6 t1
  replace t9 := pk e6 t9
  clear t12
  have t13 := pq e6 z5
  clear e6 z5
  refine qn (by simp [Region.wanted, yielded, own1a_ops, own1a_o7, own1a_o2, tget z6 (by decide) t9]) (fun a7 e7 => ?_)
  rw [← e7] at h
  have z7 := pz e7 z6
  replace t9 := pk e7 t9
  replace t13 := pk e7 t13
  clear t1
  have t14 := pq e7 z6
  clear e7 z6
  refine qn (by simp [Region.wanted, yielded, own1a_ops, own1a_o8, own1a_o2, tget z7 (by decide) t9]) (fun a8 e8 => ?_)
  rw [← e8] at h
  have z8 := pz e8 z7
  replace t9 := pk e8 t9
  clear t13 t14
  have t15 := pq e8 z7
  clear e8 z7
  refine qn (by simp [Region.wanted, yielded, own1a_ops, own1a_o9, own1a_o2, tget z8 (by decide) t9]) (fun a9 e9 => ?_)
  rw [← e9] at h
  have z9 := pz e9 z8
  replace t9 := pk e9 t9
  clear t15
  have t16 := pq e9 z8
  clear e9 z8
  refine qn (by simp [Region.wanted, yielded, own1a_ops, own1a_o10, own1a_o2, tget z9 (by decide) t9]) (fun a10 e10 => ?_)
  rw [← e10] at h
  have z10 := pz e10 z9
  replace t9 := pk e10 t9
  clear t16
  have t17 := pq e10 z9
  clear e10 z9
  refine qv (v := .bool true) (by rfl) (by unfold own1a_o11; go_simp) (fun a11 e11 => ?_)
  rw [← e11] at h
  have z11 := pz e11 z10
  clear t9 t17
  clear e11 z10
  exact wpList_nil (h _ _ (rfl) rfl)
def own1b_o0 : Oper := { dst := some 7, op := Op.move (Operand.tmp 2), type := 3, pos := "row.go:179", after := #[], guard := none }
def own1b_o1 : Oper := { dst := some 8, op := Op.binOp BinOp.eql 3 (Operand.tmp 7) (Operand.const (Value.int IntKind.i64 0)) 3, type := 4, pos := "row.go:179", after := #[{ on := 0, ground := Ground.data }], guard := none }
def own1b_o2 : Oper := { dst := some 9, op := Op.move (Operand.tmp 8), type := 4, pos := "row.go:179", after := #[{ on := 1, ground := Ground.data }], guard := none }
def own1b_o3 : Oper := { dst := some 10, op := Op.move (Operand.tmp 0), type := 90, pos := "row.go:179", after := #[{ on := 2, ground := Ground.guard }], guard := some (2, false) }
def own1b_o4 : Oper := { dst := some 11, op := Op.nilCheck (Operand.tmp 10), type := 0, pos := "row.go:179", after := #[{ on := 3, ground := Ground.data }, { on := 2, ground := Ground.guard }], guard := some (2, false) }
def own1b_o5 : Oper := { dst := some 12, op := Op.fieldAddr 65 (Operand.tmp 11) 0, type := 0, pos := "row.go:179", after := #[{ on := 4, ground := Ground.data }, { on := 2, ground := Ground.guard }], guard := some (2, false) }
def own1b_o6 : Oper := { dst := some 13, op := Op.load 63 (Operand.tmp 12), type := 63, pos := "row.go:179", after := #[{ on := 5, ground := Ground.data }, { on := 2, ground := Ground.guard }], guard := some (2, false) }
def own1b_o7 : Oper := { dst := some 14, op := Op.move (Operand.tmp 1), type := 3, pos := "row.go:179", after := #[{ on := 2, ground := Ground.guard }], guard := some (2, false) }
def own1b_o8 : Oper := { dst := some 15, op := Op.indexAddr 63 (Operand.tmp 13) (Operand.tmp 14), type := 0, pos := "row.go:179", after := #[{ on := 6, ground := Ground.data }, { on := 7, ground := Ground.data }, { on := 2, ground := Ground.guard }], guard := some (2, false) }
def own1b_o9 : Oper := { dst := some 16, op := Op.fieldAddr 89 (Operand.tmp 15) 1, type := 0, pos := "row.go:179", after := #[{ on := 8, ground := Ground.data }, { on := 2, ground := Ground.guard }], guard := some (2, false) }
def own1b_o10 : Oper := { dst := some 17, op := Op.load 4 (Operand.tmp 16), type := 4, pos := "row.go:179", after := #[{ on := 9, ground := Ground.data }, { on := 2, ground := Ground.guard }], guard := some (2, false) }
def own1b_o11 : Oper := { dst := some 18, op := Op.pick (Operand.tmp 9) (Operand.const (Value.bool true)) (Operand.tmp 17), type := 4, pos := "row.go:179", after := #[{ on := 2, ground := Ground.data }, { on := 10, ground := Ground.data }], guard := none }
def own1b_ops : Array Oper := #[own1b_o0, own1b_o1, own1b_o2, own1b_o3, own1b_o4, own1b_o5, own1b_o6, own1b_o7, own1b_o8, own1b_o9, own1b_o10, own1b_o11]
set_option maxRecDepth 100000 in
set_option maxHeartbeats 4000000 in
theorem own1b {rb ro g cap : Nat} {L : List Sp} {i : Nat} {c : Bool} (a : Act) (w : World) (Q : Exit → Act → World → Prop) (hsz : a.tmps.size = 19)
    (t0 : a.tmps.getD 0 undef = .pointer (some ⟨rb, ro, none⟩))
    (t1 : a.tmps.getD 1 undef = .int .i64 (i : Int))
    (t2 : a.tmps.getD 2 undef = .int .i64 (nb c : Int))
    (hR : SqAt w rb ro g cap L) (hi : i < L.length) (hc : decide ((nb c : Int) = 0) = false)
    (h : ∀ (a' : Act) (w' : World), w' = w → a' = ((((((((((((a).put (some 7) (.int .i64 (nb c : Int))).put (some 8) (.bool false)).put (some 9) (.bool false)).put (some 10) (.pointer (some ⟨rb, ro, none⟩))).put (some 11) (.pointer (some ⟨rb, ro, none⟩))).put (some 12) (.pointer (some ⟨rb, ro + 0, none⟩))).put (some 13) (.slice (some ⟨g, 0, none⟩) (L).length cap)).put (some 14) (.int .i64 (i : Int))).put (some 15) (.pointer (some ⟨g, 73 * i, none⟩))).put (some 16) (.pointer (some ⟨g, 73 * i + 67, none⟩))).put (some 17) (.bool (gt L i).sh)).put (some 18) (.bool (gt L i).sh) → Q .normal a' w') :
    (Code.region 1 own1b_ops false).wp Try.prog Q a w := by
  refine wp_region_list ?_
  change wpList _ _ _ [own1b_o0, own1b_o1, own1b_o2, own1b_o3, own1b_o4, own1b_o5, own1b_o6, own1b_o7, own1b_o8, own1b_o9, own1b_o10, own1b_o11] _ _
  refine qv (v := .int .i64 (nb c : Int)) (by rfl) (exec_move rfl t2) (fun a0 e0 => ?_)
  rw [← e0] at h
  have z0 := pz e0 hsz
  replace t0 := pk e0 t0
  replace t1 := pk e0 t1
  clear t2
  have t7 := pq e0 hsz
  clear e0 hsz
  refine qv (v := .bool false) (by rfl) (ex_eql rfl t7 rfl hc) (fun a1 e1 => ?_)
  rw [← e1] at h
  have z1 := pz e1 z0
  replace t0 := pk e1 t0
  replace t1 := pk e1 t1
  clear t7
  have t8 := pq e1 z0
  clear e1 z0
  refine qv (v := .bool false) (by rfl) (exec_move rfl t8) (fun a2 e2 => ?_)
  rw [← e2] at h
  have z2 := pz e2 z1
  replace t0 := pk e2 t0
  replace t1 := pk e2 t1
  clear t8
  have t9 := pq e2 z1
  clear e2 z1
  refine qv (v := .pointer (some ⟨rb, ro, none⟩)) (by simp [Region.wanted, yielded, own1b_ops, own1b_o3, own1b_o2, tget z2 (by decide) t9]) (exec_move rfl t0) (fun a3 e3 => ?_)
  rw [← e3] at h
  have z3 := pz e3 z2
  replace t1 := pk e3 t1
  replace t9 := pk e3 t9
  clear t0
  have t10 := pq e3 z2
  clear e3 z2
  refine qv (v := .pointer (some ⟨rb, ro, none⟩)) (by simp [Region.wanted, yielded, own1b_ops, own1b_o4, own1b_o2, tget z3 (by decide) t9]) (exec_nilCheck rfl t10) (fun a4 e4 => ?_)
  rw [← e4] at h
  have z4 := pz e4 z3
  replace t1 := pk e4 t1
  replace t9 := pk e4 t9
  clear t10
  have t11 := pq e4 z3
  clear e4 z3
  refine qv (v := .pointer (some ⟨rb, ro + 0, none⟩)) (by simp [Region.wanted, yielded, own1b_ops, own1b_o5, own1b_o2, tget z4 (by decide) t9]) (exec_fieldAt rfl t11 (fg_65_0 _ _ _)) (fun a5 e5 => ?_)
  rw [← e5] at h
  have z5 := pz e5 z4
  replace t1 := pk e5 t1
  replace t9 := pk e5 t9
  clear t11
  have t12 := pq e5 z4
  clear e5 z4
  refine qv (v := .slice (some ⟨g, 0, none⟩) (L).length cap) (by simp [Region.wanted, yielded, own1b_ops, own1b_o6, own1b_o2, tget z5 (by decide) t9]) (exec_load rfl t12 (R_sl hR)) (fun a6 e6 => ?_)
  rw [← e6] at h
  have z6 := pz e6 z5
  replace t1 := pk e6 t1
  replace t9 := pk e6 t9
  clear t12
  have t13 := pq e6 z5
  clear e6 z5
  refine qv (v := .int .i64 (i : Int)) (by simp [Region.wanted, yielded, own1b_ops, own1b_o7, own1b_o2, tget z6 (by decide) t9]) (exec_move rfl t1) (fun a7 e7 => ?_)
  rw [← e7] at h
  have z7 := pz e7 z6
  replace t9 := pk e7 t9
  replace t13 := pk e7 t13
  clear t1
  have t14 := pq e7 z6
  clear e7 z6
  refine qv (v := .pointer (some ⟨g, 73 * i, none⟩)) (by simp [Region.wanted, yielded, own1b_ops, own1b_o8, own1b_o2, tget z7 (by decide) t9]) (exec_indexAt rfl t13 t14 (R_ix hi hR.len _)) (fun a8 e8 => ?_)
  rw [← e8] at h
  have z8 := pz e8 z7
  replace t9 := pk e8 t9
  clear t13 t14
  have t15 := pq e8 z7
  clear e8 z7
  refine qv (v := .pointer (some ⟨g, 73 * i + 67, none⟩)) (by simp [Region.wanted, yielded, own1b_ops, own1b_o9, own1b_o2, tget z8 (by decide) t9]) (exec_fieldAt rfl t15 (fg_89_1 _ _ _)) (fun a9 e9 => ?_)
  rw [← e9] at h
  have z9 := pz e9 z8
  replace t9 := pk e9 t9
  clear t15
  have t16 := pq e9 z8
  clear e9 z8
  refine qv (v := .bool (gt L i).sh) (by simp [Region.wanted, yielded, own1b_ops, own1b_o10, own1b_o2, tget z9 (by decide) t9]) (exec_load rfl t16 (R_sh hR hi)) (fun a10 e10 => ?_)
  rw [← e10] at h
  have z10 := pz e10 z9
  replace t9 := pk e10 t9
  clear t16
  have t17 := pq e10 z9
  clear e10 z9
  refine qv (v := .bool (gt L i).sh) (by rfl) (by unfold own1b_o11; go_simp) (fun a11 e11 => ?_)
  rw [← e11] at h
  have z11 := pz e11 z10
  clear t9 t17
  clear e11 z10
  exact wpList_nil (h _ _ (rfl) rfl)
def upTo1_o0 : Oper := { dst := some 7, op := Op.move (Operand.tmp 0), type := 90, pos := "row.go:169", after := #[], guard := none }
def upTo1_o1 : Oper := { dst := some 8, op := Op.move (Operand.tmp 1), type := 3, pos := "row.go:169", after := #[], guard := none }
def upTo1_o2 : Oper := { dst := some 9, op := Op.move (Operand.tmp 2), type := 3, pos := "row.go:169", after := #[], guard := none }
def upTo1_o3 : Oper := { dst := some 10, op := Op.call { callee := Callee.value (Operand.func 79), args := #[Operand.tmp 7, Operand.tmp 8, Operand.const (Value.int IntKind.i64 0), Operand.tmp 9], argTypes := #[90, 3, 3, 3] }, type := 3, pos := "row.go:169", after := #[{ on := 0, ground := Ground.data }, { on := 1, ground := Ground.data }, { on := 2, ground := Ground.data }], guard := none }
def upTo1_o4 : Oper := { dst := some 11, op := Op.move (Operand.tmp 0), type := 90, pos := "row.go:169", after := #[], guard := none }
def upTo1_o5 : Oper := { dst := some 12, op := Op.move (Operand.tmp 1), type := 3, pos := "row.go:169", after := #[], guard := none }
def upTo1_o6 : Oper := { dst := some 13, op := Op.move (Operand.tmp 2), type := 3, pos := "row.go:169", after := #[], guard := none }
def upTo1_o7 : Oper := { dst := some 14, op := Op.call { callee := Callee.value (Operand.func 83), args := #[Operand.tmp 11, Operand.tmp 12, Operand.tmp 13], argTypes := #[90, 3, 3] }, type := 3, pos := "row.go:169", after := #[{ on := 4, ground := Ground.data }, { on := 5, ground := Ground.data }, { on := 6, ground := Ground.data }, { on := 3, ground := Ground.chain }], guard := none }
def upTo1_o8 : Oper := { dst := some 15, op := Op.binOp BinOp.add 3 (Operand.tmp 10) (Operand.tmp 14) 3, type := 3, pos := "row.go:169", after := #[{ on := 3, ground := Ground.data }, { on := 7, ground := Ground.data }], guard := none }
def upTo1_o9 : Oper := { dst := some 6, op := Op.assign (Operand.tmp 15), type := 3, pos := "row.go:169", after := #[{ on := 8, ground := Ground.data }, { on := 7, ground := Ground.chain }, { on := 0, ground := Ground.phase }, { on := 1, ground := Ground.phase }, { on := 2, ground := Ground.phase }, { on := 3, ground := Ground.phase }, { on := 4, ground := Ground.phase }, { on := 5, ground := Ground.phase }, { on := 6, ground := Ground.phase }, { on := 7, ground := Ground.phase }, { on := 8, ground := Ground.phase }], guard := none }
def upTo1_ops : Array Oper := #[upTo1_o0, upTo1_o1, upTo1_o2, upTo1_o3, upTo1_o4, upTo1_o5, upTo1_o6, upTo1_o7, upTo1_o8, upTo1_o9]
set_option maxRecDepth 100000 in
set_option maxHeartbeats 4000000 in
theorem upTo1 {rb ro i u o : Nat} {c : Bool} (a : Act) (w : World) (Q : Exit → Act → World → Prop) (hsz : a.tmps.size = 16)
    (t0 : a.tmps.getD 0 undef = .pointer (some ⟨rb, ro, none⟩))
    (t1 : a.tmps.getD 1 undef = .int .i64 (i : Int))
    (t2 : a.tmps.getD 2 undef = .int .i64 (nb c : Int))
    (CU : Calls Try.prog 79 #[.pointer (some ⟨rb, ro, none⟩), .int .i64 (i : Int), .int .i64 0, .int .i64 (nb c : Int)] w fun e w' => e = .returned (.int .i64 (u : Int)) ∧ Qt w w' ∧ Calls Try.prog 83 #[.pointer (some ⟨rb, ro, none⟩), .int .i64 (i : Int), .int .i64 (nb c : Int)] w' fun e2 w2 => e2 = .returned (.int .i64 (o : Int)) ∧ Qt w' w2) (hs : u + o ≤ 9223372036854775807)
    (h : ∀ (a' : Act) (w' : World), Qt w w' → a' = ((((((((((a).put (some 7) (.pointer (some ⟨rb, ro, none⟩))).put (some 8) (.int .i64 (i : Int))).put (some 9) (.int .i64 (nb c : Int))).put (some 10) (.int .i64 (u : Int))).put (some 11) (.pointer (some ⟨rb, ro, none⟩))).put (some 12) (.int .i64 (i : Int))).put (some 13) (.int .i64 (nb c : Int))).put (some 14) (.int .i64 (o : Int))).put (some 15) (.int .i64 ((u + o : Nat) : Int))).put (some 6) (.int .i64 ((u + o : Nat) : Int)) → Q .normal a' w') :
    (Code.region 1 upTo1_ops false).wp Try.prog Q a w := by
  refine wp_region_list ?_
  change wpList _ _ _ [upTo1_o0, upTo1_o1, upTo1_o2, upTo1_o3, upTo1_o4, upTo1_o5, upTo1_o6, upTo1_o7, upTo1_o8, upTo1_o9] _ _
  refine qv (v := .pointer (some ⟨rb, ro, none⟩)) (by rfl) (exec_move rfl t0) (fun a0 e0 => ?_)
  rw [← e0] at h
  have z0 := pz e0 hsz
  replace t0 := pk e0 t0
  replace t1 := pk e0 t1
  replace t2 := pk e0 t2
  have t7 := pq e0 hsz
  clear e0 hsz
  refine qv (v := .int .i64 (i : Int)) (by rfl) (exec_move rfl t1) (fun a1 e1 => ?_)
  rw [← e1] at h
  have z1 := pz e1 z0
  replace t0 := pk e1 t0
  replace t1 := pk e1 t1
  replace t2 := pk e1 t2
  replace t7 := pk e1 t7
  have t8 := pq e1 z0
  clear e1 z0
  refine qv (v := .int .i64 (nb c : Int)) (by rfl) (exec_move rfl t2) (fun a2 e2 => ?_)
  rw [← e2] at h
  have z2 := pz e2 z1
  replace t0 := pk e2 t0
  replace t1 := pk e2 t1
  replace t2 := pk e2 t2
  replace t7 := pk e2 t7
  replace t8 := pk e2 t8
  have t9 := pq e2 z1
  clear e2 z1
  refine qc (by rfl) (by unfold upTo1_o3; go_simp) (CU) (fun e x3 hx => ?_)
  obtain ⟨rfl, q1, CO⟩ := hx
  refine ⟨_, rfl, fun a3 e3 => ?_⟩
  rw [← e3] at h
  have z3 := pz e3 z2
  replace t0 := pk e3 t0
  replace t1 := pk e3 t1
  replace t2 := pk e3 t2
  clear t7 t8 t9
  have t10 := pq e3 z2
  clear e3 z2
  refine qv (v := .pointer (some ⟨rb, ro, none⟩)) (by rfl) (exec_move rfl t0) (fun a4 e4 => ?_)
  rw [← e4] at h
  have z4 := pz e4 z3
  replace t1 := pk e4 t1
  replace t2 := pk e4 t2
  replace t10 := pk e4 t10
  clear t0
  have t11 := pq e4 z3
  clear e4 z3
  refine qv (v := .int .i64 (i : Int)) (by rfl) (exec_move rfl t1) (fun a5 e5 => ?_)
  rw [← e5] at h
  have z5 := pz e5 z4
  replace t2 := pk e5 t2
  replace t10 := pk e5 t10
  replace t11 := pk e5 t11
  clear t1
  have t12 := pq e5 z4
  clear e5 z4
  refine qv (v := .int .i64 (nb c : Int)) (by rfl) (exec_move rfl t2) (fun a6 e6 => ?_)
  rw [← e6] at h
  have z6 := pz e6 z5
  replace t10 := pk e6 t10
  replace t11 := pk e6 t11
  replace t12 := pk e6 t12
  clear t2
  have t13 := pq e6 z5
  clear e6 z5
  refine qc (by rfl) (by unfold upTo1_o7; go_simp) (CO) (fun e x7 hx => ?_)
  obtain ⟨rfl, q2⟩ := hx
  refine ⟨_, rfl, fun a7 e7 => ?_⟩
  rw [← e7] at h
  have z7 := pz e7 z6
  replace t10 := pk e7 t10
  clear t11 t12 t13
  have t14 := pq e7 z6
  clear e7 z6
  refine qv (v := .int .i64 ((u + o : Nat) : Int)) (by rfl) (ex_addN rfl t10 t14 hs) (fun a8 e8 => ?_)
  rw [← e8] at h
  have z8 := pz e8 z7
  clear t10 t14
  have t15 := pq e8 z7
  clear e8 z7
  refine qv (v := .int .i64 ((u + o : Nat) : Int)) (by rfl) (exec_assign rfl t15) (fun a9 e9 => ?_)
  rw [← e9] at h
  have z9 := pz e9 z8
  clear t15
  clear e9 z8
  exact wpList_nil (h _ _ (q1.trans q2) rfl)
def side1_o0 : Oper := { dst := some 5, op := Op.move (Operand.tmp 0), type := 90, pos := "row.go:134", after := #[], guard := none }
def side1_o1 : Oper := { dst := some 6, op := Op.nilCheck (Operand.tmp 5), type := 0, pos := "row.go:134", after := #[{ on := 0, ground := Ground.data }], guard := none }
def side1_o2 : Oper := { dst := some 7, op := Op.fieldAddr 65 (Operand.tmp 6) 0, type := 0, pos := "row.go:134", after := #[{ on := 1, ground := Ground.data }], guard := none }
def side1_o3 : Oper := { dst := some 8, op := Op.load 63 (Operand.tmp 7), type := 63, pos := "row.go:134", after := #[{ on := 2, ground := Ground.data }], guard := none }
def side1_o4 : Oper := { dst := some 9, op := Op.move (Operand.tmp 0), type := 90, pos := "row.go:134", after := #[], guard := none }
def side1_o5 : Oper := { dst := some 10, op := Op.nilCheck (Operand.tmp 9), type := 0, pos := "row.go:134", after := #[{ on := 4, ground := Ground.data }], guard := none }
def side1_o6 : Oper := { dst := some 11, op := Op.fieldAddr 65 (Operand.tmp 10) 0, type := 0, pos := "row.go:134", after := #[{ on := 5, ground := Ground.data }], guard := none }
def side1_o7 : Oper := { dst := some 12, op := Op.load 63 (Operand.tmp 11), type := 63, pos := "row.go:134", after := #[{ on := 6, ground := Ground.data }], guard := none }
def side1_o8 : Oper := { dst := some 13, op := Op.move (Operand.tmp 1), type := 3, pos := "row.go:134", after := #[], guard := none }
def side1_o9 : Oper := { dst := some 14, op := Op.indexAddr 63 (Operand.tmp 12) (Operand.tmp 13), type := 0, pos := "row.go:134", after := #[{ on := 7, ground := Ground.data }, { on := 8, ground := Ground.data }], guard := none }
def side1_o10 : Oper := { dst := some 15, op := Op.fieldAddr 89 (Operand.tmp 14) 2, type := 0, pos := "row.go:134", after := #[{ on := 9, ground := Ground.data }], guard := none }
def side1_o11 : Oper := { dst := some 16, op := Op.load 3 (Operand.tmp 15), type := 3, pos := "row.go:134", after := #[{ on := 10, ground := Ground.data }], guard := none }
def side1_o12 : Oper := { dst := some 17, op := Op.indexAddr 63 (Operand.tmp 8) (Operand.tmp 16), type := 0, pos := "row.go:134", after := #[{ on := 3, ground := Ground.data }, { on := 11, ground := Ground.data }], guard := none }
def side1_o13 : Oper := { dst := some 18, op := Op.fieldAddr 89 (Operand.tmp 17) 3, type := 0, pos := "row.go:134", after := #[{ on := 12, ground := Ground.data }], guard := none }
def side1_o14 : Oper := { dst := some 19, op := Op.indexAddr 87 (Operand.tmp 18) (Operand.const (Value.int IntKind.i64 0)), type := 0, pos := "row.go:134", after := #[{ on := 13, ground := Ground.data }], guard := none }
def side1_o15 : Oper := { dst := some 20, op := Op.load 3 (Operand.tmp 19), type := 3, pos := "row.go:134", after := #[{ on := 14, ground := Ground.data }], guard := none }
def side1_o16 : Oper := { dst := some 21, op := Op.move (Operand.tmp 1), type := 3, pos := "row.go:134", after := #[], guard := none }
def side1_o17 : Oper := { dst := some 22, op := Op.binOp BinOp.eql 3 (Operand.tmp 20) (Operand.tmp 21) 3, type := 4, pos := "row.go:134", after := #[{ on := 15, ground := Ground.data }, { on := 16, ground := Ground.data }], guard := none }
def side1_ops : Array Oper := #[side1_o0, side1_o1, side1_o2, side1_o3, side1_o4, side1_o5, side1_o6, side1_o7, side1_o8, side1_o9, side1_o10, side1_o11, side1_o12, side1_o13, side1_o14, side1_o15, side1_o16, side1_o17]
set_option maxRecDepth 100000 in
set_option maxHeartbeats 4000000 in
theorem side1 {rb ro g cap : Nat} {L : List Sp} {i : Nat} {r : Bool} (a : Act) (w : World) (Q : Exit → Act → World → Prop) (hsz : a.tmps.size = 23)
    (t0 : a.tmps.getD 0 undef = .pointer (some ⟨rb, ro, none⟩))
    (t1 : a.tmps.getD 1 undef = .int .i64 (i : Int))
    (hR : SqAt w rb ro g cap L) (hi : i < L.length) (hu : (gt L i).up < L.length) (hr : decide ((dn (gt L (gt L i).up) false : Int) = (i : Int)) = r)
    (h : ∀ (a' : Act) (w' : World), w' = w.drew → a' = ((((((((((((((((((a).put (some 5) (.pointer (some ⟨rb, ro, none⟩))).put (some 6) (.pointer (some ⟨rb, ro, none⟩))).put (some 7) (.pointer (some ⟨rb, ro + 0, none⟩))).put (some 8) (.slice (some ⟨g, 0, none⟩) (L).length cap)).put (some 9) (.pointer (some ⟨rb, ro, none⟩))).put (some 10) (.pointer (some ⟨rb, ro, none⟩))).put (some 11) (.pointer (some ⟨rb, ro + 0, none⟩))).put (some 12) (.slice (some ⟨g, 0, none⟩) (L).length cap)).put (some 13) (.int .i64 (i : Int))).put (some 14) (.pointer (some ⟨g, 73 * i, none⟩))).put (some 15) (.pointer (some ⟨g, 73 * i + 68, none⟩))).put (some 16) (.int .i64 ((gt L i).up : Int))).put (some 17) (.pointer (some ⟨g, 73 * ((gt L i).up), none⟩))).put (some 18) (.pointer (some ⟨g, 73 * ((gt L i).up) + 69, none⟩))).put (some 19) (.pointer (some ⟨g, 73 * ((gt L i).up) + 69 + nb false, none⟩))).put (some 20) (.int .i64 (dn (gt L ((gt L i).up)) false : Int))).put (some 21) (.int .i64 (i : Int))).put (some 22) (.bool r) → Q .normal a' w') :
    (Code.region 1 side1_ops true).wp Try.prog Q a w := by
  refine wp_region_noPanic ?_
  refine wp_region_held_drew (S := fun w' => w' = w.drew) (by kernel_rfl) (rfl) (fun hHeld => ?_)
  refine wpAnyH_take (i := 0) (oi := side1_o0) (v := .pointer (some ⟨rb, ro, none⟩)) rfl (by kernel_rfl) (by kernel_rfl) (by kernel_rfl) (fun _ _ _ h => h) (Or.inl ⟨by rfl, fun w1 hw => exec_move rfl t0⟩) hHeld ?_
  change wpAnyH _ _ _ _ _ _ _ (a.put (some 5) (.pointer (some ⟨rb, ro, none⟩))) _
  obtain ⟨a0, e0⟩ : ∃ act, act = a.put (some 5) (.pointer (some ⟨rb, ro, none⟩)) := ⟨_, rfl⟩
  rw [← e0] at h ⊢
  have z0 := pz e0 hsz
  replace t0 := pk e0 t0
  replace t1 := pk e0 t1
  have t5 := pq e0 hsz
  clear e0 hsz
  refine wpAnyH_take (i := 1) (oi := side1_o1) (v := .pointer (some ⟨rb, ro, none⟩)) rfl (by kernel_rfl) (by kernel_rfl) (by kernel_rfl) (fun _ _ _ h => h) (Or.inl ⟨by rfl, fun w1 hw => exec_nilCheck rfl t5⟩) hHeld ?_
  change wpAnyH _ _ _ _ _ _ _ (a0.put (some 6) (.pointer (some ⟨rb, ro, none⟩))) _
  obtain ⟨a1, e1⟩ : ∃ act, act = a0.put (some 6) (.pointer (some ⟨rb, ro, none⟩)) := ⟨_, rfl⟩
  rw [← e1] at h ⊢
  have z1 := pz e1 z0
  replace t0 := pk e1 t0
  replace t1 := pk e1 t1
  clear t5
  have t6 := pq e1 z0
  clear e1 z0
  refine wpAnyH_take (i := 2) (oi := side1_o2) (v := .pointer (some ⟨rb, ro + 0, none⟩)) rfl (by kernel_rfl) (by kernel_rfl) (by kernel_rfl) (fun _ _ _ h => h) (Or.inl ⟨by rfl, fun w1 hw => exec_fieldAt rfl t6 (fg_65_0 _ _ _)⟩) hHeld ?_
  change wpAnyH _ _ _ _ _ _ _ (a1.put (some 7) (.pointer (some ⟨rb, ro + 0, none⟩))) _
  obtain ⟨a2, e2⟩ : ∃ act, act = a1.put (some 7) (.pointer (some ⟨rb, ro + 0, none⟩)) := ⟨_, rfl⟩
  rw [← e2] at h ⊢
  have z2 := pz e2 z1
  replace t0 := pk e2 t0
  replace t1 := pk e2 t1
  clear t6
  have t7 := pq e2 z1
  clear e2 z1
  refine wpAnyH_take (i := 3) (oi := side1_o3) (v := .slice (some ⟨g, 0, none⟩) (L).length cap) rfl (by kernel_rfl) (by kernel_rfl) (by kernel_rfl) (fun _ _ _ h => h) (Or.inl ⟨by rfl, fun w1 hw => exec_load rfl t7 (R_sl (hw ▸ hR.drew))⟩) hHeld ?_
  change wpAnyH _ _ _ _ _ _ _ (a2.put (some 8) (.slice (some ⟨g, 0, none⟩) (L).length cap)) _
  obtain ⟨a3, e3⟩ : ∃ act, act = a2.put (some 8) (.slice (some ⟨g, 0, none⟩) (L).length cap) := ⟨_, rfl⟩
  rw [← e3] at h ⊢
  have z3 := pz e3 z2
  replace t0 := pk e3 t0
  replace t1 := pk e3 t1
  clear t7
  have t8 := pq e3 z2
  clear e3 z2
  refine wpAnyH_take (i := 4) (oi := side1_o4) (v := .pointer (some ⟨rb, ro, none⟩)) rfl (by kernel_rfl) (by kernel_rfl) (by kernel_rfl) (fun _ _ _ h => h) (Or.inl ⟨by rfl, fun w1 hw => exec_move rfl t0⟩) hHeld ?_
  change wpAnyH _ _ _ _ _ _ _ (a3.put (some 9) (.pointer (some ⟨rb, ro, none⟩))) _
  obtain ⟨a4, e4⟩ : ∃ act, act = a3.put (some 9) (.pointer (some ⟨rb, ro, none⟩)) := ⟨_, rfl⟩
  rw [← e4] at h ⊢
  have z4 := pz e4 z3
  replace t1 := pk e4 t1
  replace t8 := pk e4 t8
  clear t0
  have t9 := pq e4 z3
  clear e4 z3
  refine wpAnyH_take (i := 5) (oi := side1_o5) (v := .pointer (some ⟨rb, ro, none⟩)) rfl (by kernel_rfl) (by kernel_rfl) (by kernel_rfl) (fun _ _ _ h => h) (Or.inl ⟨by rfl, fun w1 hw => exec_nilCheck rfl t9⟩) hHeld ?_
  change wpAnyH _ _ _ _ _ _ _ (a4.put (some 10) (.pointer (some ⟨rb, ro, none⟩))) _
  obtain ⟨a5, e5⟩ : ∃ act, act = a4.put (some 10) (.pointer (some ⟨rb, ro, none⟩)) := ⟨_, rfl⟩
  rw [← e5] at h ⊢
  have z5 := pz e5 z4
  replace t1 := pk e5 t1
  replace t8 := pk e5 t8
  clear t9
  have t10 := pq e5 z4
  clear e5 z4
  refine wpAnyH_take (i := 6) (oi := side1_o6) (v := .pointer (some ⟨rb, ro + 0, none⟩)) rfl (by kernel_rfl) (by kernel_rfl) (by kernel_rfl) (fun _ _ _ h => h) (Or.inl ⟨by rfl, fun w1 hw => exec_fieldAt rfl t10 (fg_65_0 _ _ _)⟩) hHeld ?_
  change wpAnyH _ _ _ _ _ _ _ (a5.put (some 11) (.pointer (some ⟨rb, ro + 0, none⟩))) _
  obtain ⟨a6, e6⟩ : ∃ act, act = a5.put (some 11) (.pointer (some ⟨rb, ro + 0, none⟩)) := ⟨_, rfl⟩
  rw [← e6] at h ⊢
  have z6 := pz e6 z5
  replace t1 := pk e6 t1
  replace t8 := pk e6 t8
  clear t10
  have t11 := pq e6 z5
  clear e6 z5
  refine wpAnyH_take (i := 7) (oi := side1_o7) (v := .slice (some ⟨g, 0, none⟩) (L).length cap) rfl (by kernel_rfl) (by kernel_rfl) (by kernel_rfl) (fun _ _ _ h => h) (Or.inl ⟨by rfl, fun w1 hw => exec_load rfl t11 (R_sl (hw ▸ hR.drew))⟩) hHeld ?_
  change wpAnyH _ _ _ _ _ _ _ (a6.put (some 12) (.slice (some ⟨g, 0, none⟩) (L).length cap)) _
  obtain ⟨a7, e7⟩ : ∃ act, act = a6.put (some 12) (.slice (some ⟨g, 0, none⟩) (L).length cap) := ⟨_, rfl⟩
  rw [← e7] at h ⊢
  have z7 := pz e7 z6
  replace t1 := pk e7 t1
  replace t8 := pk e7 t8
  clear t11
  have t12 := pq e7 z6
  clear e7 z6
  refine wpAnyH_take (i := 8) (oi := side1_o8) (v := .int .i64 (i : Int)) rfl (by kernel_rfl) (by kernel_rfl) (by kernel_rfl) (fun _ _ _ h => h) (Or.inl ⟨by rfl, fun w1 hw => exec_move rfl t1⟩) hHeld ?_
  change wpAnyH _ _ _ _ _ _ _ (a7.put (some 13) (.int .i64 (i : Int))) _
  obtain ⟨a8, e8⟩ : ∃ act, act = a7.put (some 13) (.int .i64 (i : Int)) := ⟨_, rfl⟩
  rw [← e8] at h ⊢
  have z8 := pz e8 z7
  replace t1 := pk e8 t1
  replace t8 := pk e8 t8
  replace t12 := pk e8 t12
  have t13 := pq e8 z7
  clear e8 z7
  refine wpAnyH_take (i := 9) (oi := side1_o9) (v := .pointer (some ⟨g, 73 * i, none⟩)) rfl (by kernel_rfl) (by kernel_rfl) (by kernel_rfl) (fun _ _ _ h => h) (Or.inl ⟨by rfl, fun w1 hw => exec_indexAt rfl t12 t13 (R_ix hi hR.len _)⟩) hHeld ?_
  change wpAnyH _ _ _ _ _ _ _ (a8.put (some 14) (.pointer (some ⟨g, 73 * i, none⟩))) _
  obtain ⟨a9, e9⟩ : ∃ act, act = a8.put (some 14) (.pointer (some ⟨g, 73 * i, none⟩)) := ⟨_, rfl⟩
  rw [← e9] at h ⊢
  have z9 := pz e9 z8
  replace t1 := pk e9 t1
  replace t8 := pk e9 t8
  clear t12 t13
  have t14 := pq e9 z8
  clear e9 z8
  refine wpAnyH_take (i := 10) (oi := side1_o10) (v := .pointer (some ⟨g, 73 * i + 68, none⟩)) rfl (by kernel_rfl) (by kernel_rfl) (by kernel_rfl) (fun _ _ _ h => h) (Or.inl ⟨by rfl, fun w1 hw => exec_fieldAt rfl t14 (fg_89_2 _ _ _)⟩) hHeld ?_
  change wpAnyH _ _ _ _ _ _ _ (a9.put (some 15) (.pointer (some ⟨g, 73 * i + 68, none⟩))) _
  obtain ⟨a10, e10⟩ : ∃ act, act = a9.put (some 15) (.pointer (some ⟨g, 73 * i + 68, none⟩)) := ⟨_, rfl⟩
  rw [← e10] at h ⊢
  have z10 := pz e10 z9
  replace t1 := pk e10 t1
  replace t8 := pk e10 t8
  clear t14
  have t15 := pq e10 z9
  clear e10 z9
  refine wpAnyH_take (i := 11) (oi := side1_o11) (v := .int .i64 ((gt L i).up : Int)) rfl (by kernel_rfl) (by kernel_rfl) (by kernel_rfl) (fun _ _ _ h => h) (Or.inl ⟨by rfl, fun w1 hw => exec_load rfl t15 (R_up (hw ▸ hR.drew) hi)⟩) hHeld ?_
  change wpAnyH _ _ _ _ _ _ _ (a10.put (some 16) (.int .i64 ((gt L i).up : Int))) _
  obtain ⟨a11, e11⟩ : ∃ act, act = a10.put (some 16) (.int .i64 ((gt L i).up : Int)) := ⟨_, rfl⟩
  rw [← e11] at h ⊢
  have z11 := pz e11 z10
  replace t1 := pk e11 t1
  replace t8 := pk e11 t8
  clear t15
  have t16 := pq e11 z10
  clear e11 z10
  refine wpAnyH_take (i := 12) (oi := side1_o12) (v := .pointer (some ⟨g, 73 * ((gt L i).up), none⟩)) rfl (by kernel_rfl) (by kernel_rfl) (by kernel_rfl) (fun _ _ _ h => h) (Or.inl ⟨by rfl, fun w1 hw => exec_indexAt rfl t8 t16 (R_ix hu hR.len _)⟩) hHeld ?_
  change wpAnyH _ _ _ _ _ _ _ (a11.put (some 17) (.pointer (some ⟨g, 73 * ((gt L i).up), none⟩))) _
  obtain ⟨a12, e12⟩ : ∃ act, act = a11.put (some 17) (.pointer (some ⟨g, 73 * ((gt L i).up), none⟩)) := ⟨_, rfl⟩
  rw [← e12] at h ⊢
  have z12 := pz e12 z11
  replace t1 := pk e12 t1
  clear t8 t16
  have t17 := pq e12 z11
  clear e12 z11
  refine wpAnyH_take (i := 13) (oi := side1_o13) (v := .pointer (some ⟨g, 73 * ((gt L i).up) + 69, none⟩)) rfl (by kernel_rfl) (by kernel_rfl) (by kernel_rfl) (fun _ _ _ h => h) (Or.inl ⟨by rfl, fun w1 hw => exec_fieldAt rfl t17 (fg_89_3 _ _ _)⟩) hHeld ?_
  change wpAnyH _ _ _ _ _ _ _ (a12.put (some 18) (.pointer (some ⟨g, 73 * ((gt L i).up) + 69, none⟩))) _
  obtain ⟨a13, e13⟩ : ∃ act, act = a12.put (some 18) (.pointer (some ⟨g, 73 * ((gt L i).up) + 69, none⟩)) := ⟨_, rfl⟩
  rw [← e13] at h ⊢
  have z13 := pz e13 z12
  replace t1 := pk e13 t1
  clear t17
  have t18 := pq e13 z12
  clear e13 z12
  refine wpAnyH_take (i := 14) (oi := side1_o14) (v := .pointer (some ⟨g, 73 * ((gt L i).up) + 69 + nb false, none⟩)) rfl (by kernel_rfl) (by kernel_rfl) (by kernel_rfl) (fun _ _ _ h => h) (Or.inl ⟨by rfl, fun w1 hw => exec_indexAt rfl t18 rfl (ix_a0 _ _)⟩) hHeld ?_
  change wpAnyH _ _ _ _ _ _ _ (a13.put (some 19) (.pointer (some ⟨g, 73 * ((gt L i).up) + 69 + nb false, none⟩))) _
  obtain ⟨a14, e14⟩ : ∃ act, act = a13.put (some 19) (.pointer (some ⟨g, 73 * ((gt L i).up) + 69 + nb false, none⟩)) := ⟨_, rfl⟩
  rw [← e14] at h ⊢
  have z14 := pz e14 z13
  replace t1 := pk e14 t1
  clear t18
  have t19 := pq e14 z13
  clear e14 z13
  refine wpAnyH_take (i := 15) (oi := side1_o15) (v := .int .i64 (dn (gt L ((gt L i).up)) false : Int)) rfl (by kernel_rfl) (by kernel_rfl) (by kernel_rfl) (fun _ _ _ h => h) (Or.inl ⟨by rfl, fun w1 hw => exec_load rfl t19 (R_dn (hw ▸ hR.drew) hu false)⟩) hHeld ?_
  change wpAnyH _ _ _ _ _ _ _ (a14.put (some 20) (.int .i64 (dn (gt L ((gt L i).up)) false : Int))) _
  obtain ⟨a15, e15⟩ : ∃ act, act = a14.put (some 20) (.int .i64 (dn (gt L ((gt L i).up)) false : Int)) := ⟨_, rfl⟩
  rw [← e15] at h ⊢
  have z15 := pz e15 z14
  replace t1 := pk e15 t1
  clear t19
  have t20 := pq e15 z14
  clear e15 z14
  refine wpAnyH_take (i := 16) (oi := side1_o16) (v := .int .i64 (i : Int)) rfl (by kernel_rfl) (by kernel_rfl) (by kernel_rfl) (fun _ _ _ h => h) (Or.inl ⟨by rfl, fun w1 hw => exec_move rfl t1⟩) hHeld ?_
  change wpAnyH _ _ _ _ _ _ _ (a15.put (some 21) (.int .i64 (i : Int))) _
  obtain ⟨a16, e16⟩ : ∃ act, act = a15.put (some 21) (.int .i64 (i : Int)) := ⟨_, rfl⟩
  rw [← e16] at h ⊢
  have z16 := pz e16 z15
  replace t20 := pk e16 t20
  clear t1
  have t21 := pq e16 z15
  clear e16 z15
  refine wpAnyH_take (i := 17) (oi := side1_o17) (v := .bool r) rfl (by kernel_rfl) (by kernel_rfl) (by kernel_rfl) (fun _ _ _ h => h) (Or.inl ⟨by rfl, fun w1 hw => ex_eql rfl t20 t21 hr⟩) hHeld ?_
  change wpAnyH _ _ _ _ _ _ _ (a16.put (some 22) (.bool r)) _
  obtain ⟨a17, e17⟩ : ∃ act, act = a16.put (some 22) (.bool r) := ⟨_, rfl⟩
  rw [← e17] at h ⊢
  have z17 := pz e17 z16
  clear t20 t21
  clear e17 z16
  exact wpAnyH_done (by kernel_rfl) (NoPanic.normal (h _ _ (hHeld) rfl)) _
def hang0_o0 : Oper := { dst := some 8, op := Op.move (Operand.tmp 0), type := 90, pos := "row.go:142", after := #[], guard := none }
def hang0_o1 : Oper := { dst := some 9, op := Op.nilCheck (Operand.tmp 8), type := 0, pos := "row.go:142", after := #[{ on := 0, ground := Ground.data }], guard := none }
def hang0_o2 : Oper := { dst := some 10, op := Op.fieldAddr 65 (Operand.tmp 9) 0, type := 0, pos := "row.go:142", after := #[{ on := 1, ground := Ground.data }], guard := none }
def hang0_o3 : Oper := { dst := some 11, op := Op.load 63 (Operand.tmp 10), type := 63, pos := "row.go:142", after := #[{ on := 2, ground := Ground.data }], guard := none }
def hang0_o4 : Oper := { dst := some 12, op := Op.move (Operand.tmp 1), type := 3, pos := "row.go:142", after := #[], guard := none }
def hang0_o5 : Oper := { dst := some 13, op := Op.move (Operand.tmp 2), type := 3, pos := "row.go:142", after := #[], guard := none }
def hang0_o6 : Oper := { dst := some 14, op := Op.move (Operand.tmp 3), type := 3, pos := "row.go:142", after := #[], guard := none }
def hang0_o7 : Oper := { dst := some 15, op := Op.indexAddr 63 (Operand.tmp 11) (Operand.tmp 12), type := 0, pos := "row.go:142", after := #[{ on := 3, ground := Ground.data }, { on := 4, ground := Ground.data }], guard := none }
def hang0_o8 : Oper := { dst := some 16, op := Op.fieldAddr 89 (Operand.tmp 15) 3, type := 0, pos := "row.go:142", after := #[{ on := 7, ground := Ground.data }], guard := none }
def hang0_o9 : Oper := { dst := some 17, op := Op.indexAddr 87 (Operand.tmp 16) (Operand.tmp 13), type := 0, pos := "row.go:142", after := #[{ on := 8, ground := Ground.data }, { on := 5, ground := Ground.data }, { on := 0, ground := Ground.phase }, { on := 1, ground := Ground.phase }, { on := 2, ground := Ground.phase }, { on := 3, ground := Ground.phase }, { on := 4, ground := Ground.phase }, { on := 5, ground := Ground.phase }, { on := 6, ground := Ground.phase }], guard := none }
def hang0_o10 : Oper := { dst := none, op := Op.store 3 (Operand.tmp 17) (Operand.tmp 14), type := 0, pos := "row.go:142", after := #[{ on := 9, ground := Ground.data }, { on := 6, ground := Ground.data }, { on := 0, ground := Ground.phase }, { on := 1, ground := Ground.phase }, { on := 2, ground := Ground.phase }, { on := 3, ground := Ground.phase }, { on := 4, ground := Ground.phase }, { on := 5, ground := Ground.phase }, { on := 6, ground := Ground.phase }], guard := none }
def hang0_ops : Array Oper := #[hang0_o0, hang0_o1, hang0_o2, hang0_o3, hang0_o4, hang0_o5, hang0_o6, hang0_o7, hang0_o8, hang0_o9, hang0_o10]
set_option maxRecDepth 100000 in
set_option maxHeartbeats 4000000 in
theorem hang0 {rb ro g cap : Nat} {L : List Sp} {u p : Nat} {b : Bool} {w2 : World} (a : Act) (w : World) (Q : Exit → Act → World → Prop) (hsz : a.tmps.size = 28)
    (t0 : a.tmps.getD 0 undef = .pointer (some ⟨rb, ro, none⟩))
    (t1 : a.tmps.getD 1 undef = .int .i64 (u : Int))
    (t2 : a.tmps.getD 2 undef = .int .i64 (nb b : Int))
    (t3 : a.tmps.getD 3 undef = .int .i64 (p : Int))
    (hR : SqAt w rb ro g cap L) (hu : u < L.length) (ES : (Instr.storeAt 3 (.pointer (some ⟨g, 73 * u + 69 + nb b, none⟩)) (.int .i64 (p : Int))).run Try.prog w = .ok () w2)
    (h : ∀ (a' : Act) (w' : World), w' = w2 → a' = ((((((((((a).put (some 8) (.pointer (some ⟨rb, ro, none⟩))).put (some 9) (.pointer (some ⟨rb, ro, none⟩))).put (some 10) (.pointer (some ⟨rb, ro + 0, none⟩))).put (some 11) (.slice (some ⟨g, 0, none⟩) (L).length cap)).put (some 12) (.int .i64 (u : Int))).put (some 13) (.int .i64 (nb b : Int))).put (some 14) (.int .i64 (p : Int))).put (some 15) (.pointer (some ⟨g, 73 * u, none⟩))).put (some 16) (.pointer (some ⟨g, 73 * u + 69, none⟩))).put (some 17) (.pointer (some ⟨g, 73 * u + 69 + nb b, none⟩)) → Q .normal a' w') :
    (Code.region 0 hang0_ops false).wp Try.prog Q a w := by
  refine wp_region_list ?_
  change wpList _ _ _ [hang0_o0, hang0_o1, hang0_o2, hang0_o3, hang0_o4, hang0_o5, hang0_o6, hang0_o7, hang0_o8, hang0_o9, hang0_o10] _ _
  refine qv (v := .pointer (some ⟨rb, ro, none⟩)) (by rfl) (exec_move rfl t0) (fun a0 e0 => ?_)
  rw [← e0] at h
  have z0 := pz e0 hsz
  replace t1 := pk e0 t1
  replace t2 := pk e0 t2
  replace t3 := pk e0 t3
  clear t0
  have t8 := pq e0 hsz
  clear e0 hsz
  refine qv (v := .pointer (some ⟨rb, ro, none⟩)) (by rfl) (exec_nilCheck rfl t8) (fun a1 e1 => ?_)
  rw [← e1] at h
  have z1 := pz e1 z0
  replace t1 := pk e1 t1
  replace t2 := pk e1 t2
  replace t3 := pk e1 t3
  clear t8
  have t9 := pq e1 z0
  clear e1 z0
  refine qv (v := .pointer (some ⟨rb, ro + 0, none⟩)) (by rfl) (exec_fieldAt rfl t9 (fg_65_0 _ _ _)) (fun a2 e2 => ?_)
  rw [← e2] at h
  have z2 := pz e2 z1
  replace t1 := pk e2 t1
  replace t2 := pk e2 t2
  replace t3 := pk e2 t3
  clear t9
  have t10 := pq e2 z1
  clear e2 z1
  refine qv (v := .slice (some ⟨g, 0, none⟩) (L).length cap) (by rfl) (exec_load rfl t10 (R_sl hR)) (fun a3 e3 => ?_)
  rw [← e3] at h
  have z3 := pz e3 z2
  replace t1 := pk e3 t1
  replace t2 := pk e3 t2
  replace t3 := pk e3 t3
  clear t10
  have t11 := pq e3 z2
  clear e3 z2
  refine qv (v := .int .i64 (u : Int)) (by rfl) (exec_move rfl t1) (fun a4 e4 => ?_)
  rw [← e4] at h
  have z4 := pz e4 z3
  replace t2 := pk e4 t2
  replace t3 := pk e4 t3
  replace t11 := pk e4 t11
  clear t1
  have t12 := pq e4 z3
  clear e4 z3
  refine qv (v := .int .i64 (nb b : Int)) (by rfl) (exec_move rfl t2) (fun a5 e5 => ?_)
  rw [← e5] at h
  have z5 := pz e5 z4
  replace t3 := pk e5 t3
  replace t11 := pk e5 t11
  replace t12 := pk e5 t12
  clear t2
  have t13 := pq e5 z4
  clear e5 z4
  refine qv (v := .int .i64 (p : Int)) (by rfl) (exec_move rfl t3) (fun a6 e6 => ?_)
  rw [← e6] at h
  have z6 := pz e6 z5
  replace t11 := pk e6 t11
  replace t12 := pk e6 t12
  replace t13 := pk e6 t13
  clear t3
  have t14 := pq e6 z5
  clear e6 z5
  refine qv (v := .pointer (some ⟨g, 73 * u, none⟩)) (by rfl) (exec_indexAt rfl t11 t12 (R_ix hu hR.len _)) (fun a7 e7 => ?_)
  rw [← e7] at h
  have z7 := pz e7 z6
  replace t13 := pk e7 t13
  replace t14 := pk e7 t14
  clear t11 t12
  have t15 := pq e7 z6
  clear e7 z6
  refine qv (v := .pointer (some ⟨g, 73 * u + 69, none⟩)) (by rfl) (exec_fieldAt rfl t15 (fg_89_3 _ _ _)) (fun a8 e8 => ?_)
  rw [← e8] at h
  have z8 := pz e8 z7
  replace t13 := pk e8 t13
  replace t14 := pk e8 t14
  clear t15
  have t16 := pq e8 z7
  clear e8 z7
  refine qv (v := .pointer (some ⟨g, 73 * u + 69 + nb b, none⟩)) (by rfl) (exec_indexAt rfl t16 t13 (ix_ar _ b _)) (fun a9 e9 => ?_)
  rw [← e9] at h
  have z9 := pz e9 z8
  replace t14 := pk e9 t14
  clear t13 t16
  have t17 := pq e9 z8
  clear e9 z8
  refine qs (by rfl) (exec_store rfl t17 t14 ES) ?_
  exact wpList_nil (h _ _ (rfl) rfl)
def hang2_o0 : Oper := { dst := some 20, op := Op.move (Operand.tmp 0), type := 90, pos := "row.go:144", after := #[], guard := none }
def hang2_o1 : Oper := { dst := some 21, op := Op.nilCheck (Operand.tmp 20), type := 0, pos := "row.go:144", after := #[{ on := 0, ground := Ground.data }], guard := none }
def hang2_o2 : Oper := { dst := some 22, op := Op.fieldAddr 65 (Operand.tmp 21) 0, type := 0, pos := "row.go:144", after := #[{ on := 1, ground := Ground.data }], guard := none }
def hang2_o3 : Oper := { dst := some 23, op := Op.load 63 (Operand.tmp 22), type := 63, pos := "row.go:144", after := #[{ on := 2, ground := Ground.data }], guard := none }
def hang2_o4 : Oper := { dst := some 24, op := Op.move (Operand.tmp 3), type := 3, pos := "row.go:144", after := #[], guard := none }
def hang2_o5 : Oper := { dst := some 25, op := Op.move (Operand.tmp 1), type := 3, pos := "row.go:144", after := #[], guard := none }
def hang2_o6 : Oper := { dst := some 26, op := Op.indexAddr 63 (Operand.tmp 23) (Operand.tmp 24), type := 0, pos := "row.go:144", after := #[{ on := 3, ground := Ground.data }, { on := 4, ground := Ground.data }, { on := 0, ground := Ground.phase }, { on := 1, ground := Ground.phase }, { on := 2, ground := Ground.phase }, { on := 3, ground := Ground.phase }, { on := 4, ground := Ground.phase }, { on := 5, ground := Ground.phase }], guard := none }
def hang2_o7 : Oper := { dst := some 27, op := Op.fieldAddr 89 (Operand.tmp 26) 2, type := 0, pos := "row.go:144", after := #[{ on := 6, ground := Ground.data }, { on := 0, ground := Ground.phase }, { on := 1, ground := Ground.phase }, { on := 2, ground := Ground.phase }, { on := 3, ground := Ground.phase }, { on := 4, ground := Ground.phase }, { on := 5, ground := Ground.phase }], guard := none }
def hang2_o8 : Oper := { dst := none, op := Op.store 3 (Operand.tmp 27) (Operand.tmp 25), type := 0, pos := "row.go:144", after := #[{ on := 7, ground := Ground.data }, { on := 5, ground := Ground.data }, { on := 0, ground := Ground.phase }, { on := 1, ground := Ground.phase }, { on := 2, ground := Ground.phase }, { on := 3, ground := Ground.phase }, { on := 4, ground := Ground.phase }, { on := 5, ground := Ground.phase }], guard := none }
def hang2_ops : Array Oper := #[hang2_o0, hang2_o1, hang2_o2, hang2_o3, hang2_o4, hang2_o5, hang2_o6, hang2_o7, hang2_o8]
set_option maxRecDepth 100000 in
set_option maxHeartbeats 4000000 in
theorem hang2 {rb ro g cap : Nat} {L : List Sp} {u p : Nat} {w2 : World} (a : Act) (w : World) (Q : Exit → Act → World → Prop) (hsz : a.tmps.size = 28)
    (t0 : a.tmps.getD 0 undef = .pointer (some ⟨rb, ro, none⟩))
    (t1 : a.tmps.getD 1 undef = .int .i64 (u : Int))
    (t3 : a.tmps.getD 3 undef = .int .i64 (p : Int))
    (hR : SqAt w rb ro g cap L) (hp : p < L.length) (ES : (Instr.storeAt 3 (.pointer (some ⟨g, 73 * p + 68, none⟩)) (.int .i64 (u : Int))).run Try.prog w = .ok () w2)
    (h : ∀ (a' : Act) (w' : World), w' = w2 → a' = ((((((((a).put (some 20) (.pointer (some ⟨rb, ro, none⟩))).put (some 21) (.pointer (some ⟨rb, ro, none⟩))).put (some 22) (.pointer (some ⟨rb, ro + 0, none⟩))).put (some 23) (.slice (some ⟨g, 0, none⟩) (L).length cap)).put (some 24) (.int .i64 (p : Int))).put (some 25) (.int .i64 (u : Int))).put (some 26) (.pointer (some ⟨g, 73 * p, none⟩))).put (some 27) (.pointer (some ⟨g, 73 * p + 68, none⟩)) → Q .normal a' w') :
    (Code.region 2 hang2_ops false).wp Try.prog Q a w := by
  refine wp_region_list ?_
  change wpList _ _ _ [hang2_o0, hang2_o1, hang2_o2, hang2_o3, hang2_o4, hang2_o5, hang2_o6, hang2_o7, hang2_o8] _ _
  refine qv (v := .pointer (some ⟨rb, ro, none⟩)) (by rfl) (exec_move rfl t0) (fun a0 e0 => ?_)
  rw [← e0] at h
  have z0 := pz e0 hsz
  replace t1 := pk e0 t1
  replace t3 := pk e0 t3
  clear t0
  have t20 := pq e0 hsz
  clear e0 hsz
  refine qv (v := .pointer (some ⟨rb, ro, none⟩)) (by rfl) (exec_nilCheck rfl t20) (fun a1 e1 => ?_)
  rw [← e1] at h
  have z1 := pz e1 z0
  replace t1 := pk e1 t1
  replace t3 := pk e1 t3
  clear t20
  have t21 := pq e1 z0
  clear e1 z0
  refine qv (v := .pointer (some ⟨rb, ro + 0, none⟩)) (by rfl) (exec_fieldAt rfl t21 (fg_65_0 _ _ _)) (fun a2 e2 => ?_)
  rw [← e2] at h
  have z2 := pz e2 z1
  replace t1 := pk e2 t1
  replace t3 := pk e2 t3
  clear t21
  have t22 := pq e2 z1
  clear e2 z1
  refine qv (v := .slice (some ⟨g, 0, none⟩) (L).length cap) (by rfl) (exec_load rfl t22 (R_sl hR)) (fun a3 e3 => ?_)
  rw [← e3] at h
  have z3 := pz e3 z2
  replace t1 := pk e3 t1
  replace t3 := pk e3 t3
  clear t22
  have t23 := pq e3 z2
  clear e3 z2
  refine qv (v := .int .i64 (p : Int)) (by rfl) (exec_move rfl t3) (fun a4 e4 => ?_)
  rw [← e4] at h
  have z4 := pz e4 z3
  replace t1 := pk e4 t1
  replace t23 := pk e4 t23
  clear t3
  have t24 := pq e4 z3
  clear e4 z3
  refine qv (v := .int .i64 (u : Int)) (by rfl) (exec_move rfl t1) (fun a5 e5 => ?_)
  rw [← e5] at h
  have z5 := pz e5 z4
  replace t23 := pk e5 t23
  replace t24 := pk e5 t24
  clear t1
  have t25 := pq e5 z4
  clear e5 z4
  refine qv (v := .pointer (some ⟨g, 73 * p, none⟩)) (by rfl) (exec_indexAt rfl t23 t24 (R_ix hp hR.len _)) (fun a6 e6 => ?_)
  rw [← e6] at h
  have z6 := pz e6 z5
  replace t25 := pk e6 t25
  clear t23 t24
  have t26 := pq e6 z5
  clear e6 z5
  refine qv (v := .pointer (some ⟨g, 73 * p + 68, none⟩)) (by rfl) (exec_fieldAt rfl t26 (fg_89_2 _ _ _)) (fun a7 e7 => ?_)
  rw [← e7] at h
  have z7 := pz e7 z6
  replace t25 := pk e7 t25
  clear t26
  have t27 := pq e7 z6
  clear e7 z6
  refine qs (by rfl) (exec_store rfl t27 t25 ES) ?_
  exact wpList_nil (h _ _ (rfl) rfl)
def first1_o0 : Oper := { dst := some 5, op := Op.move (Operand.tmp 0), type := 90, pos := "row.go:126", after := #[], guard := none }
def first1_o1 : Oper := { dst := some 6, op := Op.nilCheck (Operand.tmp 5), type := 0, pos := "row.go:126", after := #[{ on := 0, ground := Ground.data }], guard := none }
def first1_o2 : Oper := { dst := some 7, op := Op.fieldAddr 65 (Operand.tmp 6) 0, type := 0, pos := "row.go:126", after := #[{ on := 1, ground := Ground.data }], guard := none }
def first1_o3 : Oper := { dst := some 8, op := Op.load 63 (Operand.tmp 7), type := 63, pos := "row.go:126", after := #[{ on := 2, ground := Ground.data }], guard := none }
def first1_o4 : Oper := { dst := some 9, op := Op.move (Operand.tmp 1), type := 3, pos := "row.go:126", after := #[], guard := none }
def first1_o5 : Oper := { dst := some 10, op := Op.indexAddr 63 (Operand.tmp 8) (Operand.tmp 9), type := 0, pos := "row.go:126", after := #[{ on := 3, ground := Ground.data }, { on := 4, ground := Ground.data }], guard := none }
def first1_o6 : Oper := { dst := some 11, op := Op.fieldAddr 89 (Operand.tmp 10) 3, type := 0, pos := "row.go:126", after := #[{ on := 5, ground := Ground.data }], guard := none }
def first1_o7 : Oper := { dst := some 12, op := Op.indexAddr 87 (Operand.tmp 11) (Operand.const (Value.int IntKind.i64 0)), type := 0, pos := "row.go:126", after := #[{ on := 6, ground := Ground.data }], guard := none }
def first1_o8 : Oper := { dst := some 13, op := Op.load 3 (Operand.tmp 12), type := 3, pos := "row.go:126", after := #[{ on := 7, ground := Ground.data }], guard := none }
def first1_o9 : Oper := { dst := some 14, op := Op.binOp BinOp.neq 3 (Operand.tmp 13) (Operand.const (Value.int IntKind.i64 0)) 3, type := 4, pos := "row.go:126", after := #[{ on := 8, ground := Ground.data }], guard := none }
def first1_ops : Array Oper := #[first1_o0, first1_o1, first1_o2, first1_o3, first1_o4, first1_o5, first1_o6, first1_o7, first1_o8, first1_o9]
set_option maxRecDepth 100000 in
set_option maxHeartbeats 4000000 in
theorem first1 {rb ro g cap : Nat} {L : List Sp} {i : Nat} {r : Bool} (a : Act) (w : World) (Q : Exit → Act → World → Prop) (hsz : a.tmps.size = 25)
    (t0 : a.tmps.getD 0 undef = .pointer (some ⟨rb, ro, none⟩))
    (t1 : a.tmps.getD 1 undef = .int .i64 (i : Int))
    (hR : SqAt w rb ro g cap L) (hi : i < L.length) (hr : decide ((dn (gt L i) false : Int) ≠ 0) = r)
    (h : ∀ (a' : Act) (w' : World), w' = w → a' = ((((((((((a).put (some 5) (.pointer (some ⟨rb, ro, none⟩))).put (some 6) (.pointer (some ⟨rb, ro, none⟩))).put (some 7) (.pointer (some ⟨rb, ro + 0, none⟩))).put (some 8) (.slice (some ⟨g, 0, none⟩) (L).length cap)).put (some 9) (.int .i64 (i : Int))).put (some 10) (.pointer (some ⟨g, 73 * i, none⟩))).put (some 11) (.pointer (some ⟨g, 73 * i + 69, none⟩))).put (some 12) (.pointer (some ⟨g, 73 * i + 69 + nb false, none⟩))).put (some 13) (.int .i64 (dn (gt L i) false : Int))).put (some 14) (.bool r) → Q .normal a' w') :
    (Code.region 1 first1_ops false).wp Try.prog Q a w := by
  refine wp_region_list ?_
  change wpList _ _ _ [first1_o0, first1_o1, first1_o2, first1_o3, first1_o4, first1_o5, first1_o6, first1_o7, first1_o8, first1_o9] _ _
  refine qv (v := .pointer (some ⟨rb, ro, none⟩)) (by rfl) (exec_move rfl t0) (fun a0 e0 => ?_)
  rw [← e0] at h
  have z0 := pz e0 hsz
  replace t1 := pk e0 t1
  clear t0
  have t5 := pq e0 hsz
  clear e0 hsz
  refine qv (v := .pointer (some ⟨rb, ro, none⟩)) (by rfl) (exec_nilCheck rfl t5) (fun a1 e1 => ?_)
  rw [← e1] at h
  have z1 := pz e1 z0
  replace t1 := pk e1 t1
  clear t5
  have t6 := pq e1 z0
  clear e1 z0
  refine qv (v := .pointer (some ⟨rb, ro + 0, none⟩)) (by rfl) (exec_fieldAt rfl t6 (fg_65_0 _ _ _)) (fun a2 e2 => ?_)
  rw [← e2] at h
  have z2 := pz e2 z1
  replace t1 := pk e2 t1
  clear t6
  have t7 := pq e2 z1
  clear e2 z1
  refine qv (v := .slice (some ⟨g, 0, none⟩) (L).length cap) (by rfl) (exec_load rfl t7 (R_sl hR)) (fun a3 e3 => ?_)
  rw [← e3] at h
  have z3 := pz e3 z2
  replace t1 := pk e3 t1
  clear t7
  have t8 := pq e3 z2
  clear e3 z2
  refine qv (v := .int .i64 (i : Int)) (by rfl) (exec_move rfl t1) (fun a4 e4 => ?_)
  rw [← e4] at h
  have z4 := pz e4 z3
  replace t8 := pk e4 t8
  clear t1
  have t9 := pq e4 z3
  clear e4 z3
  refine qv (v := .pointer (some ⟨g, 73 * i, none⟩)) (by rfl) (exec_indexAt rfl t8 t9 (R_ix hi hR.len _)) (fun a5 e5 => ?_)
  rw [← e5] at h
  have z5 := pz e5 z4
  clear t8 t9
  have t10 := pq e5 z4
  clear e5 z4
  refine qv (v := .pointer (some ⟨g, 73 * i + 69, none⟩)) (by rfl) (exec_fieldAt rfl t10 (fg_89_3 _ _ _)) (fun a6 e6 => ?_)
  rw [← e6] at h
  have z6 := pz e6 z5
  clear t10
  have t11 := pq e6 z5
  clear e6 z5
  refine qv (v := .pointer (some ⟨g, 73 * i + 69 + nb false, none⟩)) (by rfl) (exec_indexAt rfl t11 rfl (ix_a0 _ _)) (fun a7 e7 => ?_)
  rw [← e7] at h
  have z7 := pz e7 z6
  clear t11
  have t12 := pq e7 z6
  clear e7 z6
  refine qv (v := .int .i64 (dn (gt L i) false : Int)) (by rfl) (exec_load rfl t12 (R_dn hR hi false)) (fun a8 e8 => ?_)
  rw [← e8] at h
  have z8 := pz e8 z7
  clear t12
  have t13 := pq e8 z7
  clear e8 z7
  refine qv (v := .bool r) (by rfl) (ex_neq rfl t13 rfl hr) (fun a9 e9 => ?_)
  rw [← e9] at h
  have z9 := pz e9 z8
  clear t13
  clear e9 z8
  exact wpList_nil (h _ _ (rfl) rfl)
def first2_o0 : Oper := { dst := some 15, op := Op.move (Operand.tmp 0), type := 90, pos := "row.go:127", after := #[], guard := none }
def first2_o1 : Oper := { dst := some 16, op := Op.nilCheck (Operand.tmp 15), type := 0, pos := "row.go:127", after := #[{ on := 0, ground := Ground.data }], guard := none }
def first2_o2 : Oper := { dst := some 17, op := Op.fieldAddr 65 (Operand.tmp 16) 0, type := 0, pos := "row.go:127", after := #[{ on := 1, ground := Ground.data }], guard := none }
def first2_o3 : Oper := { dst := some 18, op := Op.load 63 (Operand.tmp 17), type := 63, pos := "row.go:127", after := #[{ on := 2, ground := Ground.data }], guard := none }
def first2_o4 : Oper := { dst := some 19, op := Op.move (Operand.tmp 1), type := 3, pos := "row.go:127", after := #[], guard := none }
def first2_o5 : Oper := { dst := some 20, op := Op.indexAddr 63 (Operand.tmp 18) (Operand.tmp 19), type := 0, pos := "row.go:127", after := #[{ on := 3, ground := Ground.data }, { on := 4, ground := Ground.data }], guard := none }
def first2_o6 : Oper := { dst := some 21, op := Op.fieldAddr 89 (Operand.tmp 20) 3, type := 0, pos := "row.go:127", after := #[{ on := 5, ground := Ground.data }], guard := none }
def first2_o7 : Oper := { dst := some 22, op := Op.indexAddr 87 (Operand.tmp 21) (Operand.const (Value.int IntKind.i64 0)), type := 0, pos := "row.go:127", after := #[{ on := 6, ground := Ground.data }], guard := none }
def first2_o8 : Oper := { dst := some 23, op := Op.load 3 (Operand.tmp 22), type := 3, pos := "row.go:127", after := #[{ on := 7, ground := Ground.data }], guard := none }
def first2_o9 : Oper := { dst := some 1, op := Op.assign (Operand.tmp 23), type := 3, pos := "row.go:127", after := #[{ on := 8, ground := Ground.data }, { on := 0, ground := Ground.phase }, { on := 1, ground := Ground.phase }, { on := 2, ground := Ground.phase }, { on := 3, ground := Ground.phase }, { on := 4, ground := Ground.phase }, { on := 5, ground := Ground.phase }, { on := 6, ground := Ground.phase }, { on := 7, ground := Ground.phase }, { on := 8, ground := Ground.phase }], guard := none }
def first2_ops : Array Oper := #[first2_o0, first2_o1, first2_o2, first2_o3, first2_o4, first2_o5, first2_o6, first2_o7, first2_o8, first2_o9]
set_option maxRecDepth 100000 in
set_option maxHeartbeats 4000000 in
theorem first2 {rb ro g cap : Nat} {L : List Sp} {i : Nat} (a : Act) (w : World) (Q : Exit → Act → World → Prop) (hsz : a.tmps.size = 25)
    (t0 : a.tmps.getD 0 undef = .pointer (some ⟨rb, ro, none⟩))
    (t1 : a.tmps.getD 1 undef = .int .i64 (i : Int))
    (hR : SqAt w rb ro g cap L) (hi : i < L.length)
    (h : ∀ (a' : Act) (w' : World), w' = w → a' = ((((((((((a).put (some 15) (.pointer (some ⟨rb, ro, none⟩))).put (some 16) (.pointer (some ⟨rb, ro, none⟩))).put (some 17) (.pointer (some ⟨rb, ro + 0, none⟩))).put (some 18) (.slice (some ⟨g, 0, none⟩) (L).length cap)).put (some 19) (.int .i64 (i : Int))).put (some 20) (.pointer (some ⟨g, 73 * i, none⟩))).put (some 21) (.pointer (some ⟨g, 73 * i + 69, none⟩))).put (some 22) (.pointer (some ⟨g, 73 * i + 69 + nb false, none⟩))).put (some 23) (.int .i64 (dn (gt L i) false : Int))).put (some 1) (.int .i64 (dn (gt L i) false : Int)) → Q .normal a' w') :
    (Code.region 2 first2_ops false).wp Try.prog Q a w := by
  refine wp_region_list ?_
  change wpList _ _ _ [first2_o0, first2_o1, first2_o2, first2_o3, first2_o4, first2_o5, first2_o6, first2_o7, first2_o8, first2_o9] _ _
  refine qv (v := .pointer (some ⟨rb, ro, none⟩)) (by rfl) (exec_move rfl t0) (fun a0 e0 => ?_)
  rw [← e0] at h
  have z0 := pz e0 hsz
  replace t1 := pk e0 t1
  clear t0
  have t15 := pq e0 hsz
  clear e0 hsz
  refine qv (v := .pointer (some ⟨rb, ro, none⟩)) (by rfl) (exec_nilCheck rfl t15) (fun a1 e1 => ?_)
  rw [← e1] at h
  have z1 := pz e1 z0
  replace t1 := pk e1 t1
  clear t15
  have t16 := pq e1 z0
  clear e1 z0
  refine qv (v := .pointer (some ⟨rb, ro + 0, none⟩)) (by rfl) (exec_fieldAt rfl t16 (fg_65_0 _ _ _)) (fun a2 e2 => ?_)
  rw [← e2] at h
  have z2 := pz e2 z1
  replace t1 := pk e2 t1
  clear t16
  have t17 := pq e2 z1
  clear e2 z1
  refine qv (v := .slice (some ⟨g, 0, none⟩) (L).length cap) (by rfl) (exec_load rfl t17 (R_sl hR)) (fun a3 e3 => ?_)
  rw [← e3] at h
  have z3 := pz e3 z2
  replace t1 := pk e3 t1
  clear t17
  have t18 := pq e3 z2
  clear e3 z2
  refine qv (v := .int .i64 (i : Int)) (by rfl) (exec_move rfl t1) (fun a4 e4 => ?_)
  rw [← e4] at h
  have z4 := pz e4 z3
  replace t18 := pk e4 t18
  clear t1
  have t19 := pq e4 z3
  clear e4 z3
  refine qv (v := .pointer (some ⟨g, 73 * i, none⟩)) (by rfl) (exec_indexAt rfl t18 t19 (R_ix hi hR.len _)) (fun a5 e5 => ?_)
  rw [← e5] at h
  have z5 := pz e5 z4
  clear t18 t19
  have t20 := pq e5 z4
  clear e5 z4
  refine qv (v := .pointer (some ⟨g, 73 * i + 69, none⟩)) (by rfl) (exec_fieldAt rfl t20 (fg_89_3 _ _ _)) (fun a6 e6 => ?_)
  rw [← e6] at h
  have z6 := pz e6 z5
  clear t20
  have t21 := pq e6 z5
  clear e6 z5
  refine qv (v := .pointer (some ⟨g, 73 * i + 69 + nb false, none⟩)) (by rfl) (exec_indexAt rfl t21 rfl (ix_a0 _ _)) (fun a7 e7 => ?_)
  rw [← e7] at h
  have z7 := pz e7 z6
  clear t21
  have t22 := pq e7 z6
  clear e7 z6
  refine qv (v := .int .i64 (dn (gt L i) false : Int)) (by rfl) (exec_load rfl t22 (R_dn hR hi false)) (fun a8 e8 => ?_)
  rw [← e8] at h
  have z8 := pz e8 z7
  clear t22
  have t23 := pq e8 z7
  clear e8 z7
  refine qv (v := .int .i64 (dn (gt L i) false : Int)) (by rfl) (exec_assign rfl t23) (fun a9 e9 => ?_)
  rw [← e9] at h
  have z9 := pz e9 z8
  clear t23
  clear e9 z8
  exact wpList_nil (h _ _ (rfl) rfl)
def replace0_o0 : Oper := { dst := some 6, op := Op.move (Operand.tmp 0), type := 90, pos := "row.go:150", after := #[], guard := none }
def replace0_o1 : Oper := { dst := some 7, op := Op.move (Operand.tmp 0), type := 90, pos := "row.go:150", after := #[], guard := none }
def replace0_o2 : Oper := { dst := some 8, op := Op.nilCheck (Operand.tmp 7), type := 0, pos := "row.go:150", after := #[{ on := 1, ground := Ground.data }], guard := none }
def replace0_o3 : Oper := { dst := some 9, op := Op.fieldAddr 65 (Operand.tmp 8) 0, type := 0, pos := "row.go:150", after := #[{ on := 2, ground := Ground.data }], guard := none }
def replace0_o4 : Oper := { dst := some 10, op := Op.load 63 (Operand.tmp 9), type := 63, pos := "row.go:150", after := #[{ on := 3, ground := Ground.data }], guard := none }
def replace0_o5 : Oper := { dst := some 11, op := Op.move (Operand.tmp 1), type := 3, pos := "row.go:150", after := #[], guard := none }
def replace0_o6 : Oper := { dst := some 12, op := Op.indexAddr 63 (Operand.tmp 10) (Operand.tmp 11), type := 0, pos := "row.go:150", after := #[{ on := 4, ground := Ground.data }, { on := 5, ground := Ground.data }], guard := none }
def replace0_o7 : Oper := { dst := some 13, op := Op.fieldAddr 89 (Operand.tmp 12) 2, type := 0, pos := "row.go:150", after := #[{ on := 6, ground := Ground.data }], guard := none }
def replace0_o8 : Oper := { dst := some 14, op := Op.load 3 (Operand.tmp 13), type := 3, pos := "row.go:150", after := #[{ on := 7, ground := Ground.data }], guard := none }
def replace0_o9 : Oper := { dst := some 15, op := Op.move (Operand.tmp 0), type := 90, pos := "row.go:150", after := #[], guard := none }
def replace0_o10 : Oper := { dst := some 16, op := Op.move (Operand.tmp 1), type := 3, pos := "row.go:150", after := #[], guard := none }
def replace0_o11 : Oper := { dst := some 17, op := Op.call { callee := Callee.value (Operand.func 74), args := #[Operand.tmp 15, Operand.tmp 16], argTypes := #[90, 3] }, type := 3, pos := "row.go:150", after := #[{ on := 9, ground := Ground.data }, { on := 10, ground := Ground.data }], guard := none }
def replace0_o12 : Oper := { dst := some 18, op := Op.move (Operand.tmp 2), type := 3, pos := "row.go:150", after := #[], guard := none }
def replace0_o13 : Oper := { dst := some 19, op := Op.call { callee := Callee.value (Operand.func 59), args := #[Operand.tmp 6, Operand.tmp 14, Operand.tmp 17, Operand.tmp 18], argTypes := #[90, 3, 3, 3] }, type := 0, pos := "row.go:150", after := #[{ on := 0, ground := Ground.data }, { on := 8, ground := Ground.data }, { on := 11, ground := Ground.data }, { on := 12, ground := Ground.data }, { on := 11, ground := Ground.chain }], guard := none }
def replace0_ops : Array Oper := #[replace0_o0, replace0_o1, replace0_o2, replace0_o3, replace0_o4, replace0_o5, replace0_o6, replace0_o7, replace0_o8, replace0_o9, replace0_o10, replace0_o11, replace0_o12, replace0_o13]
set_option maxRecDepth 100000 in
set_option maxHeartbeats 4000000 in
theorem replace0 {rb ro g cap : Nat} {L : List Sp} {i p : Nat} {s : Bool} (Fin : World → Prop) (a : Act) (w : World) (Q : Exit → Act → World → Prop) (hsz : a.tmps.size = 20)
    (t0 : a.tmps.getD 0 undef = .pointer (some ⟨rb, ro, none⟩))
    (t1 : a.tmps.getD 1 undef = .int .i64 (i : Int))
    (t2 : a.tmps.getD 2 undef = .int .i64 (p : Int))
    (hi : i < L.length) (hl : L.length ≤ 1400000000000) (h0 : RS rb ro g cap i L w.drew) (CS : Calls Try.prog 74 #[.pointer (some ⟨rb, ro, none⟩), .int .i64 (i : Int)] w.drew fun e w' => e = .returned (.int .i64 (nb s : Int)) ∧ RS rb ro g cap i L w' ∧ Calls Try.prog 59 #[.pointer (some ⟨rb, ro, none⟩), .int .i64 ((gt L i).up : Int), .int .i64 (nb s : Int), .int .i64 (p : Int)] w' fun e2 w2 => e2 = .returned (.tuple #[]) ∧ RS rb ro g cap i L w2 ∧ Fin w2)
    (h : ∀ (a' : Act) (w' : World), Fin w' → a' = ((((((((((((((a).put (some 6) (.pointer (some ⟨rb, ro, none⟩))).put (some 7) (.pointer (some ⟨rb, ro, none⟩))).put (some 8) (.pointer (some ⟨rb, ro, none⟩))).put (some 9) (.pointer (some ⟨rb, ro + 0, none⟩))).put (some 10) (.slice (some ⟨g, 0, none⟩) L.length cap)).put (some 11) (.int .i64 (i : Int))).put (some 12) (.pointer (some ⟨g, 73 * i, none⟩))).put (some 13) (.pointer (some ⟨g, 73 * i + 68, none⟩))).put (some 14) (.int .i64 ((gt L i).up : Int))).put (some 15) (.pointer (some ⟨rb, ro, none⟩))).put (some 16) (.int .i64 (i : Int))).put (some 18) (.int .i64 (p : Int))).put (some 17) (.int .i64 (nb s : Int))).put (some 19) (.tuple #[]) → Q .normal a' w') :
    (Code.region 0 replace0_ops true).wp Try.prog Q a w := by
  refine wp_region_noPanic ?_
  refine wp_region_held_drew (S := fun w' => RS rb ro g cap i L w') (by kernel_rfl) (h0) (fun hHeld => ?_)
  refine wpAnyH_take (i := 0) (oi := replace0_o0) (v := .pointer (some ⟨rb, ro, none⟩)) rfl (by kernel_rfl) (by kernel_rfl) (by kernel_rfl) (fun _ _ _ h => h) (Or.inl ⟨by rfl, fun w1 hw => exec_move rfl t0⟩) hHeld ?_
  change wpAnyH _ _ _ _ _ _ _ (a.put (some 6) (.pointer (some ⟨rb, ro, none⟩))) _
  obtain ⟨a0, e0⟩ : ∃ act, act = a.put (some 6) (.pointer (some ⟨rb, ro, none⟩)) := ⟨_, rfl⟩
  rw [← e0] at h ⊢
  have z0 := pz e0 hsz
  replace t0 := pk e0 t0
  replace t1 := pk e0 t1
  replace t2 := pk e0 t2
  have t6 := pq e0 hsz
  clear e0 hsz
  refine wpAnyH_take (i := 1) (oi := replace0_o1) (v := .pointer (some ⟨rb, ro, none⟩)) rfl (by kernel_rfl) (by kernel_rfl) (by kernel_rfl) (fun _ _ _ h => h) (Or.inl ⟨by rfl, fun w1 hw => exec_move rfl t0⟩) hHeld ?_
  change wpAnyH _ _ _ _ _ _ _ (a0.put (some 7) (.pointer (some ⟨rb, ro, none⟩))) _
  obtain ⟨a1, e1⟩ : ∃ act, act = a0.put (some 7) (.pointer (some ⟨rb, ro, none⟩)) := ⟨_, rfl⟩
  rw [← e1] at h ⊢
  have z1 := pz e1 z0
  replace t0 := pk e1 t0
  replace t1 := pk e1 t1
  replace t2 := pk e1 t2
  replace t6 := pk e1 t6
  have t7 := pq e1 z0
  clear e1 z0
  refine wpAnyH_take (i := 2) (oi := replace0_o2) (v := .pointer (some ⟨rb, ro, none⟩)) rfl (by kernel_rfl) (by kernel_rfl) (by kernel_rfl) (fun _ _ _ h => h) (Or.inl ⟨by rfl, fun w1 hw => exec_nilCheck rfl t7⟩) hHeld ?_
  change wpAnyH _ _ _ _ _ _ _ (a1.put (some 8) (.pointer (some ⟨rb, ro, none⟩))) _
  obtain ⟨a2, e2⟩ : ∃ act, act = a1.put (some 8) (.pointer (some ⟨rb, ro, none⟩)) := ⟨_, rfl⟩
  rw [← e2] at h ⊢
  have z2 := pz e2 z1
  replace t0 := pk e2 t0
  replace t1 := pk e2 t1
  replace t2 := pk e2 t2
  replace t6 := pk e2 t6
  clear t7
  have t8 := pq e2 z1
  clear e2 z1
  refine wpAnyH_take (i := 3) (oi := replace0_o3) (v := .pointer (some ⟨rb, ro + 0, none⟩)) rfl (by kernel_rfl) (by kernel_rfl) (by kernel_rfl) (fun _ _ _ h => h) (Or.inl ⟨by rfl, fun w1 hw => exec_fieldAt rfl t8 (fg_65_0 _ _ _)⟩) hHeld ?_
  change wpAnyH _ _ _ _ _ _ _ (a2.put (some 9) (.pointer (some ⟨rb, ro + 0, none⟩))) _
  obtain ⟨a3, e3⟩ : ∃ act, act = a2.put (some 9) (.pointer (some ⟨rb, ro + 0, none⟩)) := ⟨_, rfl⟩
  rw [← e3] at h ⊢
  have z3 := pz e3 z2
  replace t0 := pk e3 t0
  replace t1 := pk e3 t1
  replace t2 := pk e3 t2
  replace t6 := pk e3 t6
  clear t8
  have t9 := pq e3 z2
  clear e3 z2
  refine wpAnyH_take (i := 4) (oi := replace0_o4) (v := .slice (some ⟨g, 0, none⟩) L.length cap) rfl (by kernel_rfl) (by kernel_rfl) (by kernel_rfl) (fun _ _ _ h => h) (Or.inl ⟨by rfl, fun w1 hw => exec_load rfl t9 hw.1⟩) hHeld ?_
  change wpAnyH _ _ _ _ _ _ _ (a3.put (some 10) (.slice (some ⟨g, 0, none⟩) L.length cap)) _
  obtain ⟨a4, e4⟩ : ∃ act, act = a3.put (some 10) (.slice (some ⟨g, 0, none⟩) L.length cap) := ⟨_, rfl⟩
  rw [← e4] at h ⊢
  have z4 := pz e4 z3
  replace t0 := pk e4 t0
  replace t1 := pk e4 t1
  replace t2 := pk e4 t2
  replace t6 := pk e4 t6
  clear t9
  have t10 := pq e4 z3
  clear e4 z3
  refine wpAnyH_take (i := 5) (oi := replace0_o5) (v := .int .i64 (i : Int)) rfl (by kernel_rfl) (by kernel_rfl) (by kernel_rfl) (fun _ _ _ h => h) (Or.inl ⟨by rfl, fun w1 hw => exec_move rfl t1⟩) hHeld ?_
  change wpAnyH _ _ _ _ _ _ _ (a4.put (some 11) (.int .i64 (i : Int))) _
  obtain ⟨a5, e5⟩ : ∃ act, act = a4.put (some 11) (.int .i64 (i : Int)) := ⟨_, rfl⟩
  rw [← e5] at h ⊢
  have z5 := pz e5 z4
  replace t0 := pk e5 t0
  replace t1 := pk e5 t1
  replace t2 := pk e5 t2
  replace t6 := pk e5 t6
  replace t10 := pk e5 t10
  have t11 := pq e5 z4
  clear e5 z4
  refine wpAnyH_take (i := 6) (oi := replace0_o6) (v := .pointer (some ⟨g, 73 * i, none⟩)) rfl (by kernel_rfl) (by kernel_rfl) (by kernel_rfl) (fun _ _ _ h => h) (Or.inl ⟨by rfl, fun w1 hw => exec_indexAt rfl t10 t11 (R_ix hi hl _)⟩) hHeld ?_
  change wpAnyH _ _ _ _ _ _ _ (a5.put (some 12) (.pointer (some ⟨g, 73 * i, none⟩))) _
  obtain ⟨a6, e6⟩ : ∃ act, act = a5.put (some 12) (.pointer (some ⟨g, 73 * i, none⟩)) := ⟨_, rfl⟩
  rw [← e6] at h ⊢
  have z6 := pz e6 z5
  replace t0 := pk e6 t0
  replace t1 := pk e6 t1
  replace t2 := pk e6 t2
  replace t6 := pk e6 t6
  clear t10 t11
  have t12 := pq e6 z5
  clear e6 z5
  refine wpAnyH_take (i := 7) (oi := replace0_o7) (v := .pointer (some ⟨g, 73 * i + 68, none⟩)) rfl (by kernel_rfl) (by kernel_rfl) (by kernel_rfl) (fun _ _ _ h => h) (Or.inl ⟨by rfl, fun w1 hw => exec_fieldAt rfl t12 (fg_89_2 _ _ _)⟩) hHeld ?_
  change wpAnyH _ _ _ _ _ _ _ (a6.put (some 13) (.pointer (some ⟨g, 73 * i + 68, none⟩))) _
  obtain ⟨a7, e7⟩ : ∃ act, act = a6.put (some 13) (.pointer (some ⟨g, 73 * i + 68, none⟩)) := ⟨_, rfl⟩
  rw [← e7] at h ⊢
  have z7 := pz e7 z6
  replace t0 := pk e7 t0
  replace t1 := pk e7 t1
  replace t2 := pk e7 t2
  replace t6 := pk e7 t6
  clear t12
  have t13 := pq e7 z6
  clear e7 z6
  refine wpAnyH_take (i := 8) (oi := replace0_o8) (v := .int .i64 ((gt L i).up : Int)) rfl (by kernel_rfl) (by kernel_rfl) (by kernel_rfl) (fun _ _ _ h => h) (Or.inl ⟨by rfl, fun w1 hw => exec_load rfl t13 hw.2⟩) hHeld ?_
  change wpAnyH _ _ _ _ _ _ _ (a7.put (some 14) (.int .i64 ((gt L i).up : Int))) _
  obtain ⟨a8, e8⟩ : ∃ act, act = a7.put (some 14) (.int .i64 ((gt L i).up : Int)) := ⟨_, rfl⟩
  rw [← e8] at h ⊢
  have z8 := pz e8 z7
  replace t0 := pk e8 t0
  replace t1 := pk e8 t1
  replace t2 := pk e8 t2
  replace t6 := pk e8 t6
  clear t13
  have t14 := pq e8 z7
  clear e8 z7
  refine wpAnyH_take (i := 9) (oi := replace0_o9) (v := .pointer (some ⟨rb, ro, none⟩)) rfl (by kernel_rfl) (by kernel_rfl) (by kernel_rfl) (fun _ _ _ h => h) (Or.inl ⟨by rfl, fun w1 hw => exec_move rfl t0⟩) hHeld ?_
  change wpAnyH _ _ _ _ _ _ _ (a8.put (some 15) (.pointer (some ⟨rb, ro, none⟩))) _
  obtain ⟨a9, e9⟩ : ∃ act, act = a8.put (some 15) (.pointer (some ⟨rb, ro, none⟩)) := ⟨_, rfl⟩
  rw [← e9] at h ⊢
  have z9 := pz e9 z8
  replace t1 := pk e9 t1
  replace t2 := pk e9 t2
  replace t6 := pk e9 t6
  replace t14 := pk e9 t14
  clear t0
  have t15 := pq e9 z8
  clear e9 z8
  refine wpAnyH_take (i := 10) (oi := replace0_o10) (v := .int .i64 (i : Int)) rfl (by kernel_rfl) (by kernel_rfl) (by kernel_rfl) (fun _ _ _ h => h) (Or.inl ⟨by rfl, fun w1 hw => exec_move rfl t1⟩) hHeld ?_
  change wpAnyH _ _ _ _ _ _ _ (a9.put (some 16) (.int .i64 (i : Int))) _
  obtain ⟨a10, e10⟩ : ∃ act, act = a9.put (some 16) (.int .i64 (i : Int)) := ⟨_, rfl⟩
  rw [← e10] at h ⊢
  have z10 := pz e10 z9
  replace t2 := pk e10 t2
  replace t6 := pk e10 t6
  replace t14 := pk e10 t14
  replace t15 := pk e10 t15
  clear t1
  have t16 := pq e10 z9
  clear e10 z9
  refine wpAnyH_take (i := 12) (oi := replace0_o12) (v := .int .i64 (p : Int)) rfl (by kernel_rfl) (by kernel_rfl) (by kernel_rfl) (fun _ _ _ h => h) (Or.inl ⟨by rfl, fun w1 hw => exec_move rfl t2⟩) hHeld ?_
  change wpAnyH _ _ _ _ _ _ _ (a10.put (some 18) (.int .i64 (p : Int))) _
  obtain ⟨a12, e12⟩ : ∃ act, act = a10.put (some 18) (.int .i64 (p : Int)) := ⟨_, rfl⟩
  rw [← e12] at h ⊢
  have z12 := pz e12 z10
  replace t6 := pk e12 t6
  replace t14 := pk e12 t14
  replace t15 := pk e12 t15
  replace t16 := pk e12 t16
  clear t2
  have t18 := pq e12 z10
  clear e12 z10
  refine wpAnyH_ready (rs := [11]) (by kernel_rfl) (by simp) ?_
  refine AllReadyH.cons (o := replace0_o11) rfl (fun K hK => ?_) AllReadyH.nil
  rw [if_pos (by rfl)]
  unfold replace0_o11 at hK ⊢
  go_simp
  refine (CS).mono ?_
  rintro e x11 ⟨rfl, S1, CH⟩
  try go_wp2_with fail
  refine hK.out _ _ (S1) (fun hHeld => ?_)
  clear hK K
  change wpAnyH _ _ _ _ _ _ _ (a12.put (some 17) (.int .i64 (nb s : Int))) _
  obtain ⟨a11, e11⟩ : ∃ act, act = a12.put (some 17) (.int .i64 (nb s : Int)) := ⟨_, rfl⟩
  rw [← e11] at h ⊢
  have z11 := pz e11 z12
  replace t6 := pk e11 t6
  replace t14 := pk e11 t14
  replace t18 := pk e11 t18
  clear t15 t16
  have t17 := pq e11 z12
  clear e11 z12
  refine wpAnyH_ready (rs := [13]) (by kernel_rfl) (by simp) ?_
  refine AllReadyH.cons (o := replace0_o13) rfl (fun K hK => ?_) AllReadyH.nil
  rw [if_pos (by rfl)]
  unfold replace0_o13 at hK ⊢
  go_simp
  refine (CH).mono ?_
  rintro e x13 ⟨rfl, S2, HF⟩
  try go_wp2_with fail
  refine hK.out _ _ (S2) (fun hHeld => ?_)
  clear hK K
  change wpAnyH _ _ _ _ _ _ _ (a11.put (some 19) (.tuple #[])) _
  obtain ⟨a13, e13⟩ : ∃ act, act = a11.put (some 19) (.tuple #[]) := ⟨_, rfl⟩
  rw [← e13] at h ⊢
  have z13 := pz e13 z11
  clear t6 t14 t18 t17
  clear e13 z11
  exact wpAnyH_done (by kernel_rfl) (NoPanic.normal (h _ _ (HF) rfl)) _
def tally3_o0 : Oper := { dst := some 8, op := Op.move (Operand.tmp 0), type := 90, pos := "row.go:163", after := #[], guard := none }
def tally3_o1 : Oper := { dst := some 9, op := Op.nilCheck (Operand.tmp 8), type := 0, pos := "row.go:163", after := #[{ on := 0, ground := Ground.data }], guard := none }
def tally3_o2 : Oper := { dst := some 10, op := Op.fieldAddr 65 (Operand.tmp 9) 0, type := 0, pos := "row.go:163", after := #[{ on := 1, ground := Ground.data }], guard := none }
def tally3_o3 : Oper := { dst := some 11, op := Op.load 63 (Operand.tmp 10), type := 63, pos := "row.go:163", after := #[{ on := 2, ground := Ground.data }], guard := none }
def tally3_o4 : Oper := { dst := some 12, op := Op.move (Operand.tmp 1), type := 3, pos := "row.go:163", after := #[], guard := none }
def tally3_o5 : Oper := { dst := some 13, op := Op.move (Operand.tmp 4), type := 3, pos := "row.go:163", after := #[], guard := none }
def tally3_o6 : Oper := { dst := some 14, op := Op.move (Operand.tmp 0), type := 90, pos := "row.go:163", after := #[], guard := none }
def tally3_o7 : Oper := { dst := some 15, op := Op.move (Operand.tmp 1), type := 3, pos := "row.go:163", after := #[], guard := none }
def tally3_o8 : Oper := { dst := some 16, op := Op.move (Operand.tmp 4), type := 3, pos := "row.go:163", after := #[], guard := none }
def tally3_o9 : Oper := { dst := some 17, op := Op.call { callee := Callee.value (Operand.func 80), args := #[Operand.tmp 14, Operand.tmp 15, Operand.tmp 16], argTypes := #[90, 3, 3] }, type := 3, pos := "row.go:163", after := #[{ on := 6, ground := Ground.data }, { on := 7, ground := Ground.data }, { on := 8, ground := Ground.data }], guard := none }
def tally3_o10 : Oper := { dst := some 18, op := Op.move (Operand.tmp 0), type := 90, pos := "row.go:163", after := #[], guard := none }
def tally3_o11 : Oper := { dst := some 19, op := Op.nilCheck (Operand.tmp 18), type := 0, pos := "row.go:163", after := #[{ on := 10, ground := Ground.data }], guard := none }
def tally3_o12 : Oper := { dst := some 20, op := Op.fieldAddr 65 (Operand.tmp 19) 0, type := 0, pos := "row.go:163", after := #[{ on := 11, ground := Ground.data }], guard := none }
def tally3_o13 : Oper := { dst := some 21, op := Op.load 63 (Operand.tmp 20), type := 63, pos := "row.go:163", after := #[{ on := 12, ground := Ground.data }], guard := none }
def tally3_o14 : Oper := { dst := some 22, op := Op.move (Operand.tmp 0), type := 90, pos := "row.go:163", after := #[], guard := none }
def tally3_o15 : Oper := { dst := some 23, op := Op.nilCheck (Operand.tmp 22), type := 0, pos := "row.go:163", after := #[{ on := 14, ground := Ground.data }], guard := none }
def tally3_o16 : Oper := { dst := some 24, op := Op.fieldAddr 65 (Operand.tmp 23) 0, type := 0, pos := "row.go:163", after := #[{ on := 15, ground := Ground.data }], guard := none }
def tally3_o17 : Oper := { dst := some 25, op := Op.load 63 (Operand.tmp 24), type := 63, pos := "row.go:163", after := #[{ on := 16, ground := Ground.data }], guard := none }
def tally3_o18 : Oper := { dst := some 26, op := Op.move (Operand.tmp 1), type := 3, pos := "row.go:163", after := #[], guard := none }
def tally3_o19 : Oper := { dst := some 27, op := Op.indexAddr 63 (Operand.tmp 25) (Operand.tmp 26), type := 0, pos := "row.go:163", after := #[{ on := 17, ground := Ground.data }, { on := 18, ground := Ground.data }], guard := none }
def tally3_o20 : Oper := { dst := some 28, op := Op.fieldAddr 89 (Operand.tmp 27) 3, type := 0, pos := "row.go:163", after := #[{ on := 19, ground := Ground.data }], guard := none }
def tally3_o21 : Oper := { dst := some 29, op := Op.indexAddr 87 (Operand.tmp 28) (Operand.const (Value.int IntKind.i64 1)), type := 0, pos := "row.go:163", after := #[{ on := 20, ground := Ground.data }], guard := none }
def tally3_o22 : Oper := { dst := some 30, op := Op.load 3 (Operand.tmp 29), type := 3, pos := "row.go:163", after := #[{ on := 21, ground := Ground.data }], guard := none }
def tally3_o23 : Oper := { dst := some 31, op := Op.move (Operand.tmp 4), type := 3, pos := "row.go:163", after := #[], guard := none }
def tally3_o24 : Oper := { dst := some 32, op := Op.indexAddr 63 (Operand.tmp 21) (Operand.tmp 30), type := 0, pos := "row.go:163", after := #[{ on := 13, ground := Ground.data }, { on := 22, ground := Ground.data }], guard := none }
def tally3_o25 : Oper := { dst := some 33, op := Op.fieldAddr 89 (Operand.tmp 32) 4, type := 0, pos := "row.go:163", after := #[{ on := 24, ground := Ground.data }], guard := none }
def tally3_o26 : Oper := { dst := some 34, op := Op.indexAddr 87 (Operand.tmp 33) (Operand.tmp 31), type := 0, pos := "row.go:163", after := #[{ on := 25, ground := Ground.data }, { on := 23, ground := Ground.data }], guard := none }
def tally3_o27 : Oper := { dst := some 35, op := Op.load 3 (Operand.tmp 34), type := 3, pos := "row.go:163", after := #[{ on := 26, ground := Ground.data }], guard := none }
def tally3_o28 : Oper := { dst := some 36, op := Op.binOp BinOp.add 3 (Operand.tmp 17) (Operand.tmp 35) 3, type := 3, pos := "row.go:163", after := #[{ on := 9, ground := Ground.data }, { on := 27, ground := Ground.data }], guard := none }
def tally3_o29 : Oper := { dst := some 37, op := Op.indexAddr 63 (Operand.tmp 11) (Operand.tmp 12), type := 0, pos := "row.go:163", after := #[{ on := 3, ground := Ground.data }, { on := 4, ground := Ground.data }], guard := none }
def tally3_o30 : Oper := { dst := some 38, op := Op.fieldAddr 89 (Operand.tmp 37) 4, type := 0, pos := "row.go:163", after := #[{ on := 29, ground := Ground.data }], guard := none }
def tally3_o31 : Oper := { dst := some 39, op := Op.indexAddr 87 (Operand.tmp 38) (Operand.tmp 13), type := 0, pos := "row.go:163", after := #[{ on := 30, ground := Ground.data }, { on := 5, ground := Ground.data }, { on := 0, ground := Ground.phase }, { on := 1, ground := Ground.phase }, { on := 2, ground := Ground.phase }, { on := 3, ground := Ground.phase }, { on := 4, ground := Ground.phase }, { on := 5, ground := Ground.phase }, { on := 6, ground := Ground.phase }, { on := 7, ground := Ground.phase }, { on := 8, ground := Ground.phase }, { on := 9, ground := Ground.phase }, { on := 10, ground := Ground.phase }, { on := 11, ground := Ground.phase }, { on := 12, ground := Ground.phase }, { on := 13, ground := Ground.phase }, { on := 14, ground := Ground.phase }, { on := 15, ground := Ground.phase }, { on := 16, ground := Ground.phase }, { on := 17, ground := Ground.phase }, { on := 18, ground := Ground.phase }, { on := 19, ground := Ground.phase }, { on := 20, ground := Ground.phase }, { on := 21, ground := Ground.phase }, { on := 22, ground := Ground.phase }, { on := 23, ground := Ground.phase }, { on := 24, ground := Ground.phase }, { on := 25, ground := Ground.phase }, { on := 26, ground := Ground.phase }, { on := 27, ground := Ground.phase }, { on := 28, ground := Ground.phase }], guard := none }
def tally3_o32 : Oper := { dst := none, op := Op.store 3 (Operand.tmp 39) (Operand.tmp 36), type := 0, pos := "row.go:163", after := #[{ on := 31, ground := Ground.data }, { on := 28, ground := Ground.data }, { on := 9, ground := Ground.chain }, { on := 0, ground := Ground.phase }, { on := 1, ground := Ground.phase }, { on := 2, ground := Ground.phase }, { on := 3, ground := Ground.phase }, { on := 4, ground := Ground.phase }, { on := 5, ground := Ground.phase }, { on := 6, ground := Ground.phase }, { on := 7, ground := Ground.phase }, { on := 8, ground := Ground.phase }, { on := 9, ground := Ground.phase }, { on := 10, ground := Ground.phase }, { on := 11, ground := Ground.phase }, { on := 12, ground := Ground.phase }, { on := 13, ground := Ground.phase }, { on := 14, ground := Ground.phase }, { on := 15, ground := Ground.phase }, { on := 16, ground := Ground.phase }, { on := 17, ground := Ground.phase }, { on := 18, ground := Ground.phase }, { on := 19, ground := Ground.phase }, { on := 20, ground := Ground.phase }, { on := 21, ground := Ground.phase }, { on := 22, ground := Ground.phase }, { on := 23, ground := Ground.phase }, { on := 24, ground := Ground.phase }, { on := 25, ground := Ground.phase }, { on := 26, ground := Ground.phase }, { on := 27, ground := Ground.phase }, { on := 28, ground := Ground.phase }], guard := none }
def tally3_ops : Array Oper := #[tally3_o0, tally3_o1, tally3_o2, tally3_o3, tally3_o4, tally3_o5, tally3_o6, tally3_o7, tally3_o8, tally3_o9, tally3_o10, tally3_o11, tally3_o12, tally3_o13, tally3_o14, tally3_o15, tally3_o16, tally3_o17, tally3_o18, tally3_o19, tally3_o20, tally3_o21, tally3_o22, tally3_o23, tally3_o24, tally3_o25, tally3_o26, tally3_o27, tally3_o28, tally3_o29, tally3_o30, tally3_o31, tally3_o32]
set_option maxRecDepth 100000 in
set_option maxHeartbeats 4000000 in
theorem tally3 {rb ro g cap : Nat} {L : List Sp} {i u : Nat} {c : Bool} (Fin : World → Prop) (a : Act) (w : World) (Q : Exit → Act → World → Prop) (hsz : a.tmps.size = 41)
    (t0 : a.tmps.getD 0 undef = .pointer (some ⟨rb, ro, none⟩))
    (t1 : a.tmps.getD 1 undef = .int .i64 (i : Int))
    (t4 : a.tmps.getD 4 undef = .int .i64 (nb c : Int))
    (hi : i < L.length) (hl : L.length ≤ 1400000000000) (hd : dn (gt L i) true < L.length) (h0 : TS rb ro g cap i c L w.drew) (hs : u + ct (gt L (dn (gt L i) true)) c ≤ 9223372036854775807) (CU : Calls Try.prog 80 #[.pointer (some ⟨rb, ro, none⟩), .int .i64 (i : Int), .int .i64 (nb c : Int)] w.drew fun e w' => e = .returned (.int .i64 (u : Int)) ∧ TS rb ro g cap i c L w' ∧ ∃ w2, (Instr.storeAt 3 (.pointer (some ⟨g, 73 * i + 71 + nb c, none⟩)) (.int .i64 ((u + ct (gt L (dn (gt L i) true)) c : Nat) : Int))).run Try.prog w' = .ok () w2 ∧ TS rb ro g cap i c L w2 ∧ Fin w2)
    (h : ∀ (a' : Act) (w' : World), Fin w' → a' = ((((((((((((((((((((((((((((((((a).put (some 8) (.pointer (some ⟨rb, ro, none⟩))).put (some 9) (.pointer (some ⟨rb, ro, none⟩))).put (some 10) (.pointer (some ⟨rb, ro + 0, none⟩))).put (some 11) (.slice (some ⟨g, 0, none⟩) L.length cap)).put (some 12) (.int .i64 (i : Int))).put (some 13) (.int .i64 (nb c : Int))).put (some 14) (.pointer (some ⟨rb, ro, none⟩))).put (some 15) (.int .i64 (i : Int))).put (some 16) (.int .i64 (nb c : Int))).put (some 18) (.pointer (some ⟨rb, ro, none⟩))).put (some 19) (.pointer (some ⟨rb, ro, none⟩))).put (some 20) (.pointer (some ⟨rb, ro + 0, none⟩))).put (some 21) (.slice (some ⟨g, 0, none⟩) L.length cap)).put (some 22) (.pointer (some ⟨rb, ro, none⟩))).put (some 23) (.pointer (some ⟨rb, ro, none⟩))).put (some 24) (.pointer (some ⟨rb, ro + 0, none⟩))).put (some 25) (.slice (some ⟨g, 0, none⟩) L.length cap)).put (some 26) (.int .i64 (i : Int))).put (some 27) (.pointer (some ⟨g, 73 * i, none⟩))).put (some 28) (.pointer (some ⟨g, 73 * i + 69, none⟩))).put (some 29) (.pointer (some ⟨g, 73 * i + 69 + nb true, none⟩))).put (some 30) (.int .i64 (dn (gt L i) true : Int))).put (some 31) (.int .i64 (nb c : Int))).put (some 32) (.pointer (some ⟨g, 73 * (dn (gt L i) true), none⟩))).put (some 33) (.pointer (some ⟨g, 73 * (dn (gt L i) true) + 71, none⟩))).put (some 34) (.pointer (some ⟨g, 73 * (dn (gt L i) true) + 71 + nb c, none⟩))).put (some 35) (.int .i64 (ct (gt L (dn (gt L i) true)) c : Int))).put (some 37) (.pointer (some ⟨g, 73 * i, none⟩))).put (some 38) (.pointer (some ⟨g, 73 * i + 71, none⟩))).put (some 17) (.int .i64 (u : Int))).put (some 36) (.int .i64 ((u + ct (gt L (dn (gt L i) true)) c : Nat) : Int))).put (some 39) (.pointer (some ⟨g, 73 * i + 71 + nb c, none⟩)) → Q .normal a' w') :
    (Code.region 3 tally3_ops true).wp Try.prog Q a w := by
  refine wp_region_noPanic ?_
  refine wp_region_held_drew (S := fun w' => TS rb ro g cap i c L w') (by kernel_rfl) (h0) (fun hHeld => ?_)
  refine wpAnyH_take (i := 0) (oi := tally3_o0) (v := .pointer (some ⟨rb, ro, none⟩)) rfl (by kernel_rfl) (by kernel_rfl) (by kernel_rfl) (fun _ _ _ h => h) (Or.inl ⟨by rfl, fun w1 hw => exec_move rfl t0⟩) hHeld ?_
  change wpAnyH _ _ _ _ _ _ _ (a.put (some 8) (.pointer (some ⟨rb, ro, none⟩))) _
  obtain ⟨a0, e0⟩ : ∃ act, act = a.put (some 8) (.pointer (some ⟨rb, ro, none⟩)) := ⟨_, rfl⟩
  rw [← e0] at h ⊢
  have z0 := pz e0 hsz
  replace t0 := pk e0 t0
  replace t1 := pk e0 t1
  replace t4 := pk e0 t4
  have t8 := pq e0 hsz
  clear e0 hsz
  refine wpAnyH_take (i := 1) (oi := tally3_o1) (v := .pointer (some ⟨rb, ro, none⟩)) rfl (by kernel_rfl) (by kernel_rfl) (by kernel_rfl) (fun _ _ _ h => h) (Or.inl ⟨by rfl, fun w1 hw => exec_nilCheck rfl t8⟩) hHeld ?_
  change wpAnyH _ _ _ _ _ _ _ (a0.put (some 9) (.pointer (some ⟨rb, ro, none⟩))) _
  obtain ⟨a1, e1⟩ : ∃ act, act = a0.put (some 9) (.pointer (some ⟨rb, ro, none⟩)) := ⟨_, rfl⟩
  rw [← e1] at h ⊢
  have z1 := pz e1 z0
  replace t0 := pk e1 t0
  replace t1 := pk e1 t1
  replace t4 := pk e1 t4
  clear t8
  have t9 := pq e1 z0
  clear e1 z0
  refine wpAnyH_take (i := 2) (oi := tally3_o2) (v := .pointer (some ⟨rb, ro + 0, none⟩)) rfl (by kernel_rfl) (by kernel_rfl) (by kernel_rfl) (fun _ _ _ h => h) (Or.inl ⟨by rfl, fun w1 hw => exec_fieldAt rfl t9 (fg_65_0 _ _ _)⟩) hHeld ?_
  change wpAnyH _ _ _ _ _ _ _ (a1.put (some 10) (.pointer (some ⟨rb, ro + 0, none⟩))) _
  obtain ⟨a2, e2⟩ : ∃ act, act = a1.put (some 10) (.pointer (some ⟨rb, ro + 0, none⟩)) := ⟨_, rfl⟩
  rw [← e2] at h ⊢
  have z2 := pz e2 z1
  replace t0 := pk e2 t0
  replace t1 := pk e2 t1
  replace t4 := pk e2 t4
  clear t9
  have t10 := pq e2 z1
  clear e2 z1
  refine wpAnyH_take (i := 3) (oi := tally3_o3) (v := .slice (some ⟨g, 0, none⟩) L.length cap) rfl (by kernel_rfl) (by kernel_rfl) (by kernel_rfl) (fun _ _ _ h => h) (Or.inl ⟨by rfl, fun w1 hw => exec_load rfl t10 hw.1⟩) hHeld ?_
  change wpAnyH _ _ _ _ _ _ _ (a2.put (some 11) (.slice (some ⟨g, 0, none⟩) L.length cap)) _
  obtain ⟨a3, e3⟩ : ∃ act, act = a2.put (some 11) (.slice (some ⟨g, 0, none⟩) L.length cap) := ⟨_, rfl⟩
  rw [← e3] at h ⊢
  have z3 := pz e3 z2
  replace t0 := pk e3 t0
  replace t1 := pk e3 t1
  replace t4 := pk e3 t4
  clear t10
  have t11 := pq e3 z2
  clear e3 z2
  refine wpAnyH_take (i := 4) (oi := tally3_o4) (v := .int .i64 (i : Int)) rfl (by kernel_rfl) (by kernel_rfl) (by kernel_rfl) (fun _ _ _ h => h) (Or.inl ⟨by rfl, fun w1 hw => exec_move rfl t1⟩) hHeld ?_
  change wpAnyH _ _ _ _ _ _ _ (a3.put (some 12) (.int .i64 (i : Int))) _
  obtain ⟨a4, e4⟩ : ∃ act, act = a3.put (some 12) (.int .i64 (i : Int)) := ⟨_, rfl⟩
  rw [← e4] at h ⊢
  have z4 := pz e4 z3
  replace t0 := pk e4 t0
  replace t1 := pk e4 t1
  replace t4 := pk e4 t4
  replace t11 := pk e4 t11
  have t12 := pq e4 z3
  clear e4 z3
  refine wpAnyH_take (i := 5) (oi := tally3_o5) (v := .int .i64 (nb c : Int)) rfl (by kernel_rfl) (by kernel_rfl) (by kernel_rfl) (fun _ _ _ h => h) (Or.inl ⟨by rfl, fun w1 hw => exec_move rfl t4⟩) hHeld ?_
  change wpAnyH _ _ _ _ _ _ _ (a4.put (some 13) (.int .i64 (nb c : Int))) _
  obtain ⟨a5, e5⟩ : ∃ act, act = a4.put (some 13) (.int .i64 (nb c : Int)) := ⟨_, rfl⟩
  rw [← e5] at h ⊢
  have z5 := pz e5 z4
  replace t0 := pk e5 t0
  replace t1 := pk e5 t1
  replace t4 := pk e5 t4
  replace t11 := pk e5 t11
  replace t12 := pk e5 t12
  have t13 := pq e5 z4
  clear e5 z4
  refine wpAnyH_take (i := 6) (oi := tally3_o6) (v := .pointer (some ⟨rb, ro, none⟩)) rfl (by kernel_rfl) (by kernel_rfl) (by kernel_rfl) (fun _ _ _ h => h) (Or.inl ⟨by rfl, fun w1 hw => exec_move rfl t0⟩) hHeld ?_
  change wpAnyH _ _ _ _ _ _ _ (a5.put (some 14) (.pointer (some ⟨rb, ro, none⟩))) _
  obtain ⟨a6, e6⟩ : ∃ act, act = a5.put (some 14) (.pointer (some ⟨rb, ro, none⟩)) := ⟨_, rfl⟩
  rw [← e6] at h ⊢
  have z6 := pz e6 z5
  replace t0 := pk e6 t0
  replace t1 := pk e6 t1
  replace t4 := pk e6 t4
  replace t11 := pk e6 t11
  replace t12 := pk e6 t12
  replace t13 := pk e6 t13
  have t14 := pq e6 z5
  clear e6 z5
  refine wpAnyH_take (i := 7) (oi := tally3_o7) (v := .int .i64 (i : Int)) rfl (by kernel_rfl) (by kernel_rfl) (by kernel_rfl) (fun _ _ _ h => h) (Or.inl ⟨by rfl, fun w1 hw => exec_move rfl t1⟩) hHeld ?_
  change wpAnyH _ _ _ _ _ _ _ (a6.put (some 15) (.int .i64 (i : Int))) _
  obtain ⟨a7, e7⟩ : ∃ act, act = a6.put (some 15) (.int .i64 (i : Int)) := ⟨_, rfl⟩
  rw [← e7] at h ⊢
  have z7 := pz e7 z6
  replace t0 := pk e7 t0
  replace t1 := pk e7 t1
  replace t4 := pk e7 t4
  replace t11 := pk e7 t11
  replace t12 := pk e7 t12
  replace t13 := pk e7 t13
  replace t14 := pk e7 t14
  have t15 := pq e7 z6
  clear e7 z6
  refine wpAnyH_take (i := 8) (oi := tally3_o8) (v := .int .i64 (nb c : Int)) rfl (by kernel_rfl) (by kernel_rfl) (by kernel_rfl) (fun _ _ _ h => h) (Or.inl ⟨by rfl, fun w1 hw => exec_move rfl t4⟩) hHeld ?_
  change wpAnyH _ _ _ _ _ _ _ (a7.put (some 16) (.int .i64 (nb c : Int))) _
  obtain ⟨a8, e8⟩ : ∃ act, act = a7.put (some 16) (.int .i64 (nb c : Int)) := ⟨_, rfl⟩
  rw [← e8] at h ⊢
  have z8 := pz e8 z7
  replace t0 := pk e8 t0
  replace t1 := pk e8 t1
  replace t4 := pk e8 t4
  replace t11 := pk e8 t11
  replace t12 := pk e8 t12
  replace t13 := pk e8 t13
  replace t14 := pk e8 t14
  replace t15 := pk e8 t15
  have t16 := pq e8 z7
  clear e8 z7
  refine wpAnyH_take (i := 10) (oi := tally3_o10) (v := .pointer (some ⟨rb, ro, none⟩)) rfl (by kernel_rfl) (by kernel_rfl) (by kernel_rfl) (fun _ _ _ h => h) (Or.inl ⟨by rfl, fun w1 hw => exec_move rfl t0⟩) hHeld ?_
  change wpAnyH _ _ _ _ _ _ _ (a8.put (some 18) (.pointer (some ⟨rb, ro, none⟩))) _
  obtain ⟨a10, e10⟩ : ∃ act, act = a8.put (some 18) (.pointer (some ⟨rb, ro, none⟩)) := ⟨_, rfl⟩
  rw [← e10] at h ⊢
  have z10 := pz e10 z8
  replace t0 := pk e10 t0
  replace t1 := pk e10 t1
  replace t4 := pk e10 t4
  replace t11 := pk e10 t11
  replace t12 := pk e10 t12
  replace t13 := pk e10 t13
  replace t14 := pk e10 t14
  replace t15 := pk e10 t15
  replace t16 := pk e10 t16
  have t18 := pq e10 z8
  clear e10 z8
  refine wpAnyH_take (i := 11) (oi := tally3_o11) (v := .pointer (some ⟨rb, ro, none⟩)) rfl (by kernel_rfl) (by kernel_rfl) (by kernel_rfl) (fun _ _ _ h => h) (Or.inl ⟨by rfl, fun w1 hw => exec_nilCheck rfl t18⟩) hHeld ?_
  change wpAnyH _ _ _ _ _ _ _ (a10.put (some 19) (.pointer (some ⟨rb, ro, none⟩))) _
  obtain ⟨a11, e11⟩ : ∃ act, act = a10.put (some 19) (.pointer (some ⟨rb, ro, none⟩)) := ⟨_, rfl⟩
  rw [← e11] at h ⊢
  have z11 := pz e11 z10
  replace t0 := pk e11 t0
  replace t1 := pk e11 t1
  replace t4 := pk e11 t4
  replace t11 := pk e11 t11
  replace t12 := pk e11 t12
  replace t13 := pk e11 t13
  replace t14 := pk e11 t14
  replace t15 := pk e11 t15
  replace t16 := pk e11 t16
  clear t18
  have t19 := pq e11 z10
  clear e11 z10
  refine wpAnyH_take (i := 12) (oi := tally3_o12) (v := .pointer (some ⟨rb, ro + 0, none⟩)) rfl (by kernel_rfl) (by kernel_rfl) (by kernel_rfl) (fun _ _ _ h => h) (Or.inl ⟨by rfl, fun w1 hw => exec_fieldAt rfl t19 (fg_65_0 _ _ _)⟩) hHeld ?_
  change wpAnyH _ _ _ _ _ _ _ (a11.put (some 20) (.pointer (some ⟨rb, ro + 0, none⟩))) _
  obtain ⟨a12, e12⟩ : ∃ act, act = a11.put (some 20) (.pointer (some ⟨rb, ro + 0, none⟩)) := ⟨_, rfl⟩
  rw [← e12] at h ⊢
  have z12 := pz e12 z11
  replace t0 := pk e12 t0
  replace t1 := pk e12 t1
  replace t4 := pk e12 t4
  replace t11 := pk e12 t11
  replace t12 := pk e12 t12
  replace t13 := pk e12 t13
  replace t14 := pk e12 t14
  replace t15 := pk e12 t15
  replace t16 := pk e12 t16
  clear t19
  have t20 := pq e12 z11
  clear e12 z11
  refine wpAnyH_take (i := 13) (oi := tally3_o13) (v := .slice (some ⟨g, 0, none⟩) L.length cap) rfl (by kernel_rfl) (by kernel_rfl) (by kernel_rfl) (fun _ _ _ h => h) (Or.inl ⟨by rfl, fun w1 hw => exec_load rfl t20 hw.1⟩) hHeld ?_
  change wpAnyH _ _ _ _ _ _ _ (a12.put (some 21) (.slice (some ⟨g, 0, none⟩) L.length cap)) _
  obtain ⟨a13, e13⟩ : ∃ act, act = a12.put (some 21) (.slice (some ⟨g, 0, none⟩) L.length cap) := ⟨_, rfl⟩
  rw [← e13] at h ⊢
  have z13 := pz e13 z12
  replace t0 := pk e13 t0
  replace t1 := pk e13 t1
  replace t4 := pk e13 t4
  replace t11 := pk e13 t11
  replace t12 := pk e13 t12
  replace t13 := pk e13 t13
  replace t14 := pk e13 t14
  replace t15 := pk e13 t15
  replace t16 := pk e13 t16
  clear t20
  have t21 := pq e13 z12
  clear e13 z12
  refine wpAnyH_take (i := 14) (oi := tally3_o14) (v := .pointer (some ⟨rb, ro, none⟩)) rfl (by kernel_rfl) (by kernel_rfl) (by kernel_rfl) (fun _ _ _ h => h) (Or.inl ⟨by rfl, fun w1 hw => exec_move rfl t0⟩) hHeld ?_
  change wpAnyH _ _ _ _ _ _ _ (a13.put (some 22) (.pointer (some ⟨rb, ro, none⟩))) _
  obtain ⟨a14, e14⟩ : ∃ act, act = a13.put (some 22) (.pointer (some ⟨rb, ro, none⟩)) := ⟨_, rfl⟩
  rw [← e14] at h ⊢
  have z14 := pz e14 z13
  replace t1 := pk e14 t1
  replace t4 := pk e14 t4
  replace t11 := pk e14 t11
  replace t12 := pk e14 t12
  replace t13 := pk e14 t13
  replace t14 := pk e14 t14
  replace t15 := pk e14 t15
  replace t16 := pk e14 t16
  replace t21 := pk e14 t21
  clear t0
  have t22 := pq e14 z13
  clear e14 z13
  refine wpAnyH_take (i := 15) (oi := tally3_o15) (v := .pointer (some ⟨rb, ro, none⟩)) rfl (by kernel_rfl) (by kernel_rfl) (by kernel_rfl) (fun _ _ _ h => h) (Or.inl ⟨by rfl, fun w1 hw => exec_nilCheck rfl t22⟩) hHeld ?_
  change wpAnyH _ _ _ _ _ _ _ (a14.put (some 23) (.pointer (some ⟨rb, ro, none⟩))) _
  obtain ⟨a15, e15⟩ : ∃ act, act = a14.put (some 23) (.pointer (some ⟨rb, ro, none⟩)) := ⟨_, rfl⟩
  rw [← e15] at h ⊢
  have z15 := pz e15 z14
  replace t1 := pk e15 t1
  replace t4 := pk e15 t4
  replace t11 := pk e15 t11
  replace t12 := pk e15 t12
  replace t13 := pk e15 t13
  replace t14 := pk e15 t14
  replace t15 := pk e15 t15
  replace t16 := pk e15 t16
  replace t21 := pk e15 t21
  clear t22
  have t23 := pq e15 z14
  clear e15 z14
  refine wpAnyH_take (i := 16) (oi := tally3_o16) (v := .pointer (some ⟨rb, ro + 0, none⟩)) rfl (by kernel_rfl) (by kernel_rfl) (by kernel_rfl) (fun _ _ _ h => h) (Or.inl ⟨by rfl, fun w1 hw => exec_fieldAt rfl t23 (fg_65_0 _ _ _)⟩) hHeld ?_
  change wpAnyH _ _ _ _ _ _ _ (a15.put (some 24) (.pointer (some ⟨rb, ro + 0, none⟩))) _
  obtain ⟨a16, e16⟩ : ∃ act, act = a15.put (some 24) (.pointer (some ⟨rb, ro + 0, none⟩)) := ⟨_, rfl⟩
  rw [← e16] at h ⊢
  have z16 := pz e16 z15
  replace t1 := pk e16 t1
  replace t4 := pk e16 t4
  replace t11 := pk e16 t11
  replace t12 := pk e16 t12
  replace t13 := pk e16 t13
  replace t14 := pk e16 t14
  replace t15 := pk e16 t15
  replace t16 := pk e16 t16
  replace t21 := pk e16 t21
  clear t23
  have t24 := pq e16 z15
  clear e16 z15
  refine wpAnyH_take (i := 17) (oi := tally3_o17) (v := .slice (some ⟨g, 0, none⟩) L.length cap) rfl (by kernel_rfl) (by kernel_rfl) (by kernel_rfl) (fun _ _ _ h => h) (Or.inl ⟨by rfl, fun w1 hw => exec_load rfl t24 hw.1⟩) hHeld ?_
  change wpAnyH _ _ _ _ _ _ _ (a16.put (some 25) (.slice (some ⟨g, 0, none⟩) L.length cap)) _
  obtain ⟨a17, e17⟩ : ∃ act, act = a16.put (some 25) (.slice (some ⟨g, 0, none⟩) L.length cap) := ⟨_, rfl⟩
  rw [← e17] at h ⊢
  have z17 := pz e17 z16
  replace t1 := pk e17 t1
  replace t4 := pk e17 t4
  replace t11 := pk e17 t11
  replace t12 := pk e17 t12
  replace t13 := pk e17 t13
  replace t14 := pk e17 t14
  replace t15 := pk e17 t15
  replace t16 := pk e17 t16
  replace t21 := pk e17 t21
  clear t24
  have t25 := pq e17 z16
  clear e17 z16
  refine wpAnyH_take (i := 18) (oi := tally3_o18) (v := .int .i64 (i : Int)) rfl (by kernel_rfl) (by kernel_rfl) (by kernel_rfl) (fun _ _ _ h => h) (Or.inl ⟨by rfl, fun w1 hw => exec_move rfl t1⟩) hHeld ?_
  change wpAnyH _ _ _ _ _ _ _ (a17.put (some 26) (.int .i64 (i : Int))) _
  obtain ⟨a18, e18⟩ : ∃ act, act = a17.put (some 26) (.int .i64 (i : Int)) := ⟨_, rfl⟩
  rw [← e18] at h ⊢
  have z18 := pz e18 z17
  replace t4 := pk e18 t4
  replace t11 := pk e18 t11
  replace t12 := pk e18 t12
  replace t13 := pk e18 t13
  replace t14 := pk e18 t14
  replace t15 := pk e18 t15
  replace t16 := pk e18 t16
  replace t21 := pk e18 t21
  replace t25 := pk e18 t25
  clear t1
  have t26 := pq e18 z17
  clear e18 z17
  refine wpAnyH_take (i := 19) (oi := tally3_o19) (v := .pointer (some ⟨g, 73 * i, none⟩)) rfl (by kernel_rfl) (by kernel_rfl) (by kernel_rfl) (fun _ _ _ h => h) (Or.inl ⟨by rfl, fun w1 hw => exec_indexAt rfl t25 t26 (R_ix hi hl _)⟩) hHeld ?_
  change wpAnyH _ _ _ _ _ _ _ (a18.put (some 27) (.pointer (some ⟨g, 73 * i, none⟩))) _
  obtain ⟨a19, e19⟩ : ∃ act, act = a18.put (some 27) (.pointer (some ⟨g, 73 * i, none⟩)) := ⟨_, rfl⟩
  rw [← e19] at h ⊢
  have z19 := pz e19 z18
  replace t4 := pk e19 t4
  replace t11 := pk e19 t11
  replace t12 := pk e19 t12
  replace t13 := pk e19 t13
  replace t14 := pk e19 t14
  replace t15 := pk e19 t15
  replace t16 := pk e19 t16
  replace t21 := pk e19 t21
  clear t25 t26
  have t27 := pq e19 z18
  clear e19 z18
  refine wpAnyH_take (i := 20) (oi := tally3_o20) (v := .pointer (some ⟨g, 73 * i + 69, none⟩)) rfl (by kernel_rfl) (by kernel_rfl) (by kernel_rfl) (fun _ _ _ h => h) (Or.inl ⟨by rfl, fun w1 hw => exec_fieldAt rfl t27 (fg_89_3 _ _ _)⟩) hHeld ?_
  change wpAnyH _ _ _ _ _ _ _ (a19.put (some 28) (.pointer (some ⟨g, 73 * i + 69, none⟩))) _
  obtain ⟨a20, e20⟩ : ∃ act, act = a19.put (some 28) (.pointer (some ⟨g, 73 * i + 69, none⟩)) := ⟨_, rfl⟩
  rw [← e20] at h ⊢
  have z20 := pz e20 z19
  replace t4 := pk e20 t4
  replace t11 := pk e20 t11
  replace t12 := pk e20 t12
  replace t13 := pk e20 t13
  replace t14 := pk e20 t14
  replace t15 := pk e20 t15
  replace t16 := pk e20 t16
  replace t21 := pk e20 t21
  clear t27
  have t28 := pq e20 z19
  clear e20 z19
  refine wpAnyH_take (i := 21) (oi := tally3_o21) (v := .pointer (some ⟨g, 73 * i + 69 + nb true, none⟩)) rfl (by kernel_rfl) (by kernel_rfl) (by kernel_rfl) (fun _ _ _ h => h) (Or.inl ⟨by rfl, fun w1 hw => exec_indexAt rfl t28 rfl (ix_a1 _ _)⟩) hHeld ?_
  change wpAnyH _ _ _ _ _ _ _ (a20.put (some 29) (.pointer (some ⟨g, 73 * i + 69 + nb true, none⟩))) _
  obtain ⟨a21, e21⟩ : ∃ act, act = a20.put (some 29) (.pointer (some ⟨g, 73 * i + 69 + nb true, none⟩)) := ⟨_, rfl⟩
  rw [← e21] at h ⊢
  have z21 := pz e21 z20
  replace t4 := pk e21 t4
  replace t11 := pk e21 t11
  replace t12 := pk e21 t12
  replace t13 := pk e21 t13
  replace t14 := pk e21 t14
  replace t15 := pk e21 t15
  replace t16 := pk e21 t16
  replace t21 := pk e21 t21
  clear t28
  have t29 := pq e21 z20
  clear e21 z20
  refine wpAnyH_take (i := 22) (oi := tally3_o22) (v := .int .i64 (dn (gt L i) true : Int)) rfl (by kernel_rfl) (by kernel_rfl) (by kernel_rfl) (fun _ _ _ h => h) (Or.inl ⟨by rfl, fun w1 hw => exec_load rfl t29 hw.2.1⟩) hHeld ?_
  change wpAnyH _ _ _ _ _ _ _ (a21.put (some 30) (.int .i64 (dn (gt L i) true : Int))) _
  obtain ⟨a22, e22⟩ : ∃ act, act = a21.put (some 30) (.int .i64 (dn (gt L i) true : Int)) := ⟨_, rfl⟩
  rw [← e22] at h ⊢
  have z22 := pz e22 z21
  replace t4 := pk e22 t4
  replace t11 := pk e22 t11
  replace t12 := pk e22 t12
  replace t13 := pk e22 t13
  replace t14 := pk e22 t14
  replace t15 := pk e22 t15
  replace t16 := pk e22 t16
  replace t21 := pk e22 t21
  clear t29
  have t30 := pq e22 z21
  clear e22 z21
  refine wpAnyH_take (i := 23) (oi := tally3_o23) (v := .int .i64 (nb c : Int)) rfl (by kernel_rfl) (by kernel_rfl) (by kernel_rfl) (fun _ _ _ h => h) (Or.inl ⟨by rfl, fun w1 hw => exec_move rfl t4⟩) hHeld ?_
  change wpAnyH _ _ _ _ _ _ _ (a22.put (some 31) (.int .i64 (nb c : Int))) _
  obtain ⟨a23, e23⟩ : ∃ act, act = a22.put (some 31) (.int .i64 (nb c : Int)) := ⟨_, rfl⟩
  rw [← e23] at h ⊢
  have z23 := pz e23 z22
  replace t11 := pk e23 t11
  replace t12 := pk e23 t12
  replace t13 := pk e23 t13
  replace t14 := pk e23 t14
  replace t15 := pk e23 t15
  replace t16 := pk e23 t16
  replace t21 := pk e23 t21
  replace t30 := pk e23 t30
  clear t4
  have t31 := pq e23 z22
  clear e23 z22
  refine wpAnyH_take (i := 24) (oi := tally3_o24) (v := .pointer (some ⟨g, 73 * (dn (gt L i) true), none⟩)) rfl (by kernel_rfl) (by kernel_rfl) (by kernel_rfl) (fun _ _ _ h => h) (Or.inl ⟨by rfl, fun w1 hw => exec_indexAt rfl t21 t30 (R_ix hd hl _)⟩) hHeld ?_
  change wpAnyH _ _ _ _ _ _ _ (a23.put (some 32) (.pointer (some ⟨g, 73 * (dn (gt L i) true), none⟩))) _
  obtain ⟨a24, e24⟩ : ∃ act, act = a23.put (some 32) (.pointer (some ⟨g, 73 * (dn (gt L i) true), none⟩)) := ⟨_, rfl⟩
  rw [← e24] at h ⊢
  have z24 := pz e24 z23
  replace t11 := pk e24 t11
  replace t12 := pk e24 t12
  replace t13 := pk e24 t13
  replace t14 := pk e24 t14
  replace t15 := pk e24 t15
  replace t16 := pk e24 t16
  replace t31 := pk e24 t31
  clear t21 t30
  have t32 := pq e24 z23
  clear e24 z23
  refine wpAnyH_take (i := 25) (oi := tally3_o25) (v := .pointer (some ⟨g, 73 * (dn (gt L i) true) + 71, none⟩)) rfl (by kernel_rfl) (by kernel_rfl) (by kernel_rfl) (fun _ _ _ h => h) (Or.inl ⟨by rfl, fun w1 hw => exec_fieldAt rfl t32 (fg_89_4 _ _ _)⟩) hHeld ?_
  change wpAnyH _ _ _ _ _ _ _ (a24.put (some 33) (.pointer (some ⟨g, 73 * (dn (gt L i) true) + 71, none⟩))) _
  obtain ⟨a25, e25⟩ : ∃ act, act = a24.put (some 33) (.pointer (some ⟨g, 73 * (dn (gt L i) true) + 71, none⟩)) := ⟨_, rfl⟩
  rw [← e25] at h ⊢
  have z25 := pz e25 z24
  replace t11 := pk e25 t11
  replace t12 := pk e25 t12
  replace t13 := pk e25 t13
  replace t14 := pk e25 t14
  replace t15 := pk e25 t15
  replace t16 := pk e25 t16
  replace t31 := pk e25 t31
  clear t32
  have t33 := pq e25 z24
  clear e25 z24
  refine wpAnyH_take (i := 26) (oi := tally3_o26) (v := .pointer (some ⟨g, 73 * (dn (gt L i) true) + 71 + nb c, none⟩)) rfl (by kernel_rfl) (by kernel_rfl) (by kernel_rfl) (fun _ _ _ h => h) (Or.inl ⟨by rfl, fun w1 hw => exec_indexAt rfl t33 t31 (ix_ar _ c _)⟩) hHeld ?_
  change wpAnyH _ _ _ _ _ _ _ (a25.put (some 34) (.pointer (some ⟨g, 73 * (dn (gt L i) true) + 71 + nb c, none⟩))) _
  obtain ⟨a26, e26⟩ : ∃ act, act = a25.put (some 34) (.pointer (some ⟨g, 73 * (dn (gt L i) true) + 71 + nb c, none⟩)) := ⟨_, rfl⟩
  rw [← e26] at h ⊢
  have z26 := pz e26 z25
  replace t11 := pk e26 t11
  replace t12 := pk e26 t12
  replace t13 := pk e26 t13
  replace t14 := pk e26 t14
  replace t15 := pk e26 t15
  replace t16 := pk e26 t16
  clear t31 t33
  have t34 := pq e26 z25
  clear e26 z25
  refine wpAnyH_take (i := 27) (oi := tally3_o27) (v := .int .i64 (ct (gt L (dn (gt L i) true)) c : Int)) rfl (by kernel_rfl) (by kernel_rfl) (by kernel_rfl) (fun _ _ _ h => h) (Or.inl ⟨by rfl, fun w1 hw => exec_load rfl t34 hw.2.2⟩) hHeld ?_
  change wpAnyH _ _ _ _ _ _ _ (a26.put (some 35) (.int .i64 (ct (gt L (dn (gt L i) true)) c : Int))) _
  obtain ⟨a27, e27⟩ : ∃ act, act = a26.put (some 35) (.int .i64 (ct (gt L (dn (gt L i) true)) c : Int)) := ⟨_, rfl⟩
  rw [← e27] at h ⊢
  have z27 := pz e27 z26
  replace t11 := pk e27 t11
  replace t12 := pk e27 t12
  replace t13 := pk e27 t13
  replace t14 := pk e27 t14
  replace t15 := pk e27 t15
  replace t16 := pk e27 t16
  clear t34
  have t35 := pq e27 z26
  clear e27 z26
  refine wpAnyH_take (i := 29) (oi := tally3_o29) (v := .pointer (some ⟨g, 73 * i, none⟩)) rfl (by kernel_rfl) (by kernel_rfl) (by kernel_rfl) (fun _ _ _ h => h) (Or.inl ⟨by rfl, fun w1 hw => exec_indexAt rfl t11 t12 (R_ix hi hl _)⟩) hHeld ?_
  change wpAnyH _ _ _ _ _ _ _ (a27.put (some 37) (.pointer (some ⟨g, 73 * i, none⟩))) _
  obtain ⟨a29, e29⟩ : ∃ act, act = a27.put (some 37) (.pointer (some ⟨g, 73 * i, none⟩)) := ⟨_, rfl⟩
  rw [← e29] at h ⊢
  have z29 := pz e29 z27
  replace t13 := pk e29 t13
  replace t14 := pk e29 t14
  replace t15 := pk e29 t15
  replace t16 := pk e29 t16
  replace t35 := pk e29 t35
  clear t11 t12
  have t37 := pq e29 z27
  clear e29 z27
  refine wpAnyH_take (i := 30) (oi := tally3_o30) (v := .pointer (some ⟨g, 73 * i + 71, none⟩)) rfl (by kernel_rfl) (by kernel_rfl) (by kernel_rfl) (fun _ _ _ h => h) (Or.inl ⟨by rfl, fun w1 hw => exec_fieldAt rfl t37 (fg_89_4 _ _ _)⟩) hHeld ?_
  change wpAnyH _ _ _ _ _ _ _ (a29.put (some 38) (.pointer (some ⟨g, 73 * i + 71, none⟩))) _
  obtain ⟨a30, e30⟩ : ∃ act, act = a29.put (some 38) (.pointer (some ⟨g, 73 * i + 71, none⟩)) := ⟨_, rfl⟩
  rw [← e30] at h ⊢
  have z30 := pz e30 z29
  replace t13 := pk e30 t13
  replace t14 := pk e30 t14
  replace t15 := pk e30 t15
  replace t16 := pk e30 t16
  replace t35 := pk e30 t35
  clear t37
  have t38 := pq e30 z29
  clear e30 z29
  refine wpAnyH_ready (rs := [9]) (by kernel_rfl) (by simp) ?_
  refine AllReadyH.cons (o := tally3_o9) rfl (fun K hK => ?_) AllReadyH.nil
  rw [if_pos (by rfl)]
  unfold tally3_o9 at hK ⊢
  go_simp
  refine (CU).mono ?_
  rintro e x9 ⟨rfl, S1, w2, ES, S2, HF⟩
  try go_wp2_with fail
  refine hK.out _ _ (S1) (fun hHeld => ?_)
  clear hK K
  change wpAnyH _ _ _ _ _ _ _ (a30.put (some 17) (.int .i64 (u : Int))) _
  obtain ⟨a9, e9⟩ : ∃ act, act = a30.put (some 17) (.int .i64 (u : Int)) := ⟨_, rfl⟩
  rw [← e9] at h ⊢
  have z9 := pz e9 z30
  replace t13 := pk e9 t13
  replace t35 := pk e9 t35
  replace t38 := pk e9 t38
  clear t14 t15 t16
  have t17 := pq e9 z30
  clear e9 z30
  refine wpAnyH_take (i := 28) (oi := tally3_o28) (v := .int .i64 ((u + ct (gt L (dn (gt L i) true)) c : Nat) : Int)) rfl (by kernel_rfl) (by kernel_rfl) (by kernel_rfl) (fun _ _ _ h => h) (Or.inl ⟨by rfl, fun w1 hw => ex_addN rfl t17 t35 hs⟩) hHeld ?_
  change wpAnyH _ _ _ _ _ _ _ (a9.put (some 36) (.int .i64 ((u + ct (gt L (dn (gt L i) true)) c : Nat) : Int))) _
  obtain ⟨a28, e28⟩ : ∃ act, act = a9.put (some 36) (.int .i64 ((u + ct (gt L (dn (gt L i) true)) c : Nat) : Int)) := ⟨_, rfl⟩
  rw [← e28] at h ⊢
  have z28 := pz e28 z9
  replace t13 := pk e28 t13
  replace t38 := pk e28 t38
  clear t35 t17
  have t36 := pq e28 z9
  clear e28 z9
  refine wpAnyH_take (i := 31) (oi := tally3_o31) (v := .pointer (some ⟨g, 73 * i + 71 + nb c, none⟩)) rfl (by kernel_rfl) (by kernel_rfl) (by kernel_rfl) (fun _ _ _ h => h) (Or.inl ⟨by rfl, fun w1 hw => exec_indexAt rfl t38 t13 (ix_ar _ c _)⟩) hHeld ?_
  change wpAnyH _ _ _ _ _ _ _ (a28.put (some 39) (.pointer (some ⟨g, 73 * i + 71 + nb c, none⟩))) _
  obtain ⟨a31, e31⟩ : ∃ act, act = a28.put (some 39) (.pointer (some ⟨g, 73 * i + 71 + nb c, none⟩)) := ⟨_, rfl⟩
  rw [← e31] at h ⊢
  have z31 := pz e31 z28
  replace t36 := pk e31 t36
  clear t13 t38
  have t39 := pq e31 z28
  clear e31 z28
  refine wpAnyH_ready (rs := [32]) (by kernel_rfl) (by simp) ?_
  refine AllReadyH.cons (o := tally3_o32) rfl (fun K hK => ?_) AllReadyH.nil
  have XX := exec_store (P := Try.prog) (a := a31) (o := tally3_o32) rfl t39 t36 ES
  rw [if_pos (by rfl), Oper.wp, XX]
  show K _ _
  clear XX
  refine hK.out _ _ (S2) (fun hHeld => ?_)
  clear hK K
  exact wpAnyH_done (by kernel_rfl) (NoPanic.normal (h _ _ (HF) rfl)) _
end Go.Proofs.Ytpdepbakopdgpaa
