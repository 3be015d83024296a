import Derived.Test.YtpdepbakopdgpaaSqc
namespace Go.Proofs.Ytpdepbakopdgpaa
open Go.RowKit Sq
set_option linter.unusedVariables false
set_option linter.unusedSimpArgs false

def has1_o0 : Oper := { dst := some 5, op := Op.move (Operand.tmp 0), type := 23, pos := "seq.go:135", after := #[], guard := none }
def has1_o1 : Oper := { dst := some 6, op := Op.binOp BinOp.neq 23 (Operand.tmp 5) (Operand.const (Value.pointer none)) 23, type := 4, pos := "seq.go:135", after := #[{ on := 0, ground := Ground.data }], guard := none }
def has1_o2 : Oper := { dst := some 7, op := Op.move (Operand.tmp 6), type := 4, pos := "seq.go:135", after := #[{ on := 1, ground := Ground.data }], guard := none }
def has1_o3 : Oper := { dst := some 8, op := Op.move (Operand.tmp 0), type := 23, pos := "seq.go:135", after := #[{ on := 2, ground := Ground.guard }], guard := some (2, true) }
def has1_o4 : Oper := { dst := some 9, op := Op.nilCheck (Operand.tmp 8), type := 0, pos := "seq.go:135", after := #[{ on := 3, ground := Ground.data }, { on := 2, ground := Ground.guard }], guard := some (2, true) }
def has1_o5 : Oper := { dst := some 10, op := Op.fieldAddr 70 (Operand.tmp 9) 0, type := 0, pos := "seq.go:135", after := #[{ on := 4, ground := Ground.data }, { on := 2, ground := Ground.guard }], guard := some (2, true) }
def has1_o6 : Oper := { dst := some 11, op := Op.load 62 (Operand.tmp 10), type := 62, pos := "seq.go:135", after := #[{ on := 5, ground := Ground.data }, { on := 2, ground := Ground.guard }], guard := some (2, true) }
def has1_o7 : Oper := { dst := some 12, op := Op.load 32 (Operand.tmp 3), type := 32, pos := "seq.go:135", after := #[{ on := 2, ground := Ground.guard }], guard := some (2, true) }
def has1_o8 : Oper := { dst := some 13, op := Op.lookup 62 (Operand.tmp 11) (Operand.tmp 12) false, type := 3, pos := "seq.go:135", after := #[{ on := 6, ground := Ground.data }, { on := 7, ground := Ground.data }, { on := 2, ground := Ground.guard }], guard := some (2, true) }
def has1_o9 : Oper := { dst := some 14, op := Op.binOp BinOp.neq 3 (Operand.tmp 13) (Operand.const (Value.int IntKind.i64 0)) 3, type := 4, pos := "seq.go:135", after := #[{ on := 8, ground := Ground.data }, { on := 2, ground := Ground.guard }], guard := some (2, true) }
def has1_o10 : Oper := { dst := some 15, op := Op.pick (Operand.tmp 7) (Operand.tmp 14) (Operand.const (Value.bool false)), type := 4, pos := "seq.go:135", after := #[{ on := 2, ground := Ground.data }, { on := 9, ground := Ground.data }], guard := none }
def has1_o11 : Oper := { dst := some 4, op := Op.assign (Operand.tmp 15), type := 4, pos := "seq.go:135", after := #[{ on := 10, ground := Ground.data }, { on := 2, ground := Ground.chain }, { on := 0, ground := Ground.phase }, { on := 1, ground := Ground.phase }, { on := 2, ground := Ground.phase }, { on := 3, ground := Ground.phase }, { on := 4, ground := Ground.phase }, { on := 5, ground := Ground.phase }, { on := 6, ground := Ground.phase }, { on := 7, ground := Ground.phase }, { on := 8, ground := Ground.phase }, { on := 9, ground := Ground.phase }, { on := 10, ground := Ground.phase }], guard := none }
def has1_ops : Array Oper := #[has1_o0, has1_o1, has1_o2, has1_o3, has1_o4, has1_o5, has1_o6, has1_o7, has1_o8, has1_o9, has1_o10, has1_o11]
set_option maxRecDepth 100000 in
set_option maxHeartbeats 4000000 in
theorem has1 {s : Sx} {E : List Elt} {b1 i : Nat} {k : IdK} {r : Bool} (a : Act) (w : World) (Q : Exit → Act → World → Prop) (hsz : a.tmps.size = 16)
    (t0 : a.tmps.getD 0 undef = .pointer (some ⟨s.sb, 0, none⟩))
    (t3 : a.tmps.getD 3 undef = .pointer (some ⟨b1, 0, none⟩))
    (hS : SeqAt w s E) (hk : k.ok) (ib1 : IdAt w b1 k) (ei : spotOf s k = i) (hr : decide ((i : Int) ≠ 0) = r)
    (h : ∀ (a' : Act) (w' : World), w' = w.drew → a' = ((((((((((((a).put (some 5) (.pointer (some ⟨s.sb, 0, none⟩))).put (some 6) (.bool true)).put (some 7) (.bool true)).put (some 8) (.pointer (some ⟨s.sb, 0, none⟩))).put (some 9) (.pointer (some ⟨s.sb, 0, none⟩))).put (some 10) (.pointer (some ⟨s.sb, 0, none⟩))).put (some 11) (.map (some s.mb))).put (some 12) (k.v)).put (some 13) (.int .i64 (i : Int))).put (some 14) (.bool r)).put (some 15) (.bool r)).put (some 4) (.bool r) → Q .normal a' w') :
    (Code.region 1 has1_ops true).wp Try.prog Q a w := by
  refine wp_region_noPanic ?_
  refine wp_region_held_drew (S := fun w' => w' = w.drew) (by kernel_rfl) (rfl) (fun hHeld => ?_)
  refine wpAnyH_take (i := 0) (oi := has1_o0) (v := .pointer (some ⟨s.sb, 0, none⟩)) rfl (by kernel_rfl) (by kernel_rfl) (by kernel_rfl) (fun _ _ _ h => h) (Or.inl ⟨by rfl, fun w1 hw => exec_move rfl t0⟩) hHeld ?_
  change wpAnyH _ _ _ _ _ _ _ (a.put (some 5) (.pointer (some ⟨s.sb, 0, none⟩))) _
  obtain ⟨a0, e0⟩ : ∃ act, act = a.put (some 5) (.pointer (some ⟨s.sb, 0, none⟩)) := ⟨_, rfl⟩
  rw [← e0] at h ⊢
  have z0 := pz e0 hsz
  replace t0 := pk e0 t0
  replace t3 := pk e0 t3
  have t5 := pq e0 hsz
  clear e0 hsz
  refine wpAnyH_take (i := 1) (oi := has1_o1) (v := .bool true) rfl (by kernel_rfl) (by kernel_rfl) (by kernel_rfl) (fun _ _ _ h => h) (Or.inl ⟨by rfl, fun w1 hw => by unfold has1_o1; go_simp⟩) hHeld ?_
  change wpAnyH _ _ _ _ _ _ _ (a0.put (some 6) (.bool true)) _
  obtain ⟨a1, e1⟩ : ∃ act, act = a0.put (some 6) (.bool true) := ⟨_, rfl⟩
  rw [← e1] at h ⊢
  have z1 := pz e1 z0
  replace t0 := pk e1 t0
  replace t3 := pk e1 t3
  clear t5
  have t6 := pq e1 z0
  clear e1 z0
  refine wpAnyH_take (i := 2) (oi := has1_o2) (v := .bool true) rfl (by kernel_rfl) (by kernel_rfl) (by kernel_rfl) (fun _ _ _ h => h) (Or.inl ⟨by rfl, fun w1 hw => exec_move rfl t6⟩) hHeld ?_
  change wpAnyH _ _ _ _ _ _ _ (a1.put (some 7) (.bool true)) _
  obtain ⟨a2, e2⟩ : ∃ act, act = a1.put (some 7) (.bool true) := ⟨_, rfl⟩
  rw [← e2] at h ⊢
  have z2 := pz e2 z1
  replace t0 := pk e2 t0
  replace t3 := pk e2 t3
  clear t6
  have t7 := pq e2 z1
  clear e2 z1
  refine wpAnyH_take (i := 3) (oi := has1_o3) (v := .pointer (some ⟨s.sb, 0, none⟩)) rfl (by kernel_rfl) (by kernel_rfl) (by kernel_rfl) (fun _ _ _ h => h) (Or.inl ⟨by simp [Region.wanted, yielded, has1_ops, has1_o3, has1_o2, tget z2 (by decide) t7], fun w1 hw => exec_move rfl t0⟩) hHeld ?_
  change wpAnyH _ _ _ _ _ _ _ (a2.put (some 8) (.pointer (some ⟨s.sb, 0, none⟩))) _
  obtain ⟨a3, e3⟩ : ∃ act, act = a2.put (some 8) (.pointer (some ⟨s.sb, 0, none⟩)) := ⟨_, rfl⟩
  rw [← e3] at h ⊢
  have z3 := pz e3 z2
  replace t3 := pk e3 t3
  replace t7 := pk e3 t7
  clear t0
  have t8 := pq e3 z2
  clear e3 z2
  refine wpAnyH_take (i := 4) (oi := has1_o4) (v := .pointer (some ⟨s.sb, 0, none⟩)) rfl (by kernel_rfl) (by kernel_rfl) (by kernel_rfl) (fun _ _ _ h => h) (Or.inl ⟨by simp [Region.wanted, yielded, has1_ops, has1_o4, has1_o2, tget z3 (by decide) t7], fun w1 hw => exec_nilCheck rfl t8⟩) hHeld ?_
  change wpAnyH _ _ _ _ _ _ _ (a3.put (some 9) (.pointer (some ⟨s.sb, 0, none⟩))) _
  obtain ⟨a4, e4⟩ : ∃ act, act = a3.put (some 9) (.pointer (some ⟨s.sb, 0, none⟩)) := ⟨_, rfl⟩
  rw [← e4] at h ⊢
  have z4 := pz e4 z3
  replace t3 := pk e4 t3
  replace t7 := pk e4 t7
  clear t8
  have t9 := pq e4 z3
  clear e4 z3
  refine wpAnyH_take (i := 5) (oi := has1_o5) (v := .pointer (some ⟨s.sb, 0, none⟩)) rfl (by kernel_rfl) (by kernel_rfl) (by kernel_rfl) (fun _ _ _ h => h) (Or.inl ⟨by simp [Region.wanted, yielded, has1_ops, has1_o5, has1_o2, tget z4 (by decide) t7], fun w1 hw => exec_fieldAt rfl t9 (fg_70_0 _ _ _)⟩) hHeld ?_
  change wpAnyH _ _ _ _ _ _ _ (a4.put (some 10) (.pointer (some ⟨s.sb, 0, none⟩))) _
  obtain ⟨a5, e5⟩ : ∃ act, act = a4.put (some 10) (.pointer (some ⟨s.sb, 0, none⟩)) := ⟨_, rfl⟩
  rw [← e5] at h ⊢
  have z5 := pz e5 z4
  replace t3 := pk e5 t3
  replace t7 := pk e5 t7
  clear t9
  have t10 := pq e5 z4
  clear e5 z4
  refine wpAnyH_take (i := 6) (oi := has1_o6) (v := .map (some s.mb)) rfl (by kernel_rfl) (by kernel_rfl) (by kernel_rfl) (fun _ _ _ h => h) (Or.inl ⟨by simp [Region.wanted, yielded, has1_ops, has1_o6, has1_o2, tget z5 (by decide) t7], fun w1 hw => exec_load rfl t10 (ld_map (hw ▸ hS.drew : SeqAt _ s E).c0)⟩) hHeld ?_
  change wpAnyH _ _ _ _ _ _ _ (a5.put (some 11) (.map (some s.mb))) _
  obtain ⟨a6, e6⟩ : ∃ act, act = a5.put (some 11) (.map (some s.mb)) := ⟨_, rfl⟩
  rw [← e6] at h ⊢
  have z6 := pz e6 z5
  replace t3 := pk e6 t3
  replace t7 := pk e6 t7
  clear t10
  have t11 := pq e6 z5
  clear e6 z5
  refine wpAnyH_take (i := 7) (oi := has1_o7) (v := k.v) rfl (by kernel_rfl) (by kernel_rfl) (by kernel_rfl) (fun _ _ _ h => h) (Or.inl ⟨by simp [Region.wanted, yielded, has1_ops, has1_o7, has1_o2, tget z6 (by decide) t7], fun w1 hw => exec_load rfl t3 (load_id hk (hw ▸ ib1 : IdAt _ b1 k))⟩) hHeld ?_
  change wpAnyH _ _ _ _ _ _ _ (a6.put (some 12) (k.v)) _
  obtain ⟨a7, e7⟩ : ∃ act, act = a6.put (some 12) (k.v) := ⟨_, rfl⟩
  rw [← e7] at h ⊢
  have z7 := pz e7 z6
  replace t7 := pk e7 t7
  replace t11 := pk e7 t11
  clear t3
  have t12 := pq e7 z6
  clear e7 z6
  refine wpAnyH_take (i := 8) (oi := has1_o8) (v := .int .i64 (i : Int)) rfl (by kernel_rfl) (by kernel_rfl) (by kernel_rfl) (fun _ _ _ h => h) (Or.inl ⟨by simp [Region.wanted, yielded, has1_ops, has1_o8, has1_o2, tget z7 (by decide) t7], fun w1 hw => exec_lookup rfl t11 t12 (by rw [look_spot (hw ▸ hS.drew : SeqAt _ s E) k hk, ei])⟩) hHeld ?_
  change wpAnyH _ _ _ _ _ _ _ (a7.put (some 13) (.int .i64 (i : Int))) _
  obtain ⟨a8, e8⟩ : ∃ act, act = a7.put (some 13) (.int .i64 (i : Int)) := ⟨_, rfl⟩
  rw [← e8] at h ⊢
  have z8 := pz e8 z7
  replace t7 := pk e8 t7
  clear t11 t12
  have t13 := pq e8 z7
  clear e8 z7
  refine wpAnyH_take (i := 9) (oi := has1_o9) (v := .bool r) rfl (by kernel_rfl) (by kernel_rfl) (by kernel_rfl) (fun _ _ _ h => h) (Or.inl ⟨by simp [Region.wanted, yielded, has1_ops, has1_o9, has1_o2, tget z8 (by decide) t7], fun w1 hw => ex_neq rfl t13 rfl hr⟩) hHeld ?_
  change wpAnyH _ _ _ _ _ _ _ (a8.put (some 14) (.bool r)) _
  obtain ⟨a9, e9⟩ : ∃ act, act = a8.put (some 14) (.bool r) := ⟨_, rfl⟩
  rw [← e9] at h ⊢
  have z9 := pz e9 z8
  replace t7 := pk e9 t7
  clear t13
  have t14 := pq e9 z8
  clear e9 z8
  refine wpAnyH_take (i := 10) (oi := has1_o10) (v := .bool r) rfl (by kernel_rfl) (by kernel_rfl) (by kernel_rfl) (fun _ _ _ h => h) (Or.inl ⟨by rfl, fun w1 hw => by unfold has1_o10; go_simp⟩) hHeld ?_
  change wpAnyH _ _ _ _ _ _ _ (a9.put (some 15) (.bool r)) _
  obtain ⟨a10, e10⟩ : ∃ act, act = a9.put (some 15) (.bool r) := ⟨_, rfl⟩
  rw [← e10] at h ⊢
  have z10 := pz e10 z9
  clear t7 t14
  have t15 := pq e10 z9
  clear e10 z9
  refine wpAnyH_take (i := 11) (oi := has1_o11) (v := .bool r) rfl (by kernel_rfl) (by kernel_rfl) (by kernel_rfl) (fun _ _ _ h => h) (Or.inl ⟨by rfl, fun w1 hw => exec_assign rfl t15⟩) hHeld ?_
  change wpAnyH _ _ _ _ _ _ _ (a10.put (some 4) (.bool r)) _
  obtain ⟨a11, e11⟩ : ∃ act, act = a10.put (some 4) (.bool r) := ⟨_, rfl⟩
  rw [← e11] at h ⊢
  have z11 := pz e11 z10
  clear t15
  clear e11 z10
  exact wpAnyH_done (by kernel_rfl) (NoPanic.normal (h _ _ (hHeld) rfl)) _
def elem1_o0 : Oper := { dst := some 5, op := Op.move (Operand.tmp 0), type := 23, pos := "seq.go:92", after := #[], guard := none }
def elem1_o1 : Oper := { dst := some 6, op := Op.nilCheck (Operand.tmp 5), type := 0, pos := "seq.go:92", after := #[{ on := 0, ground := Ground.data }], guard := none }
def elem1_o2 : Oper := { dst := some 7, op := Op.fieldAddr 70 (Operand.tmp 6) 1, type := 0, pos := "seq.go:92", after := #[{ on := 1, ground := Ground.data }], guard := none }
def elem1_o3 : Oper := { dst := some 8, op := Op.fieldAddr 65 (Operand.tmp 7) 0, type := 0, pos := "seq.go:92", after := #[{ on := 2, ground := Ground.data }], guard := none }
def elem1_o4 : Oper := { dst := some 9, op := Op.load 63 (Operand.tmp 8), type := 63, pos := "seq.go:92", after := #[{ on := 3, ground := Ground.data }], guard := none }
def elem1_o5 : Oper := { dst := some 10, op := Op.move (Operand.tmp 1), type := 3, pos := "seq.go:92", after := #[], guard := none }
def elem1_o6 : Oper := { dst := some 11, op := Op.indexAddr 63 (Operand.tmp 9) (Operand.tmp 10), type := 0, pos := "seq.go:92", after := #[{ on := 4, ground := Ground.data }, { on := 5, ground := Ground.data }], guard := none }
def elem1_o7 : Oper := { dst := some 12, op := Op.fieldAddr 89 (Operand.tmp 11) 0, type := 0, pos := "seq.go:92", after := #[{ on := 6, ground := Ground.data }], guard := none }
def elem1_o8 : Oper := { dst := some 4, op := Op.assign (Operand.tmp 12), type := 74, pos := "seq.go:92", after := #[{ on := 7, ground := Ground.data }, { on := 0, ground := Ground.phase }, { on := 1, ground := Ground.phase }, { on := 2, ground := Ground.phase }, { on := 3, ground := Ground.phase }, { on := 4, ground := Ground.phase }, { on := 5, ground := Ground.phase }, { on := 6, ground := Ground.phase }, { on := 7, ground := Ground.phase }], guard := none }
def elem1_ops : Array Oper := #[elem1_o0, elem1_o1, elem1_o2, elem1_o3, elem1_o4, elem1_o5, elem1_o6, elem1_o7, elem1_o8]
set_option maxRecDepth 100000 in
set_option maxHeartbeats 4000000 in
theorem elem1 {s : Sx} {i : Nat} (a : Act) (w : World) (Q : Exit → Act → World → Prop) (hsz : a.tmps.size = 13)
    (t0 : a.tmps.getD 0 undef = .pointer (some ⟨s.sb, 0, none⟩))
    (t1 : a.tmps.getD 1 undef = .int .i64 (i : Int))
    (hR : SqAt w s.sb 1 s.g s.cap s.L) (hi : i < s.L.length)
    (h : ∀ (a' : Act) (w' : World), w' = w → a' = (((((((((a).put (some 5) (.pointer (some ⟨s.sb, 0, none⟩))).put (some 6) (.pointer (some ⟨s.sb, 0, none⟩))).put (some 7) (.pointer (some ⟨s.sb, 1, none⟩))).put (some 8) (.pointer (some ⟨s.sb, 1, none⟩))).put (some 9) (.slice (some ⟨s.g, 0, none⟩) (s.L).length s.cap)).put (some 10) (.int .i64 (i : Int))).put (some 11) (.pointer (some ⟨s.g, 73 * i, none⟩))).put (some 12) (.pointer (some ⟨s.g, 73 * i + 0, none⟩))).put (some 4) (.pointer (some ⟨s.g, 73 * i + 0, none⟩)) → Q .normal a' w') :
    (Code.region 1 elem1_ops false).wp Try.prog Q a w := by
  refine wp_region_list ?_
  change wpList _ _ _ [elem1_o0, elem1_o1, elem1_o2, elem1_o3, elem1_o4, elem1_o5, elem1_o6, elem1_o7, elem1_o8] _ _
  refine qv (v := .pointer (some ⟨s.sb, 0, none⟩)) (by rfl) (exec_move rfl t0) (fun a0 e0 => ?_)
  rw [← e0] at h
  have z0 := pz e0 hsz
  replace t1 := pk e0 t1
  clear t0
  have t5 := pq e0 hsz
  clear e0 hsz
  refine qv (v := .pointer (some ⟨s.sb, 0, none⟩)) (by rfl) (exec_nilCheck rfl t5) (fun a1 e1 => ?_)
  rw [← e1] at h
  have z1 := pz e1 z0
  replace t1 := pk e1 t1
  clear t5
  have t6 := pq e1 z0
  clear e1 z0
  refine qv (v := .pointer (some ⟨s.sb, 1, none⟩)) (by rfl) (exec_fieldAt rfl t6 (fg_70_1 _ _ _)) (fun a2 e2 => ?_)
  rw [← e2] at h
  have z2 := pz e2 z1
  replace t1 := pk e2 t1
  clear t6
  have t7 := pq e2 z1
  clear e2 z1
  refine qv (v := .pointer (some ⟨s.sb, 1, none⟩)) (by rfl) (exec_fieldAt rfl t7 (fg_65_0 _ _ _)) (fun a3 e3 => ?_)
  rw [← e3] at h
  have z3 := pz e3 z2
  replace t1 := pk e3 t1
  clear t7
  have t8 := pq e3 z2
  clear e3 z2
  refine qv (v := .slice (some ⟨s.g, 0, none⟩) (s.L).length s.cap) (by rfl) (exec_load rfl t8 (R_sl hR)) (fun a4 e4 => ?_)
  rw [← e4] at h
  have z4 := pz e4 z3
  replace t1 := pk e4 t1
  clear t8
  have t9 := pq e4 z3
  clear e4 z3
  refine qv (v := .int .i64 (i : Int)) (by rfl) (exec_move rfl t1) (fun a5 e5 => ?_)
  rw [← e5] at h
  have z5 := pz e5 z4
  replace t9 := pk e5 t9
  clear t1
  have t10 := pq e5 z4
  clear e5 z4
  refine qv (v := .pointer (some ⟨s.g, 73 * i, none⟩)) (by rfl) (exec_indexAt rfl t9 t10 (R_ix hi hR.len _)) (fun a6 e6 => ?_)
  rw [← e6] at h
  have z6 := pz e6 z5
  clear t9 t10
  have t11 := pq e6 z5
  clear e6 z5
  refine qv (v := .pointer (some ⟨s.g, 73 * i + 0, none⟩)) (by rfl) (exec_fieldAt rfl t11 (fg_89_0 _ _ _)) (fun a7 e7 => ?_)
  rw [← e7] at h
  have z7 := pz e7 z6
  clear t11
  have t12 := pq e7 z6
  clear e7 z6
  refine qv (v := .pointer (some ⟨s.g, 73 * i + 0, none⟩)) (by rfl) (exec_assign rfl t12) (fun a8 e8 => ?_)
  rw [← e8] at h
  have z8 := pz e8 z7
  clear t12
  clear e8 z7
  exact wpList_nil (h _ _ (rfl) rfl)
def ins3_o0 : Oper := { dst := some 12, op := Op.fieldAddr 32 (Operand.tmp 4) 1, type := 0, pos := "seq.go:40", after := #[], guard := none }
def ins3_o1 : Oper := { dst := some 13, op := Op.load 3 (Operand.tmp 12), type := 3, pos := "seq.go:40", after := #[{ on := 0, ground := Ground.data }], guard := none }
def ins3_o2 : Oper := { dst := some 14, op := Op.binOp BinOp.lss 3 (Operand.tmp 13) (Operand.const (Value.int IntKind.i64 1)) 3, type := 4, pos := "seq.go:40", after := #[{ on := 1, ground := Ground.data }], guard := none }
def ins3_o3 : Oper := { dst := some 11, op := Op.assign (Operand.tmp 14), type := 4, pos := "seq.go:40", after := #[{ on := 2, ground := Ground.data }], guard := none }
def ins3_ops : Array Oper := #[ins3_o0, ins3_o1, ins3_o2, ins3_o3]
set_option maxRecDepth 100000 in
set_option maxHeartbeats 4000000 in
theorem ins3 {b1 : Nat} {k : IdK} {r : Bool} (a : Act) (w : World) (Q : Exit → Act → World → Prop) (hsz : a.tmps.size = 57)
    (t4 : a.tmps.getD 4 undef = .pointer (some ⟨b1, 0, none⟩))
    (hk : k.ok) (ib1 : IdAt w b1 k) (hr : decide (k.n < 1) = r)
    (h : ∀ (a' : Act) (w' : World), w' = w → a' = ((((a).put (some 12) (.pointer (some ⟨b1, 32, none⟩))).put (some 13) (.int .i64 k.n)).put (some 14) (.bool r)).put (some 11) (.bool r) → Q .normal a' w') :
    (Code.region 3 ins3_ops false).wp Try.prog Q a w := by
  refine wp_region_list ?_
  change wpList _ _ _ [ins3_o0, ins3_o1, ins3_o2, ins3_o3] _ _
  refine qv (v := .pointer (some ⟨b1, 32, none⟩)) (by rfl) (exec_fieldAt rfl t4 (fg_32_1 _ _ _)) (fun a0 e0 => ?_)
  rw [← e0] at h
  have z0 := pz e0 hsz
  clear t4
  have t12 := pq e0 hsz
  clear e0 hsz
  refine qv (v := .int .i64 k.n) (by rfl) (exec_load rfl t12 (ld_n hk ib1)) (fun a1 e1 => ?_)
  rw [← e1] at h
  have z1 := pz e1 z0
  clear t12
  have t13 := pq e1 z0
  clear e1 z0
  refine qv (v := .bool r) (by rfl) (ex_lss rfl t13 rfl hr) (fun a2 e2 => ?_)
  rw [← e2] at h
  have z2 := pz e2 z1
  clear t13
  have t14 := pq e2 z1
  clear e2 z1
  refine qv (v := .bool r) (by rfl) (exec_assign rfl t14) (fun a3 e3 => ?_)
  rw [← e3] at h
  have z3 := pz e3 z2
  clear t14
  clear e3 z2
  exact wpList_nil (h _ _ (rfl) rfl)
def ins5_o0 : Oper := { dst := some 16, op := Op.move (Operand.tmp 0), type := 23, pos := "seq.go:42", after := #[], guard := none }
def ins5_o1 : Oper := { dst := some 17, op := Op.load 32 (Operand.tmp 4), type := 32, pos := "seq.go:42", after := #[], guard := none }
def ins5_o2 : Oper := { dst := some 18, op := Op.call { callee := Callee.value (Operand.func 28), args := #[Operand.tmp 16, Operand.tmp 17], argTypes := #[23, 32] }, type := 4, pos := "seq.go:42", after := #[{ on := 0, ground := Ground.data }, { on := 1, ground := Ground.data }], guard := none }
def ins5_o3 : Oper := { dst := some 15, op := Op.assign (Operand.tmp 18), type := 4, pos := "seq.go:42", after := #[{ on := 2, ground := Ground.data }, { on := 2, ground := Ground.chain }], guard := none }
def ins5_ops : Array Oper := #[ins5_o0, ins5_o1, ins5_o2, ins5_o3]
set_option maxRecDepth 100000 in
set_option maxHeartbeats 4000000 in
theorem ins5 {s : Sx} {b1 : Nat} {k : IdK} {r : Bool} (a : Act) (w : World) (Q : Exit → Act → World → Prop) (hsz : a.tmps.size = 57)
    (t0 : a.tmps.getD 0 undef = .pointer (some ⟨s.sb, 0, none⟩))
    (t4 : a.tmps.getD 4 undef = .pointer (some ⟨b1, 0, none⟩))
    (hk : k.ok) (ib1 : IdAt w b1 k) (CH : Calls Try.prog 28 #[.pointer (some ⟨s.sb, 0, none⟩), k.v] w fun e w' => e = .returned (.bool r) ∧ Below w.heap.size w w')
    (h : ∀ (a' : Act) (w' : World), Below w.heap.size w w' → a' = ((((a).put (some 16) (.pointer (some ⟨s.sb, 0, none⟩))).put (some 17) (k.v)).put (some 18) (.bool r)).put (some 15) (.bool r) → Q .normal a' w') :
    (Code.region 5 ins5_ops false).wp Try.prog Q a w := by
  refine wp_region_list ?_
  change wpList _ _ _ [ins5_o0, ins5_o1, ins5_o2, ins5_o3] _ _
  refine qv (v := .pointer (some ⟨s.sb, 0, none⟩)) (by rfl) (exec_move rfl t0) (fun a0 e0 => ?_)
  rw [← e0] at h
  have z0 := pz e0 hsz
  replace t4 := pk e0 t4
  clear t0
  have t16 := pq e0 hsz
  clear e0 hsz
  refine qv (v := k.v) (by rfl) (exec_load rfl t4 (load_id hk ib1)) (fun a1 e1 => ?_)
  rw [← e1] at h
  have z1 := pz e1 z0
  replace t16 := pk e1 t16
  clear t4
  have t17 := pq e1 z0
  clear e1 z0
  refine qc (by rfl) (by unfold ins5_o2; go_simp) (CH) (fun e x2 hx => ?_)
  obtain ⟨rfl, S1⟩ := hx
  refine ⟨_, rfl, fun a2 e2 => ?_⟩
  rw [← e2] at h
  have z2 := pz e2 z1
  clear t16 t17
  have t18 := pq e2 z1
  clear e2 z1
  refine qv (v := .bool r) (by rfl) (exec_assign rfl t18) (fun a3 e3 => ?_)
  rw [← e3] at h
  have z3 := pz e3 z2
  clear t18
  clear e3 z2
  exact wpList_nil (h _ _ (S1) rfl)
def ins7a_o0 : Oper := { dst := some 20, op := Op.load 32 (Operand.tmp 5), type := 32, pos := "seq.go:44", after := #[], guard := none }
def ins7a_o1 : Oper := { dst := some 21, op := Op.build 32 #[], type := 32, pos := "seq.go:44", after := #[], guard := none }
def ins7a_o2 : Oper := { dst := some 22, op := Op.binOp BinOp.neq 32 (Operand.tmp 20) (Operand.tmp 21) 32, type := 4, pos := "seq.go:44", after := #[{ on := 0, ground := Ground.data }, { on := 1, ground := Ground.data }], guard := none }
def ins7a_o3 : Oper := { dst := some 23, op := Op.move (Operand.tmp 22), type := 4, pos := "seq.go:44", after := #[{ on := 2, ground := Ground.data }], guard := none }
def ins7a_o4 : Oper := { dst := some 24, op := Op.move (Operand.tmp 0), type := 23, pos := "seq.go:44", after := #[{ on := 3, ground := Ground.guard }], guard := some (3, true) }
def ins7a_o5 : Oper := { dst := some 25, op := Op.load 32 (Operand.tmp 5), type := 32, pos := "seq.go:44", after := #[{ on := 3, ground := Ground.guard }], guard := some (3, true) }
def ins7a_o6 : Oper := { dst := some 26, op := Op.call { callee := Callee.value (Operand.func 28), args := #[Operand.tmp 24, Operand.tmp 25], argTypes := #[23, 32] }, type := 4, pos := "seq.go:44", after := #[{ on := 4, ground := Ground.data }, { on := 5, ground := Ground.data }, { on := 3, ground := Ground.chain }, { on := 3, ground := Ground.guard }], guard := some (3, true) }
def ins7a_o7 : Oper := { dst := some 27, op := Op.unOp UnOp.not 4 (Operand.tmp 26), type := 4, pos := "seq.go:44", after := #[{ on := 6, ground := Ground.data }, { on := 3, ground := Ground.guard }], guard := some (3, true) }
def ins7a_o8 : Oper := { dst := some 28, op := Op.pick (Operand.tmp 23) (Operand.tmp 27) (Operand.const (Value.bool false)), type := 4, pos := "seq.go:44", after := #[{ on := 3, ground := Ground.data }, { on := 7, ground := Ground.data }], guard := none }
def ins7a_o9 : Oper := { dst := some 19, op := Op.assign (Operand.tmp 28), type := 4, pos := "seq.go:44", after := #[{ on := 8, ground := Ground.data }, { on := 6, ground := Ground.chain }], guard := none }
def ins7a_ops : Array Oper := #[ins7a_o0, ins7a_o1, ins7a_o2, ins7a_o3, ins7a_o4, ins7a_o5, ins7a_o6, ins7a_o7, ins7a_o8, ins7a_o9]
set_option maxRecDepth 100000 in
set_option maxHeartbeats 4000000 in
theorem ins7a {s : Sx} {b2 : Nat} {k : IdK} {r : Bool} (a : Act) (w : World) (Q : Exit → Act → World → Prop) (hsz : a.tmps.size = 57)
    (t0 : a.tmps.getD 0 undef = .pointer (some ⟨s.sb, 0, none⟩))
    (t5 : a.tmps.getD 5 undef = .pointer (some ⟨b2, 0, none⟩))
    (hk : k.ok) (ib2 : IdAt w b2 k) (hz : (!decide (k = zId)) = true) (CH : Calls Try.prog 28 #[.pointer (some ⟨s.sb, 0, none⟩), k.v] w fun e w' => e = .returned (.bool r) ∧ Below w.heap.size w w')
    (h : ∀ (a' : Act) (w' : World), Below w.heap.size w w' → a' = ((((((((((a).put (some 20) (k.v)).put (some 21) (zId.v)).put (some 22) (.bool true)).put (some 23) (.bool true)).put (some 24) (.pointer (some ⟨s.sb, 0, none⟩))).put (some 25) (k.v)).put (some 26) (.bool r)).put (some 27) (.bool (!r))).put (some 28) (.bool (!r))).put (some 19) (.bool (!r)) → Q .normal a' w') :
    (Code.region 7 ins7a_ops false).wp Try.prog Q a w := by
  refine wp_region_list ?_
  change wpList _ _ _ [ins7a_o0, ins7a_o1, ins7a_o2, ins7a_o3, ins7a_o4, ins7a_o5, ins7a_o6, ins7a_o7, ins7a_o8, ins7a_o9] _ _
  refine qv (v := k.v) (by rfl) (exec_load rfl t5 (load_id hk ib2)) (fun a0 e0 => ?_)
  rw [← e0] at h
  have z0 := pz e0 hsz
  replace t0 := pk e0 t0
  replace t5 := pk e0 t5
  have t20 := pq e0 hsz
  clear e0 hsz
  refine qv (v := zId.v) (by rfl) (exec_build0 rfl (build_id _)) (fun a1 e1 => ?_)
  rw [← e1] at h
  have z1 := pz e1 z0
  replace t0 := pk e1 t0
  replace t5 := pk e1 t5
  replace t20 := pk e1 t20
  have t21 := pq e1 z0
  clear e1 z0
  refine qv (v := .bool true) (by rfl) (ex_neqI rfl t20 t21 hk zId_ok hz) (fun a2 e2 => ?_)
  rw [← e2] at h
  have z2 := pz e2 z1
  replace t0 := pk e2 t0
  replace t5 := pk e2 t5
  clear t20 t21
  have t22 := pq e2 z1
  clear e2 z1
  refine qv (v := .bool true) (by rfl) (exec_move rfl t22) (fun a3 e3 => ?_)
  rw [← e3] at h
  have z3 := pz e3 z2
  replace t0 := pk e3 t0
  replace t5 := pk e3 t5
  clear t22
  have t23 := pq e3 z2
  clear e3 z2
  refine qv (v := .pointer (some ⟨s.sb, 0, none⟩)) (by simp [Region.wanted, yielded, ins7a_ops, ins7a_o4, ins7a_o3, tget z3 (by decide) t23]) (exec_move rfl t0) (fun a4 e4 => ?_)
  rw [← e4] at h
  have z4 := pz e4 z3
  replace t5 := pk e4 t5
  replace t23 := pk e4 t23
  clear t0
  have t24 := pq e4 z3
  clear e4 z3
  refine qv (v := k.v) (by simp [Region.wanted, yielded, ins7a_ops, ins7a_o5, ins7a_o3, tget z4 (by decide) t23]) (exec_load rfl t5 (load_id hk ib2)) (fun a5 e5 => ?_)
  rw [← e5] at h
  have z5 := pz e5 z4
  replace t23 := pk e5 t23
  replace t24 := pk e5 t24
  clear t5
  have t25 := pq e5 z4
  clear e5 z4
  refine qc (by simp [Region.wanted, yielded, ins7a_ops, ins7a_o6, ins7a_o3, tget z5 (by decide) t23]) (by unfold ins7a_o6; go_simp) (CH) (fun e x6 hx => ?_)
  obtain ⟨rfl, S1⟩ := hx
  refine ⟨_, rfl, fun a6 e6 => ?_⟩
  rw [← e6] at h
  have z6 := pz e6 z5
  replace t23 := pk e6 t23
  clear t24 t25
  have t26 := pq e6 z5
  clear e6 z5
  refine qv (v := .bool (!r)) (by simp [Region.wanted, yielded, ins7a_ops, ins7a_o7, ins7a_o3, tget z6 (by decide) t23]) (by unfold ins7a_o7; go_simp) (fun a7 e7 => ?_)
  rw [← e7] at h
  have z7 := pz e7 z6
  replace t23 := pk e7 t23
  clear t26
  have t27 := pq e7 z6
  clear e7 z6
  refine qv (v := .bool (!r)) (by rfl) (by unfold ins7a_o8; go_simp) (fun a8 e8 => ?_)
  rw [← e8] at h
  have z8 := pz e8 z7
  clear t23 t27
  have t28 := pq e8 z7
  clear e8 z7
  refine qv (v := .bool (!r)) (by rfl) (exec_assign rfl t28) (fun a9 e9 => ?_)
  rw [← e9] at h
  have z9 := pz e9 z8
  clear t28
  clear e9 z8
  exact wpList_nil (h _ _ (S1) rfl)
set_option maxRecDepth 100000 in
set_option maxHeartbeats 4000000 in
theorem ins7b {s : Sx} {b2 : Nat} {k : IdK} (a : Act) (w : World) (Q : Exit → Act → World → Prop) (hsz : a.tmps.size = 57)
    (t0 : a.tmps.getD 0 undef = .pointer (some ⟨s.sb, 0, none⟩))
    (t5 : a.tmps.getD 5 undef = .pointer (some ⟨b2, 0, none⟩))
    (hk : k.ok) (ib2 : IdAt w b2 k) (hz : (!decide (k = zId)) = false)
    (h : ∀ (a' : Act) (w' : World), w' = w → a' = ((((((((((a).put (some 20) (k.v)).put (some 21) (zId.v)).put (some 22) (.bool false)).put (some 23) (.bool false)).put (some 24) (undef)).put (some 25) (undef)).put (some 26) (undef)).put (some 27) (undef)).put (some 28) (.bool false)).put (some 19) (.bool false) → Q .normal a' w') :
    (Code.region 7 ins7a_ops false).wp Try.prog Q a w := by
  refine wp_region_list ?_
  change wpList _ _ _ [ins7a_o0, ins7a_o1, ins7a_o2, ins7a_o3, ins7a_o4, ins7a_o5, ins7a_o6, ins7a_o7, ins7a_o8, ins7a_o9] _ _
  refine qv (v := k.v) (by rfl) (exec_load rfl t5 (load_id hk ib2)) (fun a0 e0 => ?_)
  rw [← e0] at h
  have z0 := pz e0 hsz
  replace t0 := pk e0 t0
  replace t5 := pk e0 t5
  have t20 := pq e0 hsz
  clear e0 hsz
  refine qv (v := zId.v) (by rfl) (exec_build0 rfl (build_id _)) (fun a1 e1 => ?_)
  rw [← e1] at h
  have z1 := pz e1 z0
  replace t0 := pk e1 t0
  replace t5 := pk e1 t5
  replace t20 := pk e1 t20
  have t21 := pq e1 z0
  clear e1 z0
  refine qv (v := .bool false) (by rfl) (ex_neqI rfl t20 t21 hk zId_ok hz) (fun a2 e2 => ?_)
  rw [← e2] at h
  have z2 := pz e2 z1
  replace t0 := pk e2 t0
  replace t5 := pk e2 t5
  clear t20 t21
  have t22 := pq e2 z1
  clear e2 z1
  refine qv (v := .bool false) (by rfl) (exec_move rfl t22) (fun a3 e3 => ?_)
  rw [← e3] at h
  have z3 := pz e3 z2
  replace t0 := pk e3 t0
  replace t5 := pk e3 t5
  clear t22
  have t23 := pq e3 z2
  clear e3 z2
  refine qn (by simp [Region.wanted, yielded, ins7a_ops, ins7a_o4, ins7a_o3, tget z3 (by decide) t23]) (fun a4 e4 => ?_)
  rw [← e4] at h
  have z4 := pz e4 z3
  replace t5 := pk e4 t5
  replace t23 := pk e4 t23
  clear t0
  have t24 := pq e4 z3
  clear e4 z3
  refine qn (by simp [Region.wanted, yielded, ins7a_ops, ins7a_o5, ins7a_o3, tget z4 (by decide) t23]) (fun a5 e5 => ?_)
  rw [← e5] at h
  have z5 := pz e5 z4
  replace t23 := pk e5 t23
  replace t24 := pk e5 t24
  clear t5
  have t25 := pq e5 z4
  clear e5 z4
  refine qn (by simp [Region.wanted, yielded, ins7a_ops, ins7a_o6, ins7a_o3, tget z5 (by decide) t23]) (fun a6 e6 => ?_)
  rw [← e6] at h
  have z6 := pz e6 z5
  replace t23 := pk e6 t23
  clear t24 t25
  have t26 := pq e6 z5
  clear e6 z5
  refine qn (by simp [Region.wanted, yielded, ins7a_ops, ins7a_o7, ins7a_o3, tget z6 (by decide) t23]) (fun a7 e7 => ?_)
  rw [← e7] at h
  have z7 := pz e7 z6
  replace t23 := pk e7 t23
  clear t26
  have t27 := pq e7 z6
  clear e7 z6
  refine qv (v := .bool false) (by rfl) (by unfold ins7a_o8; go_simp) (fun a8 e8 => ?_)
  rw [← e8] at h
  have z8 := pz e8 z7
  clear t23 t27
  have t28 := pq e8 z7
  clear e8 z7
  refine qv (v := .bool false) (by rfl) (exec_assign rfl t28) (fun a9 e9 => ?_)
  rw [← e9] at h
  have z9 := pz e9 z8
  clear t28
  clear e9 z8
  exact wpList_nil (h _ _ (rfl) rfl)
def ins9_o0 : Oper := { dst := some 29, op := Op.move (Operand.tmp 0), type := 23, pos := "seq.go:47", after := #[], guard := none }
def ins9_o1 : Oper := { dst := some 30, op := Op.nilCheck (Operand.tmp 29), type := 0, pos := "seq.go:47", after := #[{ on := 0, ground := Ground.data }], guard := none }
def ins9_o2 : Oper := { dst := some 31, op := Op.fieldAddr 70 (Operand.tmp 30) 0, type := 0, pos := "seq.go:47", after := #[{ on := 1, ground := Ground.data }], guard := none }
def ins9_o3 : Oper := { dst := some 32, op := Op.load 62 (Operand.tmp 31), type := 62, pos := "seq.go:47", after := #[{ on := 2, ground := Ground.data }], guard := none }
def ins9_o4 : Oper := { dst := some 33, op := Op.load 32 (Operand.tmp 5), type := 32, pos := "seq.go:47", after := #[], guard := none }
def ins9_o5 : Oper := { dst := some 34, op := Op.lookup 62 (Operand.tmp 32) (Operand.tmp 33) false, type := 3, pos := "seq.go:47", after := #[{ on := 3, ground := Ground.data }, { on := 4, ground := Ground.data }], guard := none }
def ins9_o6 : Oper := { dst := some 7, op := Op.assign (Operand.tmp 34), type := 3, pos := "seq.go:47", after := #[{ on := 5, ground := Ground.data }, { on := 0, ground := Ground.phase }, { on := 1, ground := Ground.phase }, { on := 2, ground := Ground.phase }, { on := 3, ground := Ground.phase }, { on := 4, ground := Ground.phase }, { on := 5, ground := Ground.phase }], guard := none }
def ins9_ops : Array Oper := #[ins9_o0, ins9_o1, ins9_o2, ins9_o3, ins9_o4, ins9_o5, ins9_o6]
set_option maxRecDepth 100000 in
set_option maxHeartbeats 4000000 in
theorem ins9 {s : Sx} {E : List Elt} {b2 i : Nat} {k : IdK} (a : Act) (w : World) (Q : Exit → Act → World → Prop) (hsz : a.tmps.size = 57)
    (t0 : a.tmps.getD 0 undef = .pointer (some ⟨s.sb, 0, none⟩))
    (t5 : a.tmps.getD 5 undef = .pointer (some ⟨b2, 0, none⟩))
    (hS : SeqAt w s E) (hk : k.ok) (ib2 : IdAt w b2 k) (ei : spotOf s k = i)
    (h : ∀ (a' : Act) (w' : World), w' = w.drew → a' = (((((((a).put (some 29) (.pointer (some ⟨s.sb, 0, none⟩))).put (some 30) (.pointer (some ⟨s.sb, 0, none⟩))).put (some 31) (.pointer (some ⟨s.sb, 0, none⟩))).put (some 32) (.map (some s.mb))).put (some 33) (k.v)).put (some 34) (.int .i64 (i : Int))).put (some 7) (.int .i64 (i : Int)) → Q .normal a' w') :
    (Code.region 9 ins9_ops true).wp Try.prog Q a w := by
  refine wp_region_noPanic ?_
  refine wp_region_held_drew (S := fun w' => w' = w.drew) (by kernel_rfl) (rfl) (fun hHeld => ?_)
  refine wpAnyH_take (i := 0) (oi := ins9_o0) (v := .pointer (some ⟨s.sb, 0, none⟩)) rfl (by kernel_rfl) (by kernel_rfl) (by kernel_rfl) (fun _ _ _ h => h) (Or.inl ⟨by rfl, fun w1 hw => exec_move rfl t0⟩) hHeld ?_
  change wpAnyH _ _ _ _ _ _ _ (a.put (some 29) (.pointer (some ⟨s.sb, 0, none⟩))) _
  obtain ⟨a0, e0⟩ : ∃ act, act = a.put (some 29) (.pointer (some ⟨s.sb, 0, none⟩)) := ⟨_, rfl⟩
  rw [← e0] at h ⊢
  have z0 := pz e0 hsz
  replace t5 := pk e0 t5
  clear t0
  have t29 := pq e0 hsz
  clear e0 hsz
  refine wpAnyH_take (i := 1) (oi := ins9_o1) (v := .pointer (some ⟨s.sb, 0, none⟩)) rfl (by kernel_rfl) (by kernel_rfl) (by kernel_rfl) (fun _ _ _ h => h) (Or.inl ⟨by rfl, fun w1 hw => exec_nilCheck rfl t29⟩) hHeld ?_
  change wpAnyH _ _ _ _ _ _ _ (a0.put (some 30) (.pointer (some ⟨s.sb, 0, none⟩))) _
  obtain ⟨a1, e1⟩ : ∃ act, act = a0.put (some 30) (.pointer (some ⟨s.sb, 0, none⟩)) := ⟨_, rfl⟩
  rw [← e1] at h ⊢
  have z1 := pz e1 z0
  replace t5 := pk e1 t5
  clear t29
  have t30 := pq e1 z0
  clear e1 z0
  refine wpAnyH_take (i := 2) (oi := ins9_o2) (v := .pointer (some ⟨s.sb, 0, none⟩)) rfl (by kernel_rfl) (by kernel_rfl) (by kernel_rfl) (fun _ _ _ h => h) (Or.inl ⟨by rfl, fun w1 hw => exec_fieldAt rfl t30 (fg_70_0 _ _ _)⟩) hHeld ?_
  change wpAnyH _ _ _ _ _ _ _ (a1.put (some 31) (.pointer (some ⟨s.sb, 0, none⟩))) _
  obtain ⟨a2, e2⟩ : ∃ act, act = a1.put (some 31) (.pointer (some ⟨s.sb, 0, none⟩)) := ⟨_, rfl⟩
  rw [← e2] at h ⊢
  have z2 := pz e2 z1
  replace t5 := pk e2 t5
  clear t30
  have t31 := pq e2 z1
  clear e2 z1
  refine wpAnyH_take (i := 3) (oi := ins9_o3) (v := .map (some s.mb)) rfl (by kernel_rfl) (by kernel_rfl) (by kernel_rfl) (fun _ _ _ h => h) (Or.inl ⟨by rfl, fun w1 hw => exec_load rfl t31 (ld_map (hw ▸ hS.drew : SeqAt _ s E).c0)⟩) hHeld ?_
  change wpAnyH _ _ _ _ _ _ _ (a2.put (some 32) (.map (some s.mb))) _
  obtain ⟨a3, e3⟩ : ∃ act, act = a2.put (some 32) (.map (some s.mb)) := ⟨_, rfl⟩
  rw [← e3] at h ⊢
  have z3 := pz e3 z2
  replace t5 := pk e3 t5
  clear t31
  have t32 := pq e3 z2
  clear e3 z2
  refine wpAnyH_take (i := 4) (oi := ins9_o4) (v := k.v) rfl (by kernel_rfl) (by kernel_rfl) (by kernel_rfl) (fun _ _ _ h => h) (Or.inl ⟨by rfl, fun w1 hw => exec_load rfl t5 (load_id hk (hw ▸ ib2 : IdAt _ b2 k))⟩) hHeld ?_
  change wpAnyH _ _ _ _ _ _ _ (a3.put (some 33) (k.v)) _
  obtain ⟨a4, e4⟩ : ∃ act, act = a3.put (some 33) (k.v) := ⟨_, rfl⟩
  rw [← e4] at h ⊢
  have z4 := pz e4 z3
  replace t32 := pk e4 t32
  clear t5
  have t33 := pq e4 z3
  clear e4 z3
  refine wpAnyH_take (i := 5) (oi := ins9_o5) (v := .int .i64 (i : Int)) rfl (by kernel_rfl) (by kernel_rfl) (by kernel_rfl) (fun _ _ _ h => h) (Or.inl ⟨by rfl, fun w1 hw => exec_lookup rfl t32 t33 (by rw [look_spot (hw ▸ hS.drew : SeqAt _ s E) k hk, ei])⟩) hHeld ?_
  change wpAnyH _ _ _ _ _ _ _ (a4.put (some 34) (.int .i64 (i : Int))) _
  obtain ⟨a5, e5⟩ : ∃ act, act = a4.put (some 34) (.int .i64 (i : Int)) := ⟨_, rfl⟩
  rw [← e5] at h ⊢
  have z5 := pz e5 z4
  clear t32 t33
  have t34 := pq e5 z4
  clear e5 z4
  refine wpAnyH_take (i := 6) (oi := ins9_o6) (v := .int .i64 (i : Int)) rfl (by kernel_rfl) (by kernel_rfl) (by kernel_rfl) (fun _ _ _ h => h) (Or.inl ⟨by rfl, fun w1 hw => exec_assign rfl t34⟩) hHeld ?_
  change wpAnyH _ _ _ _ _ _ _ (a5.put (some 7) (.int .i64 (i : Int))) _
  obtain ⟨a6, e6⟩ : ∃ act, act = a5.put (some 7) (.int .i64 (i : Int)) := ⟨_, rfl⟩
  rw [← e6] at h ⊢
  have z6 := pz e6 z5
  clear t34
  clear e6 z5
  exact wpAnyH_done (by kernel_rfl) (NoPanic.normal (h _ _ (hHeld) rfl)) _
def ins10_o0 : Oper := { dst := some 35, op := Op.move (Operand.tmp 0), type := 23, pos := "seq.go:48", after := #[], guard := none }
def ins10_o1 : Oper := { dst := some 36, op := Op.move (Operand.tmp 7), type := 3, pos := "seq.go:48", after := #[], guard := none }
def ins10_o2 : Oper := { dst := some 37, op := Op.call { callee := Callee.value (Operand.func 36), args := #[Operand.tmp 35, Operand.tmp 36], argTypes := #[23, 3] }, type := 74, pos := "seq.go:48", after := #[{ on := 0, ground := Ground.data }, { on := 1, ground := Ground.data }], guard := none }
def ins10_o3 : Oper := { dst := some 38, op := Op.nilCheck (Operand.tmp 37), type := 0, pos := "seq.go:48", after := #[{ on := 2, ground := Ground.data }], guard := none }
def ins10_o4 : Oper := { dst := some 39, op := Op.fieldAddr 68 (Operand.tmp 38) 2, type := 0, pos := "seq.go:48", after := #[{ on := 3, ground := Ground.data }], guard := none }
def ins10_o5 : Oper := { dst := some 40, op := Op.load 3 (Operand.tmp 39), type := 3, pos := "seq.go:48", after := #[{ on := 4, ground := Ground.data }], guard := none }
def ins10_o6 : Oper := { dst := some 41, op := Op.binOp BinOp.add 3 (Operand.tmp 40) (Operand.const (Value.int IntKind.i64 1)) 3, type := 3, pos := "seq.go:48", after := #[{ on := 5, ground := Ground.data }], guard := none }
def ins10_o7 : Oper := { dst := some 42, op := Op.nilCheck (Operand.tmp 37), type := 0, pos := "seq.go:48", after := #[{ on := 2, ground := Ground.data }, { on := 0, ground := Ground.phase }, { on := 1, ground := Ground.phase }, { on := 2, ground := Ground.phase }, { on := 3, ground := Ground.phase }, { on := 4, ground := Ground.phase }, { on := 5, ground := Ground.phase }, { on := 6, ground := Ground.phase }], guard := none }
def ins10_o8 : Oper := { dst := some 43, op := Op.fieldAddr 68 (Operand.tmp 42) 2, type := 0, pos := "seq.go:48", after := #[{ on := 7, ground := Ground.data }, { on := 0, ground := Ground.phase }, { on := 1, ground := Ground.phase }, { on := 2, ground := Ground.phase }, { on := 3, ground := Ground.phase }, { on := 4, ground := Ground.phase }, { on := 5, ground := Ground.phase }, { on := 6, ground := Ground.phase }], guard := none }
def ins10_o9 : Oper := { dst := none, op := Op.store 3 (Operand.tmp 43) (Operand.tmp 41), type := 0, pos := "seq.go:48", after := #[{ on := 8, ground := Ground.data }, { on := 6, ground := Ground.data }, { on := 2, ground := Ground.chain }, { on := 0, ground := Ground.phase }, { on := 1, ground := Ground.phase }, { on := 2, ground := Ground.phase }, { on := 3, ground := Ground.phase }, { on := 4, ground := Ground.phase }, { on := 5, ground := Ground.phase }, { on := 6, ground := Ground.phase }], guard := none }
def ins10_ops : Array Oper := #[ins10_o0, ins10_o1, ins10_o2, ins10_o3, ins10_o4, ins10_o5, ins10_o6, ins10_o7, ins10_o8, ins10_o9]
set_option maxRecDepth 100000 in
set_option maxHeartbeats 4000000 in
theorem ins10 {s : Sx} {E : List Elt} {i : Nat} {w2 : World} (a : Act) (w : World) (Q : Exit → Act → World → Prop) (hsz : a.tmps.size = 57)
    (t0 : a.tmps.getD 0 undef = .pointer (some ⟨s.sb, 0, none⟩))
    (t7 : a.tmps.getD 7 undef = .int .i64 (i : Int))
    (hS : SeqAt w s E) (hi : i < s.L.length) (hf : -9223372036854775808 ≤ (gt s.L i).kp.fol + 1 ∧ (gt s.L i).kp.fol + 1 ≤ 9223372036854775807) (CE : Calls Try.prog 36 #[.pointer (some ⟨s.sb, 0, none⟩), .int .i64 (i : Int)] w fun e w' => e = .returned (.pointer (some ⟨s.g, 73 * i + 0, none⟩)) ∧ w' = w) (ES : (Instr.storeAt 3 (.pointer (some ⟨s.g, 73 * i + 0 + 66, none⟩)) (.int .i64 ((gt s.L i).kp.fol + 1))).run Try.prog w = .ok () w2)
    (h : ∀ (a' : Act) (w' : World), w' = w2 → a' = (((((((((a).put (some 35) (.pointer (some ⟨s.sb, 0, none⟩))).put (some 36) (.int .i64 (i : Int))).put (some 37) (.pointer (some ⟨s.g, 73 * i + 0, none⟩))).put (some 38) (.pointer (some ⟨s.g, 73 * i + 0, none⟩))).put (some 39) (.pointer (some ⟨s.g, 73 * i + 0 + 66, none⟩))).put (some 40) (.int .i64 (gt s.L i).kp.fol)).put (some 41) (.int .i64 ((gt s.L i).kp.fol + 1))).put (some 42) (.pointer (some ⟨s.g, 73 * i + 0, none⟩))).put (some 43) (.pointer (some ⟨s.g, 73 * i + 0 + 66, none⟩)) → Q .normal a' w') :
    (Code.region 10 ins10_ops false).wp Try.prog Q a w := by
  refine wp_region_list ?_
  change wpList _ _ _ [ins10_o0, ins10_o1, ins10_o2, ins10_o3, ins10_o4, ins10_o5, ins10_o6, ins10_o7, ins10_o8, ins10_o9] _ _
  refine qv (v := .pointer (some ⟨s.sb, 0, none⟩)) (by rfl) (exec_move rfl t0) (fun a0 e0 => ?_)
  rw [← e0] at h
  have z0 := pz e0 hsz
  replace t7 := pk e0 t7
  clear t0
  have t35 := pq e0 hsz
  clear e0 hsz
  refine qv (v := .int .i64 (i : Int)) (by rfl) (exec_move rfl t7) (fun a1 e1 => ?_)
  rw [← e1] at h
  have z1 := pz e1 z0
  replace t35 := pk e1 t35
  clear t7
  have t36 := pq e1 z0
  clear e1 z0
  refine qc (by rfl) (by unfold ins10_o2; go_simp) (CE) (fun e x2 hx => ?_)
  obtain ⟨rfl, rfl⟩ := hx
  refine ⟨_, rfl, fun a2 e2 => ?_⟩
  rw [← e2] at h
  have z2 := pz e2 z1
  clear t35 t36
  have t37 := pq e2 z1
  clear e2 z1
  refine qv (v := .pointer (some ⟨s.g, 73 * i + 0, none⟩)) (by rfl) (exec_nilCheck rfl t37) (fun a3 e3 => ?_)
  rw [← e3] at h
  have z3 := pz e3 z2
  replace t37 := pk e3 t37
  have t38 := pq e3 z2
  clear e3 z2
  refine qv (v := .pointer (some ⟨s.g, 73 * i + 0 + 66, none⟩)) (by rfl) (exec_fieldAt rfl t38 (fg_68_2 _ _ _)) (fun a4 e4 => ?_)
  rw [← e4] at h
  have z4 := pz e4 z3
  replace t37 := pk e4 t37
  clear t38
  have t39 := pq e4 z3
  clear e4 z3
  refine qv (v := .int .i64 (gt s.L i).kp.fol) (by rfl) (exec_load rfl t39 (R_fol hS.row hi)) (fun a5 e5 => ?_)
  rw [← e5] at h
  have z5 := pz e5 z4
  replace t37 := pk e5 t37
  clear t39
  have t40 := pq e5 z4
  clear e5 z4
  refine qv (v := .int .i64 ((gt s.L i).kp.fol + 1)) (by rfl) (ex_add rfl t40 rfl hf) (fun a6 e6 => ?_)
  rw [← e6] at h
  have z6 := pz e6 z5
  replace t37 := pk e6 t37
  clear t40
  have t41 := pq e6 z5
  clear e6 z5
  refine qv (v := .pointer (some ⟨s.g, 73 * i + 0, none⟩)) (by rfl) (exec_nilCheck rfl t37) (fun a7 e7 => ?_)
  rw [← e7] at h
  have z7 := pz e7 z6
  replace t41 := pk e7 t41
  clear t37
  have t42 := pq e7 z6
  clear e7 z6
  refine qv (v := .pointer (some ⟨s.g, 73 * i + 0 + 66, none⟩)) (by rfl) (exec_fieldAt rfl t42 (fg_68_2 _ _ _)) (fun a8 e8 => ?_)
  rw [← e8] at h
  have z8 := pz e8 z7
  replace t41 := pk e8 t41
  clear t42
  have t43 := pq e8 z7
  clear e8 z7
  refine qs (by rfl) (exec_store rfl t43 t41 ES) ?_
  exact wpList_nil (h _ _ (rfl) rfl)
def IS (s : Sx) (b1 b2 : Nat) (k q : IdK) (w' : World) : Prop := w'.cell? ⟨s.sb, 0, none⟩ = some (.map (some s.mb)) ∧ IdAt w' b1 k ∧ IdAt w' b2 q
def ins11_o0 : Oper := { dst := some 44, op := Op.move (Operand.tmp 0), type := 23, pos := "seq.go:49", after := #[], guard := none }
def ins11_o1 : Oper := { dst := some 45, op := Op.nilCheck (Operand.tmp 44), type := 0, pos := "seq.go:49", after := #[{ on := 0, ground := Ground.data }], guard := none }
def ins11_o2 : Oper := { dst := some 46, op := Op.fieldAddr 70 (Operand.tmp 45) 0, type := 0, pos := "seq.go:49", after := #[{ on := 1, ground := Ground.data }], guard := none }
def ins11_o3 : Oper := { dst := some 47, op := Op.load 62 (Operand.tmp 46), type := 62, pos := "seq.go:49", after := #[{ on := 2, ground := Ground.data }], guard := none }
def ins11_o4 : Oper := { dst := some 48, op := Op.load 32 (Operand.tmp 4), type := 32, pos := "seq.go:49", after := #[], guard := none }
def ins11_o5 : Oper := { dst := some 49, op := Op.move (Operand.tmp 0), type := 23, pos := "seq.go:49", after := #[], guard := none }
def ins11_o6 : Oper := { dst := some 50, op := Op.nilCheck (Operand.tmp 49), type := 0, pos := "seq.go:49", after := #[{ on := 5, ground := Ground.data }], guard := none }
def ins11_o7 : Oper := { dst := some 51, op := Op.fieldAddr 70 (Operand.tmp 50) 1, type := 0, pos := "seq.go:49", after := #[{ on := 6, ground := Ground.data }], guard := none }
def ins11_o8 : Oper := { dst := some 52, op := Op.move (Operand.tmp 7), type := 3, pos := "seq.go:49", after := #[], guard := none }
def ins11_o9 : Oper := { dst := some 53, op := Op.load 32 (Operand.tmp 4), type := 32, pos := "seq.go:49", after := #[], guard := none }
def ins11_o10 : Oper := { dst := some 54, op := Op.load 32 (Operand.tmp 5), type := 32, pos := "seq.go:49", after := #[], guard := none }
def ins11_o11 : Oper := { dst := some 55, op := Op.build 68 #[(0, Operand.tmp 53), (1, Operand.tmp 54)], type := 68, pos := "seq.go:49", after := #[{ on := 9, ground := Ground.data }, { on := 10, ground := Ground.data }], guard := none }
def ins11_o12 : Oper := { dst := some 56, op := Op.call { callee := Callee.value (Operand.func 37), args := #[Operand.tmp 51, Operand.tmp 52, Operand.tmp 55], argTypes := #[65, 3, 68] }, type := 3, pos := "seq.go:49", after := #[{ on := 7, ground := Ground.data }, { on := 8, ground := Ground.data }, { on := 11, ground := Ground.data }], guard := none }
def ins11_o13 : Oper := { dst := none, op := Op.mapUpdate 62 (Operand.tmp 47) (Operand.tmp 48) (Operand.tmp 56), type := 0, pos := "seq.go:49", after := #[{ on := 3, ground := Ground.data }, { on := 4, ground := Ground.data }, { on := 12, ground := Ground.data }, { on := 12, ground := Ground.chain }, { on := 0, ground := Ground.phase }, { on := 1, ground := Ground.phase }, { on := 2, ground := Ground.phase }, { on := 3, ground := Ground.phase }, { on := 4, ground := Ground.phase }, { on := 5, ground := Ground.phase }, { on := 6, ground := Ground.phase }, { on := 7, ground := Ground.phase }, { on := 8, ground := Ground.phase }, { on := 9, ground := Ground.phase }, { on := 10, ground := Ground.phase }, { on := 11, ground := Ground.phase }, { on := 12, ground := Ground.phase }], guard := none }
def ins11_ops : Array Oper := #[ins11_o0, ins11_o1, ins11_o2, ins11_o3, ins11_o4, ins11_o5, ins11_o6, ins11_o7, ins11_o8, ins11_o9, ins11_o10, ins11_o11, ins11_o12, ins11_o13]
set_option maxRecDepth 100000 in
set_option maxHeartbeats 4000000 in
theorem ins11 {s : Sx} {b1 b2 i n : Nat} {k q : IdK} (Fin : World → Prop) (a : Act) (w : World) (Q : Exit → Act → World → Prop) (hsz : a.tmps.size = 57)
    (t0 : a.tmps.getD 0 undef = .pointer (some ⟨s.sb, 0, none⟩))
    (t4 : a.tmps.getD 4 undef = .pointer (some ⟨b1, 0, none⟩))
    (t5 : a.tmps.getD 5 undef = .pointer (some ⟨b2, 0, none⟩))
    (t7 : a.tmps.getD 7 undef = .int .i64 (i : Int))
    (hk : k.ok) (hq : q.ok) (h0 : IS s b1 b2 k q w.drew) (CP : Calls Try.prog 37 #[.pointer (some ⟨s.sb, 1, none⟩), .int .i64 (i : Int), KpV.v ⟨k, q, 0⟩] w.drew fun e w' => e = .returned (.int .i64 (n : Int)) ∧ IS s b1 b2 k q w' ∧ ∃ y, (Instr.mapUpdate 62 (.map (some s.mb)) k.v (.int .i64 (n : Int))).run Try.prog w' = .ok () y ∧ Fin y)
    (h : ∀ (a' : Act) (w' : World), Fin w' → a' = (((((((((((((a).put (some 44) (.pointer (some ⟨s.sb, 0, none⟩))).put (some 45) (.pointer (some ⟨s.sb, 0, none⟩))).put (some 46) (.pointer (some ⟨s.sb, 0, none⟩))).put (some 47) (.map (some s.mb))).put (some 48) (k.v)).put (some 49) (.pointer (some ⟨s.sb, 0, none⟩))).put (some 50) (.pointer (some ⟨s.sb, 0, none⟩))).put (some 51) (.pointer (some ⟨s.sb, 1, none⟩))).put (some 52) (.int .i64 (i : Int))).put (some 53) (k.v)).put (some 54) (q.v)).put (some 55) (KpV.v ⟨k, q, 0⟩)).put (some 56) (.int .i64 (n : Int)) → Q .normal a' w') :
    (Code.region 11 ins11_ops true).wp Try.prog Q a w := by
  refine wp_region_noPanic ?_
  refine wp_region_E 13 (S := fun w' => IS s b1 b2 k q w') (by kernel_rfl) (h0) (fun hHeld => ?_)
  refine wpAnyE_take 14 (i := 0) (oi := ins11_o0) (v := .pointer (some ⟨s.sb, 0, none⟩)) rfl (by kernel_rfl) (by kernel_rfl) (by kernel_rfl) (by kernel_rfl) (fun _ _ _ h => h) (Or.inl ⟨by rfl, fun w1 hw => exec_move rfl t0⟩) hHeld ?_
  change wpAnyE _ _ _ _ _ _ _ _ (a.put (some 44) (.pointer (some ⟨s.sb, 0, none⟩))) _
  obtain ⟨a0, e0⟩ : ∃ act, act = a.put (some 44) (.pointer (some ⟨s.sb, 0, none⟩)) := ⟨_, rfl⟩
  rw [← e0] at h ⊢
  have z0 := pz e0 hsz
  replace t0 := pk e0 t0
  replace t4 := pk e0 t4
  replace t5 := pk e0 t5
  replace t7 := pk e0 t7
  have t44 := pq e0 hsz
  clear e0 hsz
  refine wpAnyE_take 14 (i := 1) (oi := ins11_o1) (v := .pointer (some ⟨s.sb, 0, none⟩)) rfl (by kernel_rfl) (by kernel_rfl) (by kernel_rfl) (by kernel_rfl) (fun _ _ _ h => h) (Or.inl ⟨by rfl, fun w1 hw => exec_nilCheck rfl t44⟩) hHeld ?_
  change wpAnyE _ _ _ _ _ _ _ _ (a0.put (some 45) (.pointer (some ⟨s.sb, 0, none⟩))) _
  obtain ⟨a1, e1⟩ : ∃ act, act = a0.put (some 45) (.pointer (some ⟨s.sb, 0, none⟩)) := ⟨_, rfl⟩
  rw [← e1] at h ⊢
  have z1 := pz e1 z0
  replace t0 := pk e1 t0
  replace t4 := pk e1 t4
  replace t5 := pk e1 t5
  replace t7 := pk e1 t7
  clear t44
  have t45 := pq e1 z0
  clear e1 z0
  refine wpAnyE_take 14 (i := 2) (oi := ins11_o2) (v := .pointer (some ⟨s.sb, 0, none⟩)) rfl (by kernel_rfl) (by kernel_rfl) (by kernel_rfl) (by kernel_rfl) (fun _ _ _ h => h) (Or.inl ⟨by rfl, fun w1 hw => exec_fieldAt rfl t45 (fg_70_0 _ _ _)⟩) hHeld ?_
  change wpAnyE _ _ _ _ _ _ _ _ (a1.put (some 46) (.pointer (some ⟨s.sb, 0, none⟩))) _
  obtain ⟨a2, e2⟩ : ∃ act, act = a1.put (some 46) (.pointer (some ⟨s.sb, 0, none⟩)) := ⟨_, rfl⟩
  rw [← e2] at h ⊢
  have z2 := pz e2 z1
  replace t0 := pk e2 t0
  replace t4 := pk e2 t4
  replace t5 := pk e2 t5
  replace t7 := pk e2 t7
  clear t45
  have t46 := pq e2 z1
  clear e2 z1
  refine wpAnyE_take 14 (i := 3) (oi := ins11_o3) (v := .map (some s.mb)) rfl (by kernel_rfl) (by kernel_rfl) (by kernel_rfl) (by kernel_rfl) (fun _ _ _ h => h) (Or.inl ⟨by rfl, fun w1 hw => exec_load rfl t46 (ld_map hw.1)⟩) hHeld ?_
  change wpAnyE _ _ _ _ _ _ _ _ (a2.put (some 47) (.map (some s.mb))) _
  obtain ⟨a3, e3⟩ : ∃ act, act = a2.put (some 47) (.map (some s.mb)) := ⟨_, rfl⟩
  rw [← e3] at h ⊢
  have z3 := pz e3 z2
  replace t0 := pk e3 t0
  replace t4 := pk e3 t4
  replace t5 := pk e3 t5
  replace t7 := pk e3 t7
  clear t46
  have t47 := pq e3 z2
  clear e3 z2
  refine wpAnyE_take 14 (i := 4) (oi := ins11_o4) (v := k.v) rfl (by kernel_rfl) (by kernel_rfl) (by kernel_rfl) (by kernel_rfl) (fun _ _ _ h => h) (Or.inl ⟨by rfl, fun w1 hw => exec_load rfl t4 (load_id hk hw.2.1)⟩) hHeld ?_
  change wpAnyE _ _ _ _ _ _ _ _ (a3.put (some 48) (k.v)) _
  obtain ⟨a4, e4⟩ : ∃ act, act = a3.put (some 48) (k.v) := ⟨_, rfl⟩
  rw [← e4] at h ⊢
  have z4 := pz e4 z3
  replace t0 := pk e4 t0
  replace t4 := pk e4 t4
  replace t5 := pk e4 t5
  replace t7 := pk e4 t7
  replace t47 := pk e4 t47
  have t48 := pq e4 z3
  clear e4 z3
  refine wpAnyE_take 14 (i := 5) (oi := ins11_o5) (v := .pointer (some ⟨s.sb, 0, none⟩)) rfl (by kernel_rfl) (by kernel_rfl) (by kernel_rfl) (by kernel_rfl) (fun _ _ _ h => h) (Or.inl ⟨by rfl, fun w1 hw => exec_move rfl t0⟩) hHeld ?_
  change wpAnyE _ _ _ _ _ _ _ _ (a4.put (some 49) (.pointer (some ⟨s.sb, 0, none⟩))) _
  obtain ⟨a5, e5⟩ : ∃ act, act = a4.put (some 49) (.pointer (some ⟨s.sb, 0, none⟩)) := ⟨_, rfl⟩
  rw [← e5] at h ⊢
  have z5 := pz e5 z4
  replace t4 := pk e5 t4
  replace t5 := pk e5 t5
  replace t7 := pk e5 t7
  replace t47 := pk e5 t47
  replace t48 := pk e5 t48
  clear t0
  have t49 := pq e5 z4
  clear e5 z4
  refine wpAnyE_take 14 (i := 6) (oi := ins11_o6) (v := .pointer (some ⟨s.sb, 0, none⟩)) rfl (by kernel_rfl) (by kernel_rfl) (by kernel_rfl) (by kernel_rfl) (fun _ _ _ h => h) (Or.inl ⟨by rfl, fun w1 hw => exec_nilCheck rfl t49⟩) hHeld ?_
  change wpAnyE _ _ _ _ _ _ _ _ (a5.put (some 50) (.pointer (some ⟨s.sb, 0, none⟩))) _
  obtain ⟨a6, e6⟩ : ∃ act, act = a5.put (some 50) (.pointer (some ⟨s.sb, 0, none⟩)) := ⟨_, rfl⟩
  rw [← e6] at h ⊢
  have z6 := pz e6 z5
  replace t4 := pk e6 t4
  replace t5 := pk e6 t5
  replace t7 := pk e6 t7
  replace t47 := pk e6 t47
  replace t48 := pk e6 t48
  clear t49
  have t50 := pq e6 z5
  clear e6 z5
  refine wpAnyE_take 14 (i := 7) (oi := ins11_o7) (v := .pointer (some ⟨s.sb, 1, none⟩)) rfl (by kernel_rfl) (by kernel_rfl) (by kernel_rfl) (by kernel_rfl) (fun _ _ _ h => h) (Or.inl ⟨by rfl, fun w1 hw => exec_fieldAt rfl t50 (fg_70_1 _ _ _)⟩) hHeld ?_
  change wpAnyE _ _ _ _ _ _ _ _ (a6.put (some 51) (.pointer (some ⟨s.sb, 1, none⟩))) _
  obtain ⟨a7, e7⟩ : ∃ act, act = a6.put (some 51) (.pointer (some ⟨s.sb, 1, none⟩)) := ⟨_, rfl⟩
  rw [← e7] at h ⊢
  have z7 := pz e7 z6
  replace t4 := pk e7 t4
  replace t5 := pk e7 t5
  replace t7 := pk e7 t7
  replace t47 := pk e7 t47
  replace t48 := pk e7 t48
  clear t50
  have t51 := pq e7 z6
  clear e7 z6
  refine wpAnyE_take 14 (i := 8) (oi := ins11_o8) (v := .int .i64 (i : Int)) rfl (by kernel_rfl) (by kernel_rfl) (by kernel_rfl) (by kernel_rfl) (fun _ _ _ h => h) (Or.inl ⟨by rfl, fun w1 hw => exec_move rfl t7⟩) hHeld ?_
  change wpAnyE _ _ _ _ _ _ _ _ (a7.put (some 52) (.int .i64 (i : Int))) _
  obtain ⟨a8, e8⟩ : ∃ act, act = a7.put (some 52) (.int .i64 (i : Int)) := ⟨_, rfl⟩
  rw [← e8] at h ⊢
  have z8 := pz e8 z7
  replace t4 := pk e8 t4
  replace t5 := pk e8 t5
  replace t47 := pk e8 t47
  replace t48 := pk e8 t48
  replace t51 := pk e8 t51
  clear t7
  have t52 := pq e8 z7
  clear e8 z7
  refine wpAnyE_take 14 (i := 9) (oi := ins11_o9) (v := k.v) rfl (by kernel_rfl) (by kernel_rfl) (by kernel_rfl) (by kernel_rfl) (fun _ _ _ h => h) (Or.inl ⟨by rfl, fun w1 hw => exec_load rfl t4 (load_id hk hw.2.1)⟩) hHeld ?_
  change wpAnyE _ _ _ _ _ _ _ _ (a8.put (some 53) (k.v)) _
  obtain ⟨a9, e9⟩ : ∃ act, act = a8.put (some 53) (k.v) := ⟨_, rfl⟩
  rw [← e9] at h ⊢
  have z9 := pz e9 z8
  replace t5 := pk e9 t5
  replace t47 := pk e9 t47
  replace t48 := pk e9 t48
  replace t51 := pk e9 t51
  replace t52 := pk e9 t52
  clear t4
  have t53 := pq e9 z8
  clear e9 z8
  refine wpAnyE_take 14 (i := 10) (oi := ins11_o10) (v := q.v) rfl (by kernel_rfl) (by kernel_rfl) (by kernel_rfl) (by kernel_rfl) (fun _ _ _ h => h) (Or.inl ⟨by rfl, fun w1 hw => exec_load rfl t5 (load_id hq hw.2.2)⟩) hHeld ?_
  change wpAnyE _ _ _ _ _ _ _ _ (a9.put (some 54) (q.v)) _
  obtain ⟨a10, e10⟩ : ∃ act, act = a9.put (some 54) (q.v) := ⟨_, rfl⟩
  rw [← e10] at h ⊢
  have z10 := pz e10 z9
  replace t47 := pk e10 t47
  replace t48 := pk e10 t48
  replace t51 := pk e10 t51
  replace t52 := pk e10 t52
  replace t53 := pk e10 t53
  clear t5
  have t54 := pq e10 z9
  clear e10 z9
  refine wpAnyE_take 14 (i := 11) (oi := ins11_o11) (v := KpV.v ⟨k, q, 0⟩) rfl (by kernel_rfl) (by kernel_rfl) (by kernel_rfl) (by kernel_rfl) (fun _ _ _ h => h) (Or.inl ⟨by rfl, fun w1 hw => ex_el rfl t53 t54 hk hq⟩) hHeld ?_
  change wpAnyE _ _ _ _ _ _ _ _ (a10.put (some 55) (KpV.v ⟨k, q, 0⟩)) _
  obtain ⟨a11, e11⟩ : ∃ act, act = a10.put (some 55) (KpV.v ⟨k, q, 0⟩) := ⟨_, rfl⟩
  rw [← e11] at h ⊢
  have z11 := pz e11 z10
  replace t47 := pk e11 t47
  replace t48 := pk e11 t48
  replace t51 := pk e11 t51
  replace t52 := pk e11 t52
  clear t53 t54
  have t55 := pq e11 z10
  clear e11 z10
  refine wpAnyE_one (j := 12) (o := ins11_o12) (by kernel_rfl) rfl (fun K hK => ?_)
  rw [if_pos (by rfl)]
  unfold ins11_o12 at hK ⊢
  go_simp
  refine (CP).mono ?_
  rintro e x12 ⟨rfl, S1, y, EM, HF⟩
  try go_wp2_with fail
  refine hK.out _ _ (fun _ => S1) (fun hHeld => ?_)
  clear hK K
  replace hHeld := hHeld (by decide)
  change wpAnyE _ _ _ _ _ _ _ _ (a11.put (some 56) (.int .i64 (n : Int))) _
  obtain ⟨a12, e12⟩ : ∃ act, act = a11.put (some 56) (.int .i64 (n : Int)) := ⟨_, rfl⟩
  rw [← e12] at h ⊢
  have z12 := pz e12 z11
  replace t47 := pk e12 t47
  replace t48 := pk e12 t48
  clear t51 t52 t55
  have t56 := pq e12 z11
  clear e12 z11
  refine wpAnyE_one (j := 13) (o := ins11_o13) (by kernel_rfl) rfl (fun K hK => ?_)
  have XX := exec_mapUpdate (P := Try.prog) (a := a12) (o := ins11_o13) rfl t47 t48 t56 EM
  rw [if_pos (by rfl), Oper.wp, XX]
  show K _ _
  clear XX
  refine hK.out _ _ (fun hne => absurd rfl hne) (fun hHeld => ?_)
  clear hK K
  exact wpAnyE_done (by kernel_rfl) (NoPanic.normal (h _ _ (HF) rfl)) _
def tak3_o0 : Oper := { dst := some 10, op := Op.move (Operand.tmp 0), type := 23, pos := "seq.go:58", after := #[], guard := none }
def tak3_o1 : Oper := { dst := some 11, op := Op.load 32 (Operand.tmp 3), type := 32, pos := "seq.go:58", after := #[], guard := none }
def tak3_o2 : Oper := { dst := some 12, op := Op.call { callee := Callee.value (Operand.func 28), args := #[Operand.tmp 10, Operand.tmp 11], argTypes := #[23, 32] }, type := 4, pos := "seq.go:58", after := #[{ on := 0, ground := Ground.data }, { on := 1, ground := Ground.data }], guard := none }
def tak3_o3 : Oper := { dst := some 13, op := Op.unOp UnOp.not 4 (Operand.tmp 12), type := 4, pos := "seq.go:58", after := #[{ on := 2, ground := Ground.data }], guard := none }
def tak3_o4 : Oper := { dst := some 9, op := Op.assign (Operand.tmp 13), type := 4, pos := "seq.go:58", after := #[{ on := 3, ground := Ground.data }, { on := 2, ground := Ground.chain }], guard := none }
def tak3_ops : Array Oper := #[tak3_o0, tak3_o1, tak3_o2, tak3_o3, tak3_o4]
set_option maxRecDepth 100000 in
set_option maxHeartbeats 4000000 in
theorem tak3 {s : Sx} {b1 : Nat} {k : IdK} {r : Bool} (a : Act) (w : World) (Q : Exit → Act → World → Prop) (hsz : a.tmps.size = 65)
    (t0 : a.tmps.getD 0 undef = .pointer (some ⟨s.sb, 0, none⟩))
    (t3 : a.tmps.getD 3 undef = .pointer (some ⟨b1, 0, none⟩))
    (hk : k.ok) (ib1 : IdAt w b1 k) (CH : Calls Try.prog 28 #[.pointer (some ⟨s.sb, 0, none⟩), k.v] w fun e w' => e = .returned (.bool r) ∧ Below w.heap.size w w')
    (h : ∀ (a' : Act) (w' : World), Below w.heap.size w w' → a' = (((((a).put (some 10) (.pointer (some ⟨s.sb, 0, none⟩))).put (some 11) (k.v)).put (some 12) (.bool r)).put (some 13) (.bool (!r))).put (some 9) (.bool (!r)) → Q .normal a' w') :
    (Code.region 3 tak3_ops false).wp Try.prog Q a w := by
  refine wp_region_list ?_
  change wpList _ _ _ [tak3_o0, tak3_o1, tak3_o2, tak3_o3, tak3_o4] _ _
  refine qv (v := .pointer (some ⟨s.sb, 0, none⟩)) (by rfl) (exec_move rfl t0) (fun a0 e0 => ?_)
  rw [← e0] at h
  have z0 := pz e0 hsz
  replace t3 := pk e0 t3
  clear t0
  have t10 := pq e0 hsz
  clear e0 hsz
  refine qv (v := k.v) (by rfl) (exec_load rfl t3 (load_id hk ib1)) (fun a1 e1 => ?_)
  rw [← e1] at h
  have z1 := pz e1 z0
  replace t10 := pk e1 t10
  clear t3
  have t11 := pq e1 z0
  clear e1 z0
  refine qc (by rfl) (by unfold tak3_o2; go_simp) (CH) (fun e x2 hx => ?_)
  obtain ⟨rfl, S1⟩ := hx
  refine ⟨_, rfl, fun a2 e2 => ?_⟩
  rw [← e2] at h
  have z2 := pz e2 z1
  clear t10 t11
  have t12 := pq e2 z1
  clear e2 z1
  refine qv (v := .bool (!r)) (by rfl) (by unfold tak3_o3; go_simp) (fun a3 e3 => ?_)
  rw [← e3] at h
  have z3 := pz e3 z2
  clear t12
  have t13 := pq e3 z2
  clear e3 z2
  refine qv (v := .bool (!r)) (by rfl) (exec_assign rfl t13) (fun a4 e4 => ?_)
  rw [← e4] at h
  have z4 := pz e4 z3
  clear t13
  clear e4 z3
  exact wpList_nil (h _ _ (S1) rfl)
def tak5_o0 : Oper := { dst := some 15, op := Op.move (Operand.tmp 0), type := 23, pos := "seq.go:60", after := #[], guard := none }
def tak5_o1 : Oper := { dst := some 16, op := Op.move (Operand.tmp 0), type := 23, pos := "seq.go:60", after := #[], guard := none }
def tak5_o2 : Oper := { dst := some 17, op := Op.nilCheck (Operand.tmp 16), type := 0, pos := "seq.go:60", after := #[{ on := 1, ground := Ground.data }], guard := none }
def tak5_o3 : Oper := { dst := some 18, op := Op.fieldAddr 70 (Operand.tmp 17) 0, type := 0, pos := "seq.go:60", after := #[{ on := 2, ground := Ground.data }], guard := none }
def tak5_o4 : Oper := { dst := some 19, op := Op.load 62 (Operand.tmp 18), type := 62, pos := "seq.go:60", after := #[{ on := 3, ground := Ground.data }], guard := none }
def tak5_o5 : Oper := { dst := some 20, op := Op.load 32 (Operand.tmp 3), type := 32, pos := "seq.go:60", after := #[], guard := none }
def tak5_o6 : Oper := { dst := some 21, op := Op.lookup 62 (Operand.tmp 19) (Operand.tmp 20) false, type := 3, pos := "seq.go:60", after := #[{ on := 4, ground := Ground.data }, { on := 5, ground := Ground.data }], guard := none }
def tak5_o7 : Oper := { dst := some 22, op := Op.call { callee := Callee.value (Operand.func 36), args := #[Operand.tmp 15, Operand.tmp 21], argTypes := #[23, 3] }, type := 74, pos := "seq.go:60", after := #[{ on := 0, ground := Ground.data }, { on := 6, ground := Ground.data }], guard := none }
def tak5_o8 : Oper := { dst := some 23, op := Op.nilCheck (Operand.tmp 22), type := 0, pos := "seq.go:60", after := #[{ on := 7, ground := Ground.data }], guard := none }
def tak5_o9 : Oper := { dst := some 24, op := Op.fieldAddr 68 (Operand.tmp 23) 2, type := 0, pos := "seq.go:60", after := #[{ on := 8, ground := Ground.data }], guard := none }
def tak5_o10 : Oper := { dst := some 25, op := Op.load 3 (Operand.tmp 24), type := 3, pos := "seq.go:60", after := #[{ on := 9, ground := Ground.data }], guard := none }
def tak5_o11 : Oper := { dst := some 26, op := Op.binOp BinOp.gtr 3 (Operand.tmp 25) (Operand.const (Value.int IntKind.i64 0)) 3, type := 4, pos := "seq.go:60", after := #[{ on := 10, ground := Ground.data }], guard := none }
def tak5_o12 : Oper := { dst := some 14, op := Op.assign (Operand.tmp 26), type := 4, pos := "seq.go:60", after := #[{ on := 11, ground := Ground.data }, { on := 7, ground := Ground.chain }], guard := none }
def tak5_ops : Array Oper := #[tak5_o0, tak5_o1, tak5_o2, tak5_o3, tak5_o4, tak5_o5, tak5_o6, tak5_o7, tak5_o8, tak5_o9, tak5_o10, tak5_o11, tak5_o12]
set_option maxRecDepth 100000 in
set_option maxHeartbeats 4000000 in
theorem tak5 {s : Sx} {E : List Elt} {b1 i : Nat} {k : IdK} {r : Bool} (a : Act) (w : World) (Q : Exit → Act → World → Prop) (hsz : a.tmps.size = 65)
    (t0 : a.tmps.getD 0 undef = .pointer (some ⟨s.sb, 0, none⟩))
    (t3 : a.tmps.getD 3 undef = .pointer (some ⟨b1, 0, none⟩))
    (hS : SeqAt w s E) (hk : k.ok) (ib1 : IdAt w b1 k) (ei : spotOf s k = i) (hi : i < s.L.length) (hr : decide ((gt s.L i).kp.fol > 0) = r) (CE : Calls Try.prog 36 #[.pointer (some ⟨s.sb, 0, none⟩), .int .i64 (i : Int)] w.drew fun e w' => e = .returned (.pointer (some ⟨s.g, 73 * i + 0, none⟩)) ∧ w' = w.drew)
    (h : ∀ (a' : Act) (w' : World), w' = w.drew → a' = (((((((((((((a).put (some 15) (.pointer (some ⟨s.sb, 0, none⟩))).put (some 16) (.pointer (some ⟨s.sb, 0, none⟩))).put (some 17) (.pointer (some ⟨s.sb, 0, none⟩))).put (some 18) (.pointer (some ⟨s.sb, 0, none⟩))).put (some 19) (.map (some s.mb))).put (some 20) (k.v)).put (some 21) (.int .i64 (i : Int))).put (some 22) (.pointer (some ⟨s.g, 73 * i + 0, none⟩))).put (some 23) (.pointer (some ⟨s.g, 73 * i + 0, none⟩))).put (some 24) (.pointer (some ⟨s.g, 73 * i + 0 + 66, none⟩))).put (some 25) (.int .i64 (gt s.L i).kp.fol)).put (some 26) (.bool r)).put (some 14) (.bool r) → Q .normal a' w') :
    (Code.region 5 tak5_ops true).wp Try.prog Q a w := by
  refine wp_region_noPanic ?_
  refine wp_region_held_drew (S := fun w' => w' = w.drew) (by kernel_rfl) (rfl) (fun hHeld => ?_)
  refine wpAnyH_take (i := 0) (oi := tak5_o0) (v := .pointer (some ⟨s.sb, 0, none⟩)) rfl (by kernel_rfl) (by kernel_rfl) (by kernel_rfl) (fun _ _ _ h => h) (Or.inl ⟨by rfl, fun w1 hw => exec_move rfl t0⟩) hHeld ?_
  change wpAnyH _ _ _ _ _ _ _ (a.put (some 15) (.pointer (some ⟨s.sb, 0, none⟩))) _
  obtain ⟨a0, e0⟩ : ∃ act, act = a.put (some 15) (.pointer (some ⟨s.sb, 0, none⟩)) := ⟨_, rfl⟩
  rw [← e0] at h ⊢
  have z0 := pz e0 hsz
  replace t0 := pk e0 t0
  replace t3 := pk e0 t3
  have t15 := pq e0 hsz
  clear e0 hsz
  refine wpAnyH_take (i := 1) (oi := tak5_o1) (v := .pointer (some ⟨s.sb, 0, none⟩)) rfl (by kernel_rfl) (by kernel_rfl) (by kernel_rfl) (fun _ _ _ h => h) (Or.inl ⟨by rfl, fun w1 hw => exec_move rfl t0⟩) hHeld ?_
  change wpAnyH _ _ _ _ _ _ _ (a0.put (some 16) (.pointer (some ⟨s.sb, 0, none⟩))) _
  obtain ⟨a1, e1⟩ : ∃ act, act = a0.put (some 16) (.pointer (some ⟨s.sb, 0, none⟩)) := ⟨_, rfl⟩
  rw [← e1] at h ⊢
  have z1 := pz e1 z0
  replace t3 := pk e1 t3
  replace t15 := pk e1 t15
  clear t0
  have t16 := pq e1 z0
  clear e1 z0
  refine wpAnyH_take (i := 2) (oi := tak5_o2) (v := .pointer (some ⟨s.sb, 0, none⟩)) rfl (by kernel_rfl) (by kernel_rfl) (by kernel_rfl) (fun _ _ _ h => h) (Or.inl ⟨by rfl, fun w1 hw => exec_nilCheck rfl t16⟩) hHeld ?_
  change wpAnyH _ _ _ _ _ _ _ (a1.put (some 17) (.pointer (some ⟨s.sb, 0, none⟩))) _
  obtain ⟨a2, e2⟩ : ∃ act, act = a1.put (some 17) (.pointer (some ⟨s.sb, 0, none⟩)) := ⟨_, rfl⟩
  rw [← e2] at h ⊢
  have z2 := pz e2 z1
  replace t3 := pk e2 t3
  replace t15 := pk e2 t15
  clear t16
  have t17 := pq e2 z1
  clear e2 z1
  refine wpAnyH_take (i := 3) (oi := tak5_o3) (v := .pointer (some ⟨s.sb, 0, none⟩)) rfl (by kernel_rfl) (by kernel_rfl) (by kernel_rfl) (fun _ _ _ h => h) (Or.inl ⟨by rfl, fun w1 hw => exec_fieldAt rfl t17 (fg_70_0 _ _ _)⟩) hHeld ?_
  change wpAnyH _ _ _ _ _ _ _ (a2.put (some 18) (.pointer (some ⟨s.sb, 0, none⟩))) _
  obtain ⟨a3, e3⟩ : ∃ act, act = a2.put (some 18) (.pointer (some ⟨s.sb, 0, none⟩)) := ⟨_, rfl⟩
  rw [← e3] at h ⊢
  have z3 := pz e3 z2
  replace t3 := pk e3 t3
  replace t15 := pk e3 t15
  clear t17
  have t18 := pq e3 z2
  clear e3 z2
  refine wpAnyH_take (i := 4) (oi := tak5_o4) (v := .map (some s.mb)) rfl (by kernel_rfl) (by kernel_rfl) (by kernel_rfl) (fun _ _ _ h => h) (Or.inl ⟨by rfl, fun w1 hw => exec_load rfl t18 (ld_map (hw ▸ hS.drew : SeqAt _ s E).c0)⟩) hHeld ?_
  change wpAnyH _ _ _ _ _ _ _ (a3.put (some 19) (.map (some s.mb))) _
  obtain ⟨a4, e4⟩ : ∃ act, act = a3.put (some 19) (.map (some s.mb)) := ⟨_, rfl⟩
  rw [← e4] at h ⊢
  have z4 := pz e4 z3
  replace t3 := pk e4 t3
  replace t15 := pk e4 t15
  clear t18
  have t19 := pq e4 z3
  clear e4 z3
  refine wpAnyH_take (i := 5) (oi := tak5_o5) (v := k.v) rfl (by kernel_rfl) (by kernel_rfl) (by kernel_rfl) (fun _ _ _ h => h) (Or.inl ⟨by rfl, fun w1 hw => exec_load rfl t3 (load_id hk (hw ▸ ib1 : IdAt _ b1 k))⟩) hHeld ?_
  change wpAnyH _ _ _ _ _ _ _ (a4.put (some 20) (k.v)) _
  obtain ⟨a5, e5⟩ : ∃ act, act = a4.put (some 20) (k.v) := ⟨_, rfl⟩
  rw [← e5] at h ⊢
  have z5 := pz e5 z4
  replace t15 := pk e5 t15
  replace t19 := pk e5 t19
  clear t3
  have t20 := pq e5 z4
  clear e5 z4
  refine wpAnyH_take (i := 6) (oi := tak5_o6) (v := .int .i64 (i : Int)) rfl (by kernel_rfl) (by kernel_rfl) (by kernel_rfl) (fun _ _ _ h => h) (Or.inl ⟨by rfl, fun w1 hw => exec_lookup rfl t19 t20 (by rw [look_spot (hw ▸ hS.drew : SeqAt _ s E) k hk, ei])⟩) hHeld ?_
  change wpAnyH _ _ _ _ _ _ _ (a5.put (some 21) (.int .i64 (i : Int))) _
  obtain ⟨a6, e6⟩ : ∃ act, act = a5.put (some 21) (.int .i64 (i : Int)) := ⟨_, rfl⟩
  rw [← e6] at h ⊢
  have z6 := pz e6 z5
  replace t15 := pk e6 t15
  clear t19 t20
  have t21 := pq e6 z5
  clear e6 z5
  refine wpAnyH_ready (rs := [7]) (by kernel_rfl) (by simp) ?_
  refine AllReadyH.cons (o := tak5_o7) rfl (fun K hK => ?_) AllReadyH.nil
  rw [if_pos (by rfl)]
  unfold tak5_o7 at hK ⊢
  go_simp
  refine (CE).mono ?_
  rintro e x7 ⟨rfl, rfl⟩
  try go_wp2_with fail
  refine hK.out _ _ (rfl) (fun hHeld => ?_)
  clear hK K
  change wpAnyH _ _ _ _ _ _ _ (a6.put (some 22) (.pointer (some ⟨s.g, 73 * i + 0, none⟩))) _
  obtain ⟨a7, e7⟩ : ∃ act, act = a6.put (some 22) (.pointer (some ⟨s.g, 73 * i + 0, none⟩)) := ⟨_, rfl⟩
  rw [← e7] at h ⊢
  have z7 := pz e7 z6
  clear t15 t21
  have t22 := pq e7 z6
  clear e7 z6
  refine wpAnyH_take (i := 8) (oi := tak5_o8) (v := .pointer (some ⟨s.g, 73 * i + 0, none⟩)) rfl (by kernel_rfl) (by kernel_rfl) (by kernel_rfl) (fun _ _ _ h => h) (Or.inl ⟨by rfl, fun w1 hw => exec_nilCheck rfl t22⟩) hHeld ?_
  change wpAnyH _ _ _ _ _ _ _ (a7.put (some 23) (.pointer (some ⟨s.g, 73 * i + 0, none⟩))) _
  obtain ⟨a8, e8⟩ : ∃ act, act = a7.put (some 23) (.pointer (some ⟨s.g, 73 * i + 0, none⟩)) := ⟨_, rfl⟩
  rw [← e8] at h ⊢
  have z8 := pz e8 z7
  clear t22
  have t23 := pq e8 z7
  clear e8 z7
  refine wpAnyH_take (i := 9) (oi := tak5_o9) (v := .pointer (some ⟨s.g, 73 * i + 0 + 66, none⟩)) rfl (by kernel_rfl) (by kernel_rfl) (by kernel_rfl) (fun _ _ _ h => h) (Or.inl ⟨by rfl, fun w1 hw => exec_fieldAt rfl t23 (fg_68_2 _ _ _)⟩) hHeld ?_
  change wpAnyH _ _ _ _ _ _ _ (a8.put (some 24) (.pointer (some ⟨s.g, 73 * i + 0 + 66, none⟩))) _
  obtain ⟨a9, e9⟩ : ∃ act, act = a8.put (some 24) (.pointer (some ⟨s.g, 73 * i + 0 + 66, none⟩)) := ⟨_, rfl⟩
  rw [← e9] at h ⊢
  have z9 := pz e9 z8
  clear t23
  have t24 := pq e9 z8
  clear e9 z8
  refine wpAnyH_take (i := 10) (oi := tak5_o10) (v := .int .i64 (gt s.L i).kp.fol) rfl (by kernel_rfl) (by kernel_rfl) (by kernel_rfl) (fun _ _ _ h => h) (Or.inl ⟨by rfl, fun w1 hw => exec_load rfl t24 (R_fol (hw ▸ hS.drew : SeqAt _ s E).row hi)⟩) hHeld ?_
  change wpAnyH _ _ _ _ _ _ _ (a9.put (some 25) (.int .i64 (gt s.L i).kp.fol)) _
  obtain ⟨a10, e10⟩ : ∃ act, act = a9.put (some 25) (.int .i64 (gt s.L i).kp.fol) := ⟨_, rfl⟩
  rw [← e10] at h ⊢
  have z10 := pz e10 z9
  clear t24
  have t25 := pq e10 z9
  clear e10 z9
  refine wpAnyH_take (i := 11) (oi := tak5_o11) (v := .bool r) rfl (by kernel_rfl) (by kernel_rfl) (by kernel_rfl) (fun _ _ _ h => h) (Or.inl ⟨by rfl, fun w1 hw => ex_gtr rfl t25 rfl hr⟩) hHeld ?_
  change wpAnyH _ _ _ _ _ _ _ (a10.put (some 26) (.bool r)) _
  obtain ⟨a11, e11⟩ : ∃ act, act = a10.put (some 26) (.bool r) := ⟨_, rfl⟩
  rw [← e11] at h ⊢
  have z11 := pz e11 z10
  clear t25
  have t26 := pq e11 z10
  clear e11 z10
  refine wpAnyH_take (i := 12) (oi := tak5_o12) (v := .bool r) rfl (by kernel_rfl) (by kernel_rfl) (by kernel_rfl) (fun _ _ _ h => h) (Or.inl ⟨by rfl, fun w1 hw => exec_assign rfl t26⟩) hHeld ?_
  change wpAnyH _ _ _ _ _ _ _ (a11.put (some 14) (.bool r)) _
  obtain ⟨a12, e12⟩ : ∃ act, act = a11.put (some 14) (.bool r) := ⟨_, rfl⟩
  rw [← e12] at h ⊢
  have z12 := pz e12 z11
  clear t26
  clear e12 z11
  exact wpAnyH_done (by kernel_rfl) (NoPanic.normal (h _ _ (hHeld) rfl)) _
def tak7_o0 : Oper := { dst := some 27, op := Op.move (Operand.tmp 0), type := 23, pos := "seq.go:63", after := #[], guard := none }
def tak7_o1 : Oper := { dst := some 28, op := Op.nilCheck (Operand.tmp 27), type := 0, pos := "seq.go:63", after := #[{ on := 0, ground := Ground.data }], guard := none }
def tak7_o2 : Oper := { dst := some 29, op := Op.fieldAddr 70 (Operand.tmp 28) 0, type := 0, pos := "seq.go:63", after := #[{ on := 1, ground := Ground.data }], guard := none }
def tak7_o3 : Oper := { dst := some 30, op := Op.load 62 (Operand.tmp 29), type := 62, pos := "seq.go:63", after := #[{ on := 2, ground := Ground.data }], guard := none }
def tak7_o4 : Oper := { dst := some 31, op := Op.load 32 (Operand.tmp 3), type := 32, pos := "seq.go:63", after := #[], guard := none }
def tak7_o5 : Oper := { dst := some 32, op := Op.lookup 62 (Operand.tmp 30) (Operand.tmp 31) false, type := 3, pos := "seq.go:63", after := #[{ on := 3, ground := Ground.data }, { on := 4, ground := Ground.data }], guard := none }
def tak7_o6 : Oper := { dst := some 5, op := Op.assign (Operand.tmp 32), type := 3, pos := "seq.go:63", after := #[{ on := 5, ground := Ground.data }, { on := 0, ground := Ground.phase }, { on := 1, ground := Ground.phase }, { on := 2, ground := Ground.phase }, { on := 3, ground := Ground.phase }, { on := 4, ground := Ground.phase }, { on := 5, ground := Ground.phase }], guard := none }
def tak7_ops : Array Oper := #[tak7_o0, tak7_o1, tak7_o2, tak7_o3, tak7_o4, tak7_o5, tak7_o6]
set_option maxRecDepth 100000 in
set_option maxHeartbeats 4000000 in
theorem tak7 {s : Sx} {E : List Elt} {b1 i : Nat} {k : IdK} (a : Act) (w : World) (Q : Exit → Act → World → Prop) (hsz : a.tmps.size = 65)
    (t0 : a.tmps.getD 0 undef = .pointer (some ⟨s.sb, 0, none⟩))
    (t3 : a.tmps.getD 3 undef = .pointer (some ⟨b1, 0, none⟩))
    (hS : SeqAt w s E) (hk : k.ok) (ib1 : IdAt w b1 k) (ei : spotOf s k = i)
    (h : ∀ (a' : Act) (w' : World), w' = w.drew → a' = (((((((a).put (some 27) (.pointer (some ⟨s.sb, 0, none⟩))).put (some 28) (.pointer (some ⟨s.sb, 0, none⟩))).put (some 29) (.pointer (some ⟨s.sb, 0, none⟩))).put (some 30) (.map (some s.mb))).put (some 31) (k.v)).put (some 32) (.int .i64 (i : Int))).put (some 5) (.int .i64 (i : Int)) → Q .normal a' w') :
    (Code.region 7 tak7_ops true).wp Try.prog Q a w := by
  refine wp_region_noPanic ?_
  refine wp_region_held_drew (S := fun w' => w' = w.drew) (by kernel_rfl) (rfl) (fun hHeld => ?_)
  refine wpAnyH_take (i := 0) (oi := tak7_o0) (v := .pointer (some ⟨s.sb, 0, none⟩)) rfl (by kernel_rfl) (by kernel_rfl) (by kernel_rfl) (fun _ _ _ h => h) (Or.inl ⟨by rfl, fun w1 hw => exec_move rfl t0⟩) hHeld ?_
  change wpAnyH _ _ _ _ _ _ _ (a.put (some 27) (.pointer (some ⟨s.sb, 0, none⟩))) _
  obtain ⟨a0, e0⟩ : ∃ act, act = a.put (some 27) (.pointer (some ⟨s.sb, 0, none⟩)) := ⟨_, rfl⟩
  rw [← e0] at h ⊢
  have z0 := pz e0 hsz
  replace t3 := pk e0 t3
  clear t0
  have t27 := pq e0 hsz
  clear e0 hsz
  refine wpAnyH_take (i := 1) (oi := tak7_o1) (v := .pointer (some ⟨s.sb, 0, none⟩)) rfl (by kernel_rfl) (by kernel_rfl) (by kernel_rfl) (fun _ _ _ h => h) (Or.inl ⟨by rfl, fun w1 hw => exec_nilCheck rfl t27⟩) hHeld ?_
  change wpAnyH _ _ _ _ _ _ _ (a0.put (some 28) (.pointer (some ⟨s.sb, 0, none⟩))) _
  obtain ⟨a1, e1⟩ : ∃ act, act = a0.put (some 28) (.pointer (some ⟨s.sb, 0, none⟩)) := ⟨_, rfl⟩
  rw [← e1] at h ⊢
  have z1 := pz e1 z0
  replace t3 := pk e1 t3
  clear t27
  have t28 := pq e1 z0
  clear e1 z0
  refine wpAnyH_take (i := 2) (oi := tak7_o2) (v := .pointer (some ⟨s.sb, 0, none⟩)) rfl (by kernel_rfl) (by kernel_rfl) (by kernel_rfl) (fun _ _ _ h => h) (Or.inl ⟨by rfl, fun w1 hw => exec_fieldAt rfl t28 (fg_70_0 _ _ _)⟩) hHeld ?_
  change wpAnyH _ _ _ _ _ _ _ (a1.put (some 29) (.pointer (some ⟨s.sb, 0, none⟩))) _
  obtain ⟨a2, e2⟩ : ∃ act, act = a1.put (some 29) (.pointer (some ⟨s.sb, 0, none⟩)) := ⟨_, rfl⟩
  rw [← e2] at h ⊢
  have z2 := pz e2 z1
  replace t3 := pk e2 t3
  clear t28
  have t29 := pq e2 z1
  clear e2 z1
  refine wpAnyH_take (i := 3) (oi := tak7_o3) (v := .map (some s.mb)) rfl (by kernel_rfl) (by kernel_rfl) (by kernel_rfl) (fun _ _ _ h => h) (Or.inl ⟨by rfl, fun w1 hw => exec_load rfl t29 (ld_map (hw ▸ hS.drew : SeqAt _ s E).c0)⟩) hHeld ?_
  change wpAnyH _ _ _ _ _ _ _ (a2.put (some 30) (.map (some s.mb))) _
  obtain ⟨a3, e3⟩ : ∃ act, act = a2.put (some 30) (.map (some s.mb)) := ⟨_, rfl⟩
  rw [← e3] at h ⊢
  have z3 := pz e3 z2
  replace t3 := pk e3 t3
  clear t29
  have t30 := pq e3 z2
  clear e3 z2
  refine wpAnyH_take (i := 4) (oi := tak7_o4) (v := k.v) rfl (by kernel_rfl) (by kernel_rfl) (by kernel_rfl) (fun _ _ _ h => h) (Or.inl ⟨by rfl, fun w1 hw => exec_load rfl t3 (load_id hk (hw ▸ ib1 : IdAt _ b1 k))⟩) hHeld ?_
  change wpAnyH _ _ _ _ _ _ _ (a3.put (some 31) (k.v)) _
  obtain ⟨a4, e4⟩ : ∃ act, act = a3.put (some 31) (k.v) := ⟨_, rfl⟩
  rw [← e4] at h ⊢
  have z4 := pz e4 z3
  replace t30 := pk e4 t30
  clear t3
  have t31 := pq e4 z3
  clear e4 z3
  refine wpAnyH_take (i := 5) (oi := tak7_o5) (v := .int .i64 (i : Int)) rfl (by kernel_rfl) (by kernel_rfl) (by kernel_rfl) (fun _ _ _ h => h) (Or.inl ⟨by rfl, fun w1 hw => exec_lookup rfl t30 t31 (by rw [look_spot (hw ▸ hS.drew : SeqAt _ s E) k hk, ei])⟩) hHeld ?_
  change wpAnyH _ _ _ _ _ _ _ (a4.put (some 32) (.int .i64 (i : Int))) _
  obtain ⟨a5, e5⟩ : ∃ act, act = a4.put (some 32) (.int .i64 (i : Int)) := ⟨_, rfl⟩
  rw [← e5] at h ⊢
  have z5 := pz e5 z4
  clear t30 t31
  have t32 := pq e5 z4
  clear e5 z4
  refine wpAnyH_take (i := 6) (oi := tak7_o6) (v := .int .i64 (i : Int)) rfl (by kernel_rfl) (by kernel_rfl) (by kernel_rfl) (fun _ _ _ h => h) (Or.inl ⟨by rfl, fun w1 hw => exec_assign rfl t32⟩) hHeld ?_
  change wpAnyH _ _ _ _ _ _ _ (a5.put (some 5) (.int .i64 (i : Int))) _
  obtain ⟨a6, e6⟩ : ∃ act, act = a5.put (some 5) (.int .i64 (i : Int)) := ⟨_, rfl⟩
  rw [← e6] at h ⊢
  have z6 := pz e6 z5
  clear t32
  clear e6 z5
  exact wpAnyH_done (by kernel_rfl) (NoPanic.normal (h _ _ (hHeld) rfl)) _
def tak8_o0 : Oper := { dst := some 33, op := Op.move (Operand.tmp 0), type := 23, pos := "seq.go:64", after := #[], guard := none }
def tak8_o1 : Oper := { dst := some 34, op := Op.move (Operand.tmp 0), type := 23, pos := "seq.go:64", after := #[], guard := none }
def tak8_o2 : Oper := { dst := some 35, op := Op.nilCheck (Operand.tmp 34), type := 0, pos := "seq.go:64", after := #[{ on := 1, ground := Ground.data }], guard := none }
def tak8_o3 : Oper := { dst := some 36, op := Op.fieldAddr 70 (Operand.tmp 35) 0, type := 0, pos := "seq.go:64", after := #[{ on := 2, ground := Ground.data }], guard := none }
def tak8_o4 : Oper := { dst := some 37, op := Op.load 62 (Operand.tmp 36), type := 62, pos := "seq.go:64", after := #[{ on := 3, ground := Ground.data }], guard := none }
def tak8_o5 : Oper := { dst := some 38, op := Op.move (Operand.tmp 0), type := 23, pos := "seq.go:64", after := #[], guard := none }
def tak8_o6 : Oper := { dst := some 39, op := Op.move (Operand.tmp 5), type := 3, pos := "seq.go:64", after := #[], guard := none }
def tak8_o7 : Oper := { dst := some 40, op := Op.call { callee := Callee.value (Operand.func 36), args := #[Operand.tmp 38, Operand.tmp 39], argTypes := #[23, 3] }, type := 74, pos := "seq.go:64", after := #[{ on := 5, ground := Ground.data }, { on := 6, ground := Ground.data }], guard := none }
def tak8_o8 : Oper := { dst := some 41, op := Op.nilCheck (Operand.tmp 40), type := 0, pos := "seq.go:64", after := #[{ on := 7, ground := Ground.data }], guard := none }
def tak8_o9 : Oper := { dst := some 42, op := Op.fieldAddr 68 (Operand.tmp 41) 1, type := 0, pos := "seq.go:64", after := #[{ on := 8, ground := Ground.data }], guard := none }
def tak8_o10 : Oper := { dst := some 43, op := Op.load 32 (Operand.tmp 42), type := 32, pos := "seq.go:64", after := #[{ on := 9, ground := Ground.data }], guard := none }
def tak8_o11 : Oper := { dst := some 44, op := Op.lookup 62 (Operand.tmp 37) (Operand.tmp 43) false, type := 3, pos := "seq.go:64", after := #[{ on := 4, ground := Ground.data }, { on := 10, ground := Ground.data }], guard := none }
def tak8_o12 : Oper := { dst := some 45, op := Op.call { callee := Callee.value (Operand.func 36), args := #[Operand.tmp 33, Operand.tmp 44], argTypes := #[23, 3] }, type := 74, pos := "seq.go:64", after := #[{ on := 0, ground := Ground.data }, { on := 11, ground := Ground.data }, { on := 7, ground := Ground.chain }], guard := none }
def tak8_o13 : Oper := { dst := some 46, op := Op.nilCheck (Operand.tmp 45), type := 0, pos := "seq.go:64", after := #[{ on := 12, ground := Ground.data }], guard := none }
def tak8_o14 : Oper := { dst := some 47, op := Op.fieldAddr 68 (Operand.tmp 46) 2, type := 0, pos := "seq.go:64", after := #[{ on := 13, ground := Ground.data }], guard := none }
def tak8_o15 : Oper := { dst := some 48, op := Op.load 3 (Operand.tmp 47), type := 3, pos := "seq.go:64", after := #[{ on := 14, ground := Ground.data }], guard := none }
def tak8_o16 : Oper := { dst := some 49, op := Op.binOp BinOp.sub 3 (Operand.tmp 48) (Operand.const (Value.int IntKind.i64 1)) 3, type := 3, pos := "seq.go:64", after := #[{ on := 15, ground := Ground.data }], guard := none }
def tak8_o17 : Oper := { dst := some 50, op := Op.nilCheck (Operand.tmp 45), type := 0, pos := "seq.go:64", after := #[{ on := 12, ground := Ground.data }, { on := 0, ground := Ground.phase }, { on := 1, ground := Ground.phase }, { on := 2, ground := Ground.phase }, { on := 3, ground := Ground.phase }, { on := 4, ground := Ground.phase }, { on := 5, ground := Ground.phase }, { on := 6, ground := Ground.phase }, { on := 7, ground := Ground.phase }, { on := 8, ground := Ground.phase }, { on := 9, ground := Ground.phase }, { on := 10, ground := Ground.phase }, { on := 11, ground := Ground.phase }, { on := 12, ground := Ground.phase }, { on := 13, ground := Ground.phase }, { on := 14, ground := Ground.phase }, { on := 15, ground := Ground.phase }, { on := 16, ground := Ground.phase }], guard := none }
def tak8_o18 : Oper := { dst := some 51, op := Op.fieldAddr 68 (Operand.tmp 50) 2, type := 0, pos := "seq.go:64", after := #[{ on := 17, ground := Ground.data }, { on := 0, ground := Ground.phase }, { on := 1, ground := Ground.phase }, { on := 2, ground := Ground.phase }, { on := 3, ground := Ground.phase }, { on := 4, ground := Ground.phase }, { on := 5, ground := Ground.phase }, { on := 6, ground := Ground.phase }, { on := 7, ground := Ground.phase }, { on := 8, ground := Ground.phase }, { on := 9, ground := Ground.phase }, { on := 10, ground := Ground.phase }, { on := 11, ground := Ground.phase }, { on := 12, ground := Ground.phase }, { on := 13, ground := Ground.phase }, { on := 14, ground := Ground.phase }, { on := 15, ground := Ground.phase }, { on := 16, ground := Ground.phase }], guard := none }
def tak8_o19 : Oper := { dst := none, op := Op.store 3 (Operand.tmp 51) (Operand.tmp 49), type := 0, pos := "seq.go:64", after := #[{ on := 18, ground := Ground.data }, { on := 16, ground := Ground.data }, { on := 12, ground := Ground.chain }, { on := 0, ground := Ground.phase }, { on := 1, ground := Ground.phase }, { on := 2, ground := Ground.phase }, { on := 3, ground := Ground.phase }, { on := 4, ground := Ground.phase }, { on := 5, ground := Ground.phase }, { on := 6, ground := Ground.phase }, { on := 7, ground := Ground.phase }, { on := 8, ground := Ground.phase }, { on := 9, ground := Ground.phase }, { on := 10, ground := Ground.phase }, { on := 11, ground := Ground.phase }, { on := 12, ground := Ground.phase }, { on := 13, ground := Ground.phase }, { on := 14, ground := Ground.phase }, { on := 15, ground := Ground.phase }, { on := 16, ground := Ground.phase }], guard := none }
def tak8_ops : Array Oper := #[tak8_o0, tak8_o1, tak8_o2, tak8_o3, tak8_o4, tak8_o5, tak8_o6, tak8_o7, tak8_o8, tak8_o9, tak8_o10, tak8_o11, tak8_o12, tak8_o13, tak8_o14, tak8_o15, tak8_o16, tak8_o17, tak8_o18, tak8_o19]
set_option maxRecDepth 100000 in
set_option maxHeartbeats 4000000 in
theorem tak8 {s : Sx} {E : List Elt} {i j : Nat} {w2 : World} (a : Act) (w : World) (Q : Exit → Act → World → Prop) (hsz : a.tmps.size = 65)
    (t0 : a.tmps.getD 0 undef = .pointer (some ⟨s.sb, 0, none⟩))
    (t5 : a.tmps.getD 5 undef = .int .i64 (i : Int))
    (hS : SeqAt w s E) (hi : i < s.L.length) (hj : j < s.L.length) (LJ : (Instr.lookup 62 (.map (some s.mb)) (gt s.L i).kp.bh.v false).run Try.prog w.drew = .ok (.int .i64 (j : Int)) w.drew) (hf : -9223372036854775808 ≤ (gt s.L j).kp.fol - 1 ∧ (gt s.L j).kp.fol - 1 ≤ 9223372036854775807) (CE : Calls Try.prog 36 #[.pointer (some ⟨s.sb, 0, none⟩), .int .i64 (i : Int)] w.drew fun e w' => e = .returned (.pointer (some ⟨s.g, 73 * i + 0, none⟩)) ∧ w' = w.drew) (CE2 : Calls Try.prog 36 #[.pointer (some ⟨s.sb, 0, none⟩), .int .i64 (j : Int)] w.drew fun e w' => e = .returned (.pointer (some ⟨s.g, 73 * j + 0, none⟩)) ∧ w' = w.drew) (ES : (Instr.storeAt 3 (.pointer (some ⟨s.g, 73 * j + 0 + 66, none⟩)) (.int .i64 ((gt s.L j).kp.fol - 1))).run Try.prog w.drew = .ok () w2)
    (h : ∀ (a' : Act) (w' : World), w' = w2 → a' = (((((((((((((((((((a).put (some 33) (.pointer (some ⟨s.sb, 0, none⟩))).put (some 34) (.pointer (some ⟨s.sb, 0, none⟩))).put (some 35) (.pointer (some ⟨s.sb, 0, none⟩))).put (some 36) (.pointer (some ⟨s.sb, 0, none⟩))).put (some 37) (.map (some s.mb))).put (some 38) (.pointer (some ⟨s.sb, 0, none⟩))).put (some 39) (.int .i64 (i : Int))).put (some 40) (.pointer (some ⟨s.g, 73 * i + 0, none⟩))).put (some 41) (.pointer (some ⟨s.g, 73 * i + 0, none⟩))).put (some 42) (.pointer (some ⟨s.g, 73 * i + 0 + 33, none⟩))).put (some 43) ((gt s.L i).kp.bh.v)).put (some 44) (.int .i64 (j : Int))).put (some 45) (.pointer (some ⟨s.g, 73 * j + 0, none⟩))).put (some 46) (.pointer (some ⟨s.g, 73 * j + 0, none⟩))).put (some 47) (.pointer (some ⟨s.g, 73 * j + 0 + 66, none⟩))).put (some 48) (.int .i64 (gt s.L j).kp.fol)).put (some 49) (.int .i64 ((gt s.L j).kp.fol - 1))).put (some 50) (.pointer (some ⟨s.g, 73 * j + 0, none⟩))).put (some 51) (.pointer (some ⟨s.g, 73 * j + 0 + 66, none⟩)) → Q .normal a' w') :
    (Code.region 8 tak8_ops true).wp Try.prog Q a w := by
  refine wp_region_noPanic ?_
  refine wp_region_E 19 (S := fun w' => w' = w.drew) (by kernel_rfl) (rfl) (fun hHeld => ?_)
  refine wpAnyE_take 20 (i := 0) (oi := tak8_o0) (v := .pointer (some ⟨s.sb, 0, none⟩)) rfl (by kernel_rfl) (by kernel_rfl) (by kernel_rfl) (by kernel_rfl) (fun _ _ _ h => h) (Or.inl ⟨by rfl, fun w1 hw => exec_move rfl t0⟩) hHeld ?_
  change wpAnyE _ _ _ _ _ _ _ _ (a.put (some 33) (.pointer (some ⟨s.sb, 0, none⟩))) _
  obtain ⟨a0, e0⟩ : ∃ act, act = a.put (some 33) (.pointer (some ⟨s.sb, 0, none⟩)) := ⟨_, rfl⟩
  rw [← e0] at h ⊢
  have z0 := pz e0 hsz
  replace t0 := pk e0 t0
  replace t5 := pk e0 t5
  have t33 := pq e0 hsz
  clear e0 hsz
  refine wpAnyE_take 20 (i := 1) (oi := tak8_o1) (v := .pointer (some ⟨s.sb, 0, none⟩)) rfl (by kernel_rfl) (by kernel_rfl) (by kernel_rfl) (by kernel_rfl) (fun _ _ _ h => h) (Or.inl ⟨by rfl, fun w1 hw => exec_move rfl t0⟩) hHeld ?_
  change wpAnyE _ _ _ _ _ _ _ _ (a0.put (some 34) (.pointer (some ⟨s.sb, 0, none⟩))) _
  obtain ⟨a1, e1⟩ : ∃ act, act = a0.put (some 34) (.pointer (some ⟨s.sb, 0, none⟩)) := ⟨_, rfl⟩
  rw [← e1] at h ⊢
  have z1 := pz e1 z0
  replace t0 := pk e1 t0
  replace t5 := pk e1 t5
  replace t33 := pk e1 t33
  have t34 := pq e1 z0
  clear e1 z0
  refine wpAnyE_take 20 (i := 2) (oi := tak8_o2) (v := .pointer (some ⟨s.sb, 0, none⟩)) rfl (by kernel_rfl) (by kernel_rfl) (by kernel_rfl) (by kernel_rfl) (fun _ _ _ h => h) (Or.inl ⟨by rfl, fun w1 hw => exec_nilCheck rfl t34⟩) hHeld ?_
  change wpAnyE _ _ _ _ _ _ _ _ (a1.put (some 35) (.pointer (some ⟨s.sb, 0, none⟩))) _
  obtain ⟨a2, e2⟩ : ∃ act, act = a1.put (some 35) (.pointer (some ⟨s.sb, 0, none⟩)) := ⟨_, rfl⟩
  rw [← e2] at h ⊢
  have z2 := pz e2 z1
  replace t0 := pk e2 t0
  replace t5 := pk e2 t5
  replace t33 := pk e2 t33
  clear t34
  have t35 := pq e2 z1
  clear e2 z1
  refine wpAnyE_take 20 (i := 3) (oi := tak8_o3) (v := .pointer (some ⟨s.sb, 0, none⟩)) rfl (by kernel_rfl) (by kernel_rfl) (by kernel_rfl) (by kernel_rfl) (fun _ _ _ h => h) (Or.inl ⟨by rfl, fun w1 hw => exec_fieldAt rfl t35 (fg_70_0 _ _ _)⟩) hHeld ?_
  change wpAnyE _ _ _ _ _ _ _ _ (a2.put (some 36) (.pointer (some ⟨s.sb, 0, none⟩))) _
  obtain ⟨a3, e3⟩ : ∃ act, act = a2.put (some 36) (.pointer (some ⟨s.sb, 0, none⟩)) := ⟨_, rfl⟩
  rw [← e3] at h ⊢
  have z3 := pz e3 z2
  replace t0 := pk e3 t0
  replace t5 := pk e3 t5
  replace t33 := pk e3 t33
  clear t35
  have t36 := pq e3 z2
  clear e3 z2
  refine wpAnyE_take 20 (i := 4) (oi := tak8_o4) (v := .map (some s.mb)) rfl (by kernel_rfl) (by kernel_rfl) (by kernel_rfl) (by kernel_rfl) (fun _ _ _ h => h) (Or.inl ⟨by rfl, fun w1 hw => exec_load rfl t36 (ld_map (hw ▸ hS.drew : SeqAt _ s E).c0)⟩) hHeld ?_
  change wpAnyE _ _ _ _ _ _ _ _ (a3.put (some 37) (.map (some s.mb))) _
  obtain ⟨a4, e4⟩ : ∃ act, act = a3.put (some 37) (.map (some s.mb)) := ⟨_, rfl⟩
  rw [← e4] at h ⊢
  have z4 := pz e4 z3
  replace t0 := pk e4 t0
  replace t5 := pk e4 t5
  replace t33 := pk e4 t33
  clear t36
  have t37 := pq e4 z3
  clear e4 z3
  refine wpAnyE_take 20 (i := 5) (oi := tak8_o5) (v := .pointer (some ⟨s.sb, 0, none⟩)) rfl (by kernel_rfl) (by kernel_rfl) (by kernel_rfl) (by kernel_rfl) (fun _ _ _ h => h) (Or.inl ⟨by rfl, fun w1 hw => exec_move rfl t0⟩) hHeld ?_
  change wpAnyE _ _ _ _ _ _ _ _ (a4.put (some 38) (.pointer (some ⟨s.sb, 0, none⟩))) _
  obtain ⟨a5, e5⟩ : ∃ act, act = a4.put (some 38) (.pointer (some ⟨s.sb, 0, none⟩)) := ⟨_, rfl⟩
  rw [← e5] at h ⊢
  have z5 := pz e5 z4
  replace t5 := pk e5 t5
  replace t33 := pk e5 t33
  replace t37 := pk e5 t37
  clear t0
  have t38 := pq e5 z4
  clear e5 z4
  refine wpAnyE_take 20 (i := 6) (oi := tak8_o6) (v := .int .i64 (i : Int)) rfl (by kernel_rfl) (by kernel_rfl) (by kernel_rfl) (by kernel_rfl) (fun _ _ _ h => h) (Or.inl ⟨by rfl, fun w1 hw => exec_move rfl t5⟩) hHeld ?_
  change wpAnyE _ _ _ _ _ _ _ _ (a5.put (some 39) (.int .i64 (i : Int))) _
  obtain ⟨a6, e6⟩ : ∃ act, act = a5.put (some 39) (.int .i64 (i : Int)) := ⟨_, rfl⟩
  rw [← e6] at h ⊢
  have z6 := pz e6 z5
  replace t33 := pk e6 t33
  replace t37 := pk e6 t37
  replace t38 := pk e6 t38
  clear t5
  have t39 := pq e6 z5
  clear e6 z5
  refine wpAnyE_one (j := 7) (o := tak8_o7) (by kernel_rfl) rfl (fun K hK => ?_)
  rw [if_pos (by rfl)]
  unfold tak8_o7 at hK ⊢
  go_simp
  refine (CE).mono ?_
  rintro e x7 ⟨rfl, rfl⟩
  try go_wp2_with fail
  refine hK.out _ _ (fun _ => rfl) (fun hHeld => ?_)
  clear hK K
  replace hHeld := hHeld (by decide)
  change wpAnyE _ _ _ _ _ _ _ _ (a6.put (some 40) (.pointer (some ⟨s.g, 73 * i + 0, none⟩))) _
  obtain ⟨a7, e7⟩ : ∃ act, act = a6.put (some 40) (.pointer (some ⟨s.g, 73 * i + 0, none⟩)) := ⟨_, rfl⟩
  rw [← e7] at h ⊢
  have z7 := pz e7 z6
  replace t33 := pk e7 t33
  replace t37 := pk e7 t37
  clear t38 t39
  have t40 := pq e7 z6
  clear e7 z6
  refine wpAnyE_take 20 (i := 8) (oi := tak8_o8) (v := .pointer (some ⟨s.g, 73 * i + 0, none⟩)) rfl (by kernel_rfl) (by kernel_rfl) (by kernel_rfl) (by kernel_rfl) (fun _ _ _ h => h) (Or.inl ⟨by rfl, fun w1 hw => exec_nilCheck rfl t40⟩) hHeld ?_
  change wpAnyE _ _ _ _ _ _ _ _ (a7.put (some 41) (.pointer (some ⟨s.g, 73 * i + 0, none⟩))) _
  obtain ⟨a8, e8⟩ : ∃ act, act = a7.put (some 41) (.pointer (some ⟨s.g, 73 * i + 0, none⟩)) := ⟨_, rfl⟩
  rw [← e8] at h ⊢
  have z8 := pz e8 z7
  replace t33 := pk e8 t33
  replace t37 := pk e8 t37
  clear t40
  have t41 := pq e8 z7
  clear e8 z7
  refine wpAnyE_take 20 (i := 9) (oi := tak8_o9) (v := .pointer (some ⟨s.g, 73 * i + 0 + 33, none⟩)) rfl (by kernel_rfl) (by kernel_rfl) (by kernel_rfl) (by kernel_rfl) (fun _ _ _ h => h) (Or.inl ⟨by rfl, fun w1 hw => exec_fieldAt rfl t41 (fg_68_1 _ _ _)⟩) hHeld ?_
  change wpAnyE _ _ _ _ _ _ _ _ (a8.put (some 42) (.pointer (some ⟨s.g, 73 * i + 0 + 33, none⟩))) _
  obtain ⟨a9, e9⟩ : ∃ act, act = a8.put (some 42) (.pointer (some ⟨s.g, 73 * i + 0 + 33, none⟩)) := ⟨_, rfl⟩
  rw [← e9] at h ⊢
  have z9 := pz e9 z8
  replace t33 := pk e9 t33
  replace t37 := pk e9 t37
  clear t41
  have t42 := pq e9 z8
  clear e9 z8
  refine wpAnyE_take 20 (i := 10) (oi := tak8_o10) (v := (gt s.L i).kp.bh.v) rfl (by kernel_rfl) (by kernel_rfl) (by kernel_rfl) (by kernel_rfl) (fun _ _ _ h => h) (Or.inl ⟨by rfl, fun w1 hw => exec_load rfl t42 (R_bh (hw ▸ hS.drew : SeqAt _ s E).row hi)⟩) hHeld ?_
  change wpAnyE _ _ _ _ _ _ _ _ (a9.put (some 43) ((gt s.L i).kp.bh.v)) _
  obtain ⟨a10, e10⟩ : ∃ act, act = a9.put (some 43) ((gt s.L i).kp.bh.v) := ⟨_, rfl⟩
  rw [← e10] at h ⊢
  have z10 := pz e10 z9
  replace t33 := pk e10 t33
  replace t37 := pk e10 t37
  clear t42
  have t43 := pq e10 z9
  clear e10 z9
  refine wpAnyE_take 20 (i := 11) (oi := tak8_o11) (v := .int .i64 (j : Int)) rfl (by kernel_rfl) (by kernel_rfl) (by kernel_rfl) (by kernel_rfl) (fun _ _ _ h => h) (Or.inl ⟨by rfl, fun w1 hw => exec_lookup rfl t37 t43 (hw ▸ LJ : (Instr.lookup 62 (.map (some s.mb)) (gt s.L i).kp.bh.v false).run Try.prog w1 = .ok (.int .i64 (j : Int)) w1)⟩) hHeld ?_
  change wpAnyE _ _ _ _ _ _ _ _ (a10.put (some 44) (.int .i64 (j : Int))) _
  obtain ⟨a11, e11⟩ : ∃ act, act = a10.put (some 44) (.int .i64 (j : Int)) := ⟨_, rfl⟩
  rw [← e11] at h ⊢
  have z11 := pz e11 z10
  replace t33 := pk e11 t33
  clear t37 t43
  have t44 := pq e11 z10
  clear e11 z10
  refine wpAnyE_one (j := 12) (o := tak8_o12) (by kernel_rfl) rfl (fun K hK => ?_)
  rw [if_pos (by rfl)]
  unfold tak8_o12 at hK ⊢
  go_simp
  refine (CE2).mono ?_
  rintro e x12 ⟨rfl, rfl⟩
  try go_wp2_with fail
  refine hK.out _ _ (fun _ => rfl) (fun hHeld => ?_)
  clear hK K
  replace hHeld := hHeld (by decide)
  change wpAnyE _ _ _ _ _ _ _ _ (a11.put (some 45) (.pointer (some ⟨s.g, 73 * j + 0, none⟩))) _
  obtain ⟨a12, e12⟩ : ∃ act, act = a11.put (some 45) (.pointer (some ⟨s.g, 73 * j + 0, none⟩)) := ⟨_, rfl⟩
  rw [← e12] at h ⊢
  have z12 := pz e12 z11
  clear t33 t44
  have t45 := pq e12 z11
  clear e12 z11
  refine wpAnyE_take 20 (i := 13) (oi := tak8_o13) (v := .pointer (some ⟨s.g, 73 * j + 0, none⟩)) rfl (by kernel_rfl) (by kernel_rfl) (by kernel_rfl) (by kernel_rfl) (fun _ _ _ h => h) (Or.inl ⟨by rfl, fun w1 hw => exec_nilCheck rfl t45⟩) hHeld ?_
  change wpAnyE _ _ _ _ _ _ _ _ (a12.put (some 46) (.pointer (some ⟨s.g, 73 * j + 0, none⟩))) _
  obtain ⟨a13, e13⟩ : ∃ act, act = a12.put (some 46) (.pointer (some ⟨s.g, 73 * j + 0, none⟩)) := ⟨_, rfl⟩
  rw [← e13] at h ⊢
  have z13 := pz e13 z12
  replace t45 := pk e13 t45
  have t46 := pq e13 z12
  clear e13 z12
  refine wpAnyE_take 20 (i := 14) (oi := tak8_o14) (v := .pointer (some ⟨s.g, 73 * j + 0 + 66, none⟩)) rfl (by kernel_rfl) (by kernel_rfl) (by kernel_rfl) (by kernel_rfl) (fun _ _ _ h => h) (Or.inl ⟨by rfl, fun w1 hw => exec_fieldAt rfl t46 (fg_68_2 _ _ _)⟩) hHeld ?_
  change wpAnyE _ _ _ _ _ _ _ _ (a13.put (some 47) (.pointer (some ⟨s.g, 73 * j + 0 + 66, none⟩))) _
  obtain ⟨a14, e14⟩ : ∃ act, act = a13.put (some 47) (.pointer (some ⟨s.g, 73 * j + 0 + 66, none⟩)) := ⟨_, rfl⟩
  rw [← e14] at h ⊢
  have z14 := pz e14 z13
  replace t45 := pk e14 t45
  clear t46
  have t47 := pq e14 z13
  clear e14 z13
  refine wpAnyE_take 20 (i := 15) (oi := tak8_o15) (v := .int .i64 (gt s.L j).kp.fol) rfl (by kernel_rfl) (by kernel_rfl) (by kernel_rfl) (by kernel_rfl) (fun _ _ _ h => h) (Or.inl ⟨by rfl, fun w1 hw => exec_load rfl t47 (R_fol (hw ▸ hS.drew : SeqAt _ s E).row hj)⟩) hHeld ?_
  change wpAnyE _ _ _ _ _ _ _ _ (a14.put (some 48) (.int .i64 (gt s.L j).kp.fol)) _
  obtain ⟨a15, e15⟩ : ∃ act, act = a14.put (some 48) (.int .i64 (gt s.L j).kp.fol) := ⟨_, rfl⟩
  rw [← e15] at h ⊢
  have z15 := pz e15 z14
  replace t45 := pk e15 t45
  clear t47
  have t48 := pq e15 z14
  clear e15 z14
  refine wpAnyE_take 20 (i := 16) (oi := tak8_o16) (v := .int .i64 ((gt s.L j).kp.fol - 1)) rfl (by kernel_rfl) (by kernel_rfl) (by kernel_rfl) (by kernel_rfl) (fun _ _ _ h => h) (Or.inl ⟨by rfl, fun w1 hw => ex_sub rfl t48 rfl hf⟩) hHeld ?_
  change wpAnyE _ _ _ _ _ _ _ _ (a15.put (some 49) (.int .i64 ((gt s.L j).kp.fol - 1))) _
  obtain ⟨a16, e16⟩ : ∃ act, act = a15.put (some 49) (.int .i64 ((gt s.L j).kp.fol - 1)) := ⟨_, rfl⟩
  rw [← e16] at h ⊢
  have z16 := pz e16 z15
  replace t45 := pk e16 t45
  clear t48
  have t49 := pq e16 z15
  clear e16 z15
  refine wpAnyE_take 20 (i := 17) (oi := tak8_o17) (v := .pointer (some ⟨s.g, 73 * j + 0, none⟩)) rfl (by kernel_rfl) (by kernel_rfl) (by kernel_rfl) (by kernel_rfl) (fun _ _ _ h => h) (Or.inl ⟨by rfl, fun w1 hw => exec_nilCheck rfl t45⟩) hHeld ?_
  change wpAnyE _ _ _ _ _ _ _ _ (a16.put (some 50) (.pointer (some ⟨s.g, 73 * j + 0, none⟩))) _
  obtain ⟨a17, e17⟩ : ∃ act, act = a16.put (some 50) (.pointer (some ⟨s.g, 73 * j + 0, none⟩)) := ⟨_, rfl⟩
  rw [← e17] at h ⊢
  have z17 := pz e17 z16
  replace t49 := pk e17 t49
  clear t45
  have t50 := pq e17 z16
  clear e17 z16
  refine wpAnyE_take 20 (i := 18) (oi := tak8_o18) (v := .pointer (some ⟨s.g, 73 * j + 0 + 66, none⟩)) rfl (by kernel_rfl) (by kernel_rfl) (by kernel_rfl) (by kernel_rfl) (fun _ _ _ h => h) (Or.inl ⟨by rfl, fun w1 hw => exec_fieldAt rfl t50 (fg_68_2 _ _ _)⟩) hHeld ?_
  change wpAnyE _ _ _ _ _ _ _ _ (a17.put (some 51) (.pointer (some ⟨s.g, 73 * j + 0 + 66, none⟩))) _
  obtain ⟨a18, e18⟩ : ∃ act, act = a17.put (some 51) (.pointer (some ⟨s.g, 73 * j + 0 + 66, none⟩)) := ⟨_, rfl⟩
  rw [← e18] at h ⊢
  have z18 := pz e18 z17
  replace t49 := pk e18 t49
  clear t50
  have t51 := pq e18 z17
  clear e18 z17
  refine wpAnyE_one (j := 19) (o := tak8_o19) (by kernel_rfl) rfl (fun K hK => ?_)
  have XX := exec_store (P := Try.prog) (a := a18) (o := tak8_o19) rfl t51 t49 ES
  rw [if_pos (by rfl), Oper.wp, XX]
  show K _ _
  clear XX
  refine hK.out _ _ (fun hne => absurd rfl hne) (fun hHeld => ?_)
  clear hK K
  exact wpAnyE_done (by kernel_rfl) (NoPanic.normal (h _ _ (rfl) rfl)) _
def tak9_o0 : Oper := { dst := some 52, op := Op.move (Operand.tmp 0), type := 23, pos := "seq.go:65", after := #[], guard := none }
def tak9_o1 : Oper := { dst := some 53, op := Op.nilCheck (Operand.tmp 52), type := 0, pos := "seq.go:65", after := #[{ on := 0, ground := Ground.data }], guard := none }
def tak9_o2 : Oper := { dst := some 54, op := Op.fieldAddr 70 (Operand.tmp 53) 1, type := 0, pos := "seq.go:65", after := #[{ on := 1, ground := Ground.data }], guard := none }
def tak9_o3 : Oper := { dst := some 55, op := Op.move (Operand.tmp 5), type := 3, pos := "seq.go:65", after := #[], guard := none }
def tak9_o4 : Oper := { dst := some 56, op := Op.call { callee := Callee.value (Operand.func 39), args := #[Operand.tmp 54, Operand.tmp 55], argTypes := #[65, 3] }, type := 0, pos := "seq.go:65", after := #[{ on := 2, ground := Ground.data }, { on := 3, ground := Ground.data }], guard := none }
def tak9_ops : Array Oper := #[tak9_o0, tak9_o1, tak9_o2, tak9_o3, tak9_o4]
set_option maxRecDepth 100000 in
set_option maxHeartbeats 4000000 in
theorem tak9 {s : Sx} {i : Nat} (Fin : World → Prop) (a : Act) (w : World) (Q : Exit → Act → World → Prop) (hsz : a.tmps.size = 65)
    (t0 : a.tmps.getD 0 undef = .pointer (some ⟨s.sb, 0, none⟩))
    (t5 : a.tmps.getD 5 undef = .int .i64 (i : Int))
    (CT : Calls Try.prog 39 #[.pointer (some ⟨s.sb, 1, none⟩), .int .i64 (i : Int)] w fun e w' => e = .returned (.tuple #[]) ∧ Fin w')
    (h : ∀ (a' : Act) (w' : World), Fin w' → a' = (((((a).put (some 52) (.pointer (some ⟨s.sb, 0, none⟩))).put (some 53) (.pointer (some ⟨s.sb, 0, none⟩))).put (some 54) (.pointer (some ⟨s.sb, 1, none⟩))).put (some 55) (.int .i64 (i : Int))).put (some 56) (.tuple #[]) → Q .normal a' w') :
    (Code.region 9 tak9_ops false).wp Try.prog Q a w := by
  refine wp_region_list ?_
  change wpList _ _ _ [tak9_o0, tak9_o1, tak9_o2, tak9_o3, tak9_o4] _ _
  refine qv (v := .pointer (some ⟨s.sb, 0, none⟩)) (by rfl) (exec_move rfl t0) (fun a0 e0 => ?_)
  rw [← e0] at h
  have z0 := pz e0 hsz
  replace t5 := pk e0 t5
  clear t0
  have t52 := pq e0 hsz
  clear e0 hsz
  refine qv (v := .pointer (some ⟨s.sb, 0, none⟩)) (by rfl) (exec_nilCheck rfl t52) (fun a1 e1 => ?_)
  rw [← e1] at h
  have z1 := pz e1 z0
  replace t5 := pk e1 t5
  clear t52
  have t53 := pq e1 z0
  clear e1 z0
  refine qv (v := .pointer (some ⟨s.sb, 1, none⟩)) (by rfl) (exec_fieldAt rfl t53 (fg_70_1 _ _ _)) (fun a2 e2 => ?_)
  rw [← e2] at h
  have z2 := pz e2 z1
  replace t5 := pk e2 t5
  clear t53
  have t54 := pq e2 z1
  clear e2 z1
  refine qv (v := .int .i64 (i : Int)) (by rfl) (exec_move rfl t5) (fun a3 e3 => ?_)
  rw [← e3] at h
  have z3 := pz e3 z2
  replace t54 := pk e3 t54
  clear t5
  have t55 := pq e3 z2
  clear e3 z2
  refine qc (by rfl) (by unfold tak9_o4; go_simp) (CT) (fun e x4 hx => ?_)
  obtain ⟨rfl, HF⟩ := hx
  refine ⟨_, rfl, fun a4 e4 => ?_⟩
  rw [← e4] at h
  have z4 := pz e4 z3
  clear t54 t55
  clear e4 z3
  exact wpList_nil (h _ _ (HF) rfl)
def tak10_o0 : Oper := { dst := some 57, op := Op.move (Operand.tmp 0), type := 23, pos := "seq.go:66", after := #[], guard := none }
def tak10_o1 : Oper := { dst := some 58, op := Op.nilCheck (Operand.tmp 57), type := 0, pos := "seq.go:66", after := #[{ on := 0, ground := Ground.data }], guard := none }
def tak10_o2 : Oper := { dst := some 59, op := Op.fieldAddr 70 (Operand.tmp 58) 0, type := 0, pos := "seq.go:66", after := #[{ on := 1, ground := Ground.data }], guard := none }
def tak10_o3 : Oper := { dst := some 60, op := Op.load 62 (Operand.tmp 59), type := 62, pos := "seq.go:66", after := #[{ on := 2, ground := Ground.data }], guard := none }
def tak10_o4 : Oper := { dst := some 61, op := Op.load 32 (Operand.tmp 3), type := 32, pos := "seq.go:66", after := #[], guard := none }
def tak10_o5 : Oper := { dst := none, op := Op.call { callee := Callee.builtin Builtin.delete, args := #[Operand.tmp 60, Operand.tmp 61], argTypes := #[62, 32] }, type := 0, pos := "seq.go:66", after := #[{ on := 3, ground := Ground.data }, { on := 4, ground := Ground.data }], guard := none }
def tak10_ops : Array Oper := #[tak10_o0, tak10_o1, tak10_o2, tak10_o3, tak10_o4, tak10_o5]
set_option maxRecDepth 100000 in
set_option maxHeartbeats 4000000 in
theorem tak10 {s : Sx} {b1 : Nat} {k : IdK} {w2 : World} (a : Act) (w : World) (Q : Exit → Act → World → Prop) (hsz : a.tmps.size = 65)
    (t0 : a.tmps.getD 0 undef = .pointer (some ⟨s.sb, 0, none⟩))
    (t3 : a.tmps.getD 3 undef = .pointer (some ⟨b1, 0, none⟩))
    (hc : w.cell? ⟨s.sb, 0, none⟩ = some (.map (some s.mb))) (hk : k.ok) (ib1 : IdAt w b1 k) (ED : (Builtin.delete_ #[62, 32] 0 #[.map (some s.mb), k.v]).run Try.prog w.drew = .ok (.tuple #[]) w2)
    (h : ∀ (a' : Act) (w' : World), w' = w2 → a' = (((((a).put (some 57) (.pointer (some ⟨s.sb, 0, none⟩))).put (some 58) (.pointer (some ⟨s.sb, 0, none⟩))).put (some 59) (.pointer (some ⟨s.sb, 0, none⟩))).put (some 60) (.map (some s.mb))).put (some 61) (k.v) → Q .normal a' w') :
    (Code.region 10 tak10_ops true).wp Try.prog Q a w := by
  refine wp_region_noPanic ?_
  refine wp_region_E 5 (S := fun w' => w' = w.drew) (by kernel_rfl) (rfl) (fun hHeld => ?_)
  refine wpAnyE_take 6 (i := 0) (oi := tak10_o0) (v := .pointer (some ⟨s.sb, 0, none⟩)) rfl (by kernel_rfl) (by kernel_rfl) (by kernel_rfl) (by kernel_rfl) (fun _ _ _ h => h) (Or.inl ⟨by rfl, fun w1 hw => exec_move rfl t0⟩) hHeld ?_
  change wpAnyE _ _ _ _ _ _ _ _ (a.put (some 57) (.pointer (some ⟨s.sb, 0, none⟩))) _
  obtain ⟨a0, e0⟩ : ∃ act, act = a.put (some 57) (.pointer (some ⟨s.sb, 0, none⟩)) := ⟨_, rfl⟩
  rw [← e0] at h ⊢
  have z0 := pz e0 hsz
  replace t3 := pk e0 t3
  clear t0
  have t57 := pq e0 hsz
  clear e0 hsz
  refine wpAnyE_take 6 (i := 1) (oi := tak10_o1) (v := .pointer (some ⟨s.sb, 0, none⟩)) rfl (by kernel_rfl) (by kernel_rfl) (by kernel_rfl) (by kernel_rfl) (fun _ _ _ h => h) (Or.inl ⟨by rfl, fun w1 hw => exec_nilCheck rfl t57⟩) hHeld ?_
  change wpAnyE _ _ _ _ _ _ _ _ (a0.put (some 58) (.pointer (some ⟨s.sb, 0, none⟩))) _
  obtain ⟨a1, e1⟩ : ∃ act, act = a0.put (some 58) (.pointer (some ⟨s.sb, 0, none⟩)) := ⟨_, rfl⟩
  rw [← e1] at h ⊢
  have z1 := pz e1 z0
  replace t3 := pk e1 t3
  clear t57
  have t58 := pq e1 z0
  clear e1 z0
  refine wpAnyE_take 6 (i := 2) (oi := tak10_o2) (v := .pointer (some ⟨s.sb, 0, none⟩)) rfl (by kernel_rfl) (by kernel_rfl) (by kernel_rfl) (by kernel_rfl) (fun _ _ _ h => h) (Or.inl ⟨by rfl, fun w1 hw => exec_fieldAt rfl t58 (fg_70_0 _ _ _)⟩) hHeld ?_
  change wpAnyE _ _ _ _ _ _ _ _ (a1.put (some 59) (.pointer (some ⟨s.sb, 0, none⟩))) _
  obtain ⟨a2, e2⟩ : ∃ act, act = a1.put (some 59) (.pointer (some ⟨s.sb, 0, none⟩)) := ⟨_, rfl⟩
  rw [← e2] at h ⊢
  have z2 := pz e2 z1
  replace t3 := pk e2 t3
  clear t58
  have t59 := pq e2 z1
  clear e2 z1
  refine wpAnyE_take 6 (i := 3) (oi := tak10_o3) (v := .map (some s.mb)) rfl (by kernel_rfl) (by kernel_rfl) (by kernel_rfl) (by kernel_rfl) (fun _ _ _ h => h) (Or.inl ⟨by rfl, fun w1 hw => exec_load rfl t59 (ld_map (hw ▸ hc : World.cell? _ ⟨s.sb, 0, none⟩ = _))⟩) hHeld ?_
  change wpAnyE _ _ _ _ _ _ _ _ (a2.put (some 60) (.map (some s.mb))) _
  obtain ⟨a3, e3⟩ : ∃ act, act = a2.put (some 60) (.map (some s.mb)) := ⟨_, rfl⟩
  rw [← e3] at h ⊢
  have z3 := pz e3 z2
  replace t3 := pk e3 t3
  clear t59
  have t60 := pq e3 z2
  clear e3 z2
  refine wpAnyE_take 6 (i := 4) (oi := tak10_o4) (v := k.v) rfl (by kernel_rfl) (by kernel_rfl) (by kernel_rfl) (by kernel_rfl) (fun _ _ _ h => h) (Or.inl ⟨by rfl, fun w1 hw => exec_load rfl t3 (load_id hk (hw ▸ ib1 : IdAt _ b1 k))⟩) hHeld ?_
  change wpAnyE _ _ _ _ _ _ _ _ (a3.put (some 61) (k.v)) _
  obtain ⟨a4, e4⟩ : ∃ act, act = a3.put (some 61) (k.v) := ⟨_, rfl⟩
  rw [← e4] at h ⊢
  have z4 := pz e4 z3
  replace t60 := pk e4 t60
  clear t3
  have t61 := pq e4 z3
  clear e4 z3
  refine wpAnyE_one (j := 5) (o := tak10_o5) (by kernel_rfl) rfl (fun K hK => ?_)
  have XX := exec_delete (P := Try.prog) (a := a4) (o := tak10_o5) rfl t60 t61 ED
  rw [if_pos (by rfl), Oper.wp, XX]
  show K _ _
  clear XX
  refine hK.out _ _ (fun hne => absurd rfl hne) (fun hHeld => ?_)
  clear hK K
  exact wpAnyE_done (by kernel_rfl) (NoPanic.normal (h _ _ (rfl) rfl)) _
def tak11_o0 : Oper := { dst := some 62, op := Op.move (Operand.tmp 0), type := 23, pos := "seq.go:67", after := #[], guard := none }
def tak11_o1 : Oper := { dst := some 63, op := Op.move (Operand.tmp 5), type := 3, pos := "seq.go:67", after := #[], guard := none }
def tak11_o2 : Oper := { dst := some 64, op := Op.call { callee := Callee.value (Operand.func 40), args := #[Operand.tmp 62, Operand.tmp 63], argTypes := #[23, 3] }, type := 0, pos := "seq.go:67", after := #[{ on := 0, ground := Ground.data }, { on := 1, ground := Ground.data }], guard := none }
def tak11_ops : Array Oper := #[tak11_o0, tak11_o1, tak11_o2]
set_option maxRecDepth 100000 in
set_option maxHeartbeats 4000000 in
theorem tak11 {s : Sx} {i : Nat} (Fin : World → Prop) (a : Act) (w : World) (Q : Exit → Act → World → Prop) (hsz : a.tmps.size = 65)
    (t0 : a.tmps.getD 0 undef = .pointer (some ⟨s.sb, 0, none⟩))
    (t5 : a.tmps.getD 5 undef = .int .i64 (i : Int))
    (CF : Calls Try.prog 40 #[.pointer (some ⟨s.sb, 0, none⟩), .int .i64 (i : Int)] w fun e w' => e = .returned (.tuple #[]) ∧ Fin w')
    (h : ∀ (a' : Act) (w' : World), Fin w' → a' = (((a).put (some 62) (.pointer (some ⟨s.sb, 0, none⟩))).put (some 63) (.int .i64 (i : Int))).put (some 64) (.tuple #[]) → Q .normal a' w') :
    (Code.region 11 tak11_ops false).wp Try.prog Q a w := by
  refine wp_region_list ?_
  change wpList _ _ _ [tak11_o0, tak11_o1, tak11_o2] _ _
  refine qv (v := .pointer (some ⟨s.sb, 0, none⟩)) (by rfl) (exec_move rfl t0) (fun a0 e0 => ?_)
  rw [← e0] at h
  have z0 := pz e0 hsz
  replace t5 := pk e0 t5
  clear t0
  have t62 := pq e0 hsz
  clear e0 hsz
  refine qv (v := .int .i64 (i : Int)) (by rfl) (exec_move rfl t5) (fun a1 e1 => ?_)
  rw [← e1] at h
  have z1 := pz e1 z0
  replace t62 := pk e1 t62
  clear t5
  have t63 := pq e1 z0
  clear e1 z0
  refine qc (by rfl) (by unfold tak11_o2; go_simp) (CF) (fun e x2 hx => ?_)
  obtain ⟨rfl, HF⟩ := hx
  refine ⟨_, rfl, fun a2 e2 => ?_⟩
  rw [← e2] at h
  have z2 := pz e2 z1
  clear t62 t63
  clear e2 z1
  exact wpList_nil (h _ _ (HF) rfl)
def fol0_o0 : Oper := { dst := some 4, op := Op.move (Operand.tmp 1), type := 3, pos := "seq.go:73", after := #[], guard := none }
def fol0_o1 : Oper := { dst := some 5, op := Op.move (Operand.tmp 0), type := 23, pos := "seq.go:73", after := #[], guard := none }
def fol0_o2 : Oper := { dst := some 6, op := Op.nilCheck (Operand.tmp 5), type := 0, pos := "seq.go:73", after := #[{ on := 1, ground := Ground.data }], guard := none }
def fol0_o3 : Oper := { dst := some 7, op := Op.fieldAddr 70 (Operand.tmp 6) 1, type := 0, pos := "seq.go:73", after := #[{ on := 2, ground := Ground.data }], guard := none }
def fol0_o4 : Oper := { dst := some 8, op := Op.fieldAddr 65 (Operand.tmp 7) 0, type := 0, pos := "seq.go:73", after := #[{ on := 3, ground := Ground.data }], guard := none }
def fol0_o5 : Oper := { dst := some 9, op := Op.load 63 (Operand.tmp 8), type := 63, pos := "seq.go:73", after := #[{ on := 4, ground := Ground.data }], guard := none }
def fol0_o6 : Oper := { dst := some 10, op := Op.call { callee := Callee.builtin Builtin.len, args := #[Operand.tmp 9], argTypes := #[63] }, type := 3, pos := "seq.go:73", after := #[{ on := 5, ground := Ground.data }], guard := none }
def fol0_o7 : Oper := { dst := some 11, op := Op.binOp BinOp.lss 3 (Operand.tmp 4) (Operand.tmp 10) 3, type := 4, pos := "seq.go:73", after := #[{ on := 0, ground := Ground.data }, { on := 6, ground := Ground.data }], guard := none }
def fol0_ops : Array Oper := #[fol0_o0, fol0_o1, fol0_o2, fol0_o3, fol0_o4, fol0_o5, fol0_o6, fol0_o7]
set_option maxRecDepth 100000 in
set_option maxHeartbeats 4000000 in
theorem fol0 {s : Sx} {i : Nat} {r : Bool} (a : Act) (w : World) (Q : Exit → Act → World → Prop) (hsz : a.tmps.size = 23)
    (t0 : a.tmps.getD 0 undef = .pointer (some ⟨s.sb, 0, none⟩))
    (t1 : a.tmps.getD 1 undef = .int .i64 (i : Int))
    (hR : SqAt w s.sb 1 s.g s.cap s.L) (hr : decide ((i : Int) < (s.L.length : Int)) = r)
    (h : ∀ (a' : Act) (w' : World), w' = w → a' = ((((((((a).put (some 4) (.int .i64 (i : Int))).put (some 5) (.pointer (some ⟨s.sb, 0, none⟩))).put (some 6) (.pointer (some ⟨s.sb, 0, none⟩))).put (some 7) (.pointer (some ⟨s.sb, 1, none⟩))).put (some 8) (.pointer (some ⟨s.sb, 1, none⟩))).put (some 9) (.slice (some ⟨s.g, 0, none⟩) (s.L).length s.cap)).put (some 10) (.int .i64 (s.L.length : Int))).put (some 11) (.bool r) → Q .normal a' w') :
    (Code.region 0 fol0_ops false).wp Try.prog Q a w := by
  refine wp_region_list ?_
  change wpList _ _ _ [fol0_o0, fol0_o1, fol0_o2, fol0_o3, fol0_o4, fol0_o5, fol0_o6, fol0_o7] _ _
  refine qv (v := .int .i64 (i : Int)) (by rfl) (exec_move rfl t1) (fun a0 e0 => ?_)
  rw [← e0] at h
  have z0 := pz e0 hsz
  replace t0 := pk e0 t0
  clear t1
  have t4 := pq e0 hsz
  clear e0 hsz
  refine qv (v := .pointer (some ⟨s.sb, 0, none⟩)) (by rfl) (exec_move rfl t0) (fun a1 e1 => ?_)
  rw [← e1] at h
  have z1 := pz e1 z0
  replace t4 := pk e1 t4
  clear t0
  have t5 := pq e1 z0
  clear e1 z0
  refine qv (v := .pointer (some ⟨s.sb, 0, none⟩)) (by rfl) (exec_nilCheck rfl t5) (fun a2 e2 => ?_)
  rw [← e2] at h
  have z2 := pz e2 z1
  replace t4 := pk e2 t4
  clear t5
  have t6 := pq e2 z1
  clear e2 z1
  refine qv (v := .pointer (some ⟨s.sb, 1, none⟩)) (by rfl) (exec_fieldAt rfl t6 (fg_70_1 _ _ _)) (fun a3 e3 => ?_)
  rw [← e3] at h
  have z3 := pz e3 z2
  replace t4 := pk e3 t4
  clear t6
  have t7 := pq e3 z2
  clear e3 z2
  refine qv (v := .pointer (some ⟨s.sb, 1, none⟩)) (by rfl) (exec_fieldAt rfl t7 (fg_65_0 _ _ _)) (fun a4 e4 => ?_)
  rw [← e4] at h
  have z4 := pz e4 z3
  replace t4 := pk e4 t4
  clear t7
  have t8 := pq e4 z3
  clear e4 z3
  refine qv (v := .slice (some ⟨s.g, 0, none⟩) (s.L).length s.cap) (by rfl) (exec_load rfl t8 (R_sl hR)) (fun a5 e5 => ?_)
  rw [← e5] at h
  have z5 := pz e5 z4
  replace t4 := pk e5 t4
  clear t8
  have t9 := pq e5 z4
  clear e5 z4
  refine qv (v := .int .i64 (s.L.length : Int)) (by rfl) (exec_len rfl t9 (len_sl _)) (fun a6 e6 => ?_)
  rw [← e6] at h
  have z6 := pz e6 z5
  replace t4 := pk e6 t4
  clear t9
  have t10 := pq e6 z5
  clear e6 z5
  refine qv (v := .bool r) (by rfl) (ex_lss rfl t4 t10 hr) (fun a7 e7 => ?_)
  rw [← e7] at h
  have z7 := pz e7 z6
  clear t4 t10
  clear e7 z6
  exact wpList_nil (h _ _ (rfl) rfl)
def fol1_o0 : Oper := { dst := some 12, op := Op.move (Operand.tmp 0), type := 23, pos := "seq.go:74", after := #[], guard := none }
def fol1_o1 : Oper := { dst := some 13, op := Op.nilCheck (Operand.tmp 12), type := 0, pos := "seq.go:74", after := #[{ on := 0, ground := Ground.data }], guard := none }
def fol1_o2 : Oper := { dst := some 14, op := Op.fieldAddr 70 (Operand.tmp 13) 0, type := 0, pos := "seq.go:74", after := #[{ on := 1, ground := Ground.data }], guard := none }
def fol1_o3 : Oper := { dst := some 15, op := Op.load 62 (Operand.tmp 14), type := 62, pos := "seq.go:74", after := #[{ on := 2, ground := Ground.data }], guard := none }
def fol1_o4 : Oper := { dst := some 16, op := Op.move (Operand.tmp 0), type := 23, pos := "seq.go:74", after := #[], guard := none }
def fol1_o5 : Oper := { dst := some 17, op := Op.move (Operand.tmp 1), type := 3, pos := "seq.go:74", after := #[], guard := none }
def fol1_o6 : Oper := { dst := some 18, op := Op.call { callee := Callee.value (Operand.func 36), args := #[Operand.tmp 16, Operand.tmp 17], argTypes := #[23, 3] }, type := 74, pos := "seq.go:74", after := #[{ on := 4, ground := Ground.data }, { on := 5, ground := Ground.data }], guard := none }
def fol1_o7 : Oper := { dst := some 19, op := Op.nilCheck (Operand.tmp 18), type := 0, pos := "seq.go:74", after := #[{ on := 6, ground := Ground.data }], guard := none }
def fol1_o8 : Oper := { dst := some 20, op := Op.fieldAddr 68 (Operand.tmp 19) 0, type := 0, pos := "seq.go:74", after := #[{ on := 7, ground := Ground.data }], guard := none }
def fol1_o9 : Oper := { dst := some 21, op := Op.load 32 (Operand.tmp 20), type := 32, pos := "seq.go:74", after := #[{ on := 8, ground := Ground.data }], guard := none }
def fol1_o10 : Oper := { dst := some 22, op := Op.move (Operand.tmp 1), type := 3, pos := "seq.go:74", after := #[], guard := none }
def fol1_o11 : Oper := { dst := none, op := Op.mapUpdate 62 (Operand.tmp 15) (Operand.tmp 21) (Operand.tmp 22), type := 0, pos := "seq.go:74", after := #[{ on := 3, ground := Ground.data }, { on := 9, ground := Ground.data }, { on := 10, ground := Ground.data }, { on := 6, ground := Ground.chain }, { on := 0, ground := Ground.phase }, { on := 1, ground := Ground.phase }, { on := 2, ground := Ground.phase }, { on := 3, ground := Ground.phase }, { on := 4, ground := Ground.phase }, { on := 5, ground := Ground.phase }, { on := 6, ground := Ground.phase }, { on := 7, ground := Ground.phase }, { on := 8, ground := Ground.phase }, { on := 9, ground := Ground.phase }, { on := 10, ground := Ground.phase }], guard := none }
def fol1_ops : Array Oper := #[fol1_o0, fol1_o1, fol1_o2, fol1_o3, fol1_o4, fol1_o5, fol1_o6, fol1_o7, fol1_o8, fol1_o9, fol1_o10, fol1_o11]
set_option maxRecDepth 100000 in
set_option maxHeartbeats 4000000 in
theorem fol1 {s : Sx} {i : Nat} {w2 : World} (a : Act) (w : World) (Q : Exit → Act → World → Prop) (hsz : a.tmps.size = 23)
    (t0 : a.tmps.getD 0 undef = .pointer (some ⟨s.sb, 0, none⟩))
    (t1 : a.tmps.getD 1 undef = .int .i64 (i : Int))
    (hR : SqAt w s.sb 1 s.g s.cap s.L) (hc : w.cell? ⟨s.sb, 0, none⟩ = some (.map (some s.mb))) (hi : i < s.L.length) (CE : Calls Try.prog 36 #[.pointer (some ⟨s.sb, 0, none⟩), .int .i64 (i : Int)] w.drew fun e w' => e = .returned (.pointer (some ⟨s.g, 73 * i + 0, none⟩)) ∧ w' = w.drew) (EM : (Instr.mapUpdate 62 (.map (some s.mb)) (gt s.L i).kp.id.v (.int .i64 (i : Int))).run Try.prog w.drew = .ok () w2)
    (h : ∀ (a' : Act) (w' : World), w' = w2 → a' = (((((((((((a).put (some 12) (.pointer (some ⟨s.sb, 0, none⟩))).put (some 13) (.pointer (some ⟨s.sb, 0, none⟩))).put (some 14) (.pointer (some ⟨s.sb, 0, none⟩))).put (some 15) (.map (some s.mb))).put (some 16) (.pointer (some ⟨s.sb, 0, none⟩))).put (some 17) (.int .i64 (i : Int))).put (some 22) (.int .i64 (i : Int))).put (some 18) (.pointer (some ⟨s.g, 73 * i + 0, none⟩))).put (some 19) (.pointer (some ⟨s.g, 73 * i + 0, none⟩))).put (some 20) (.pointer (some ⟨s.g, 73 * i + 0 + 0, none⟩))).put (some 21) ((gt s.L i).kp.id.v) → Q .normal a' w') :
    (Code.region 1 fol1_ops true).wp Try.prog Q a w := by
  refine wp_region_noPanic ?_
  refine wp_region_E 11 (S := fun w' => w' = w.drew) (by kernel_rfl) (rfl) (fun hHeld => ?_)
  refine wpAnyE_take 12 (i := 0) (oi := fol1_o0) (v := .pointer (some ⟨s.sb, 0, none⟩)) rfl (by kernel_rfl) (by kernel_rfl) (by kernel_rfl) (by kernel_rfl) (fun _ _ _ h => h) (Or.inl ⟨by rfl, fun w1 hw => exec_move rfl t0⟩) hHeld ?_
  change wpAnyE _ _ _ _ _ _ _ _ (a.put (some 12) (.pointer (some ⟨s.sb, 0, none⟩))) _
  obtain ⟨a0, e0⟩ : ∃ act, act = a.put (some 12) (.pointer (some ⟨s.sb, 0, none⟩)) := ⟨_, rfl⟩
  rw [← e0] at h ⊢
  have z0 := pz e0 hsz
  replace t0 := pk e0 t0
  replace t1 := pk e0 t1
  have t12 := pq e0 hsz
  clear e0 hsz
  refine wpAnyE_take 12 (i := 1) (oi := fol1_o1) (v := .pointer (some ⟨s.sb, 0, none⟩)) rfl (by kernel_rfl) (by kernel_rfl) (by kernel_rfl) (by kernel_rfl) (fun _ _ _ h => h) (Or.inl ⟨by rfl, fun w1 hw => exec_nilCheck rfl t12⟩) hHeld ?_
  change wpAnyE _ _ _ _ _ _ _ _ (a0.put (some 13) (.pointer (some ⟨s.sb, 0, none⟩))) _
  obtain ⟨a1, e1⟩ : ∃ act, act = a0.put (some 13) (.pointer (some ⟨s.sb, 0, none⟩)) := ⟨_, rfl⟩
  rw [← e1] at h ⊢
  have z1 := pz e1 z0
  replace t0 := pk e1 t0
  replace t1 := pk e1 t1
  clear t12
  have t13 := pq e1 z0
  clear e1 z0
  refine wpAnyE_take 12 (i := 2) (oi := fol1_o2) (v := .pointer (some ⟨s.sb, 0, none⟩)) rfl (by kernel_rfl) (by kernel_rfl) (by kernel_rfl) (by kernel_rfl) (fun _ _ _ h => h) (Or.inl ⟨by rfl, fun w1 hw => exec_fieldAt rfl t13 (fg_70_0 _ _ _)⟩) hHeld ?_
  change wpAnyE _ _ _ _ _ _ _ _ (a1.put (some 14) (.pointer (some ⟨s.sb, 0, none⟩))) _
  obtain ⟨a2, e2⟩ : ∃ act, act = a1.put (some 14) (.pointer (some ⟨s.sb, 0, none⟩)) := ⟨_, rfl⟩
  rw [← e2] at h ⊢
  have z2 := pz e2 z1
  replace t0 := pk e2 t0
  replace t1 := pk e2 t1
  clear t13
  have t14 := pq e2 z1
  clear e2 z1
  refine wpAnyE_take 12 (i := 3) (oi := fol1_o3) (v := .map (some s.mb)) rfl (by kernel_rfl) (by kernel_rfl) (by kernel_rfl) (by kernel_rfl) (fun _ _ _ h => h) (Or.inl ⟨by rfl, fun w1 hw => exec_load rfl t14 (ld_map (hw ▸ hc : World.cell? _ ⟨s.sb, 0, none⟩ = _))⟩) hHeld ?_
  change wpAnyE _ _ _ _ _ _ _ _ (a2.put (some 15) (.map (some s.mb))) _
  obtain ⟨a3, e3⟩ : ∃ act, act = a2.put (some 15) (.map (some s.mb)) := ⟨_, rfl⟩
  rw [← e3] at h ⊢
  have z3 := pz e3 z2
  replace t0 := pk e3 t0
  replace t1 := pk e3 t1
  clear t14
  have t15 := pq e3 z2
  clear e3 z2
  refine wpAnyE_take 12 (i := 4) (oi := fol1_o4) (v := .pointer (some ⟨s.sb, 0, none⟩)) rfl (by kernel_rfl) (by kernel_rfl) (by kernel_rfl) (by kernel_rfl) (fun _ _ _ h => h) (Or.inl ⟨by rfl, fun w1 hw => exec_move rfl t0⟩) hHeld ?_
  change wpAnyE _ _ _ _ _ _ _ _ (a3.put (some 16) (.pointer (some ⟨s.sb, 0, none⟩))) _
  obtain ⟨a4, e4⟩ : ∃ act, act = a3.put (some 16) (.pointer (some ⟨s.sb, 0, none⟩)) := ⟨_, rfl⟩
  rw [← e4] at h ⊢
  have z4 := pz e4 z3
  replace t1 := pk e4 t1
  replace t15 := pk e4 t15
  clear t0
  have t16 := pq e4 z3
  clear e4 z3
  refine wpAnyE_take 12 (i := 5) (oi := fol1_o5) (v := .int .i64 (i : Int)) rfl (by kernel_rfl) (by kernel_rfl) (by kernel_rfl) (by kernel_rfl) (fun _ _ _ h => h) (Or.inl ⟨by rfl, fun w1 hw => exec_move rfl t1⟩) hHeld ?_
  change wpAnyE _ _ _ _ _ _ _ _ (a4.put (some 17) (.int .i64 (i : Int))) _
  obtain ⟨a5, e5⟩ : ∃ act, act = a4.put (some 17) (.int .i64 (i : Int)) := ⟨_, rfl⟩
  rw [← e5] at h ⊢
  have z5 := pz e5 z4
  replace t1 := pk e5 t1
  replace t15 := pk e5 t15
  replace t16 := pk e5 t16
  have t17 := pq e5 z4
  clear e5 z4
  refine wpAnyE_take 12 (i := 10) (oi := fol1_o10) (v := .int .i64 (i : Int)) rfl (by kernel_rfl) (by kernel_rfl) (by kernel_rfl) (by kernel_rfl) (fun _ _ _ h => h) (Or.inl ⟨by rfl, fun w1 hw => exec_move rfl t1⟩) hHeld ?_
  change wpAnyE _ _ _ _ _ _ _ _ (a5.put (some 22) (.int .i64 (i : Int))) _
  obtain ⟨a10, e10⟩ : ∃ act, act = a5.put (some 22) (.int .i64 (i : Int)) := ⟨_, rfl⟩
  rw [← e10] at h ⊢
  have z10 := pz e10 z5
  replace t15 := pk e10 t15
  replace t16 := pk e10 t16
  replace t17 := pk e10 t17
  clear t1
  have t22 := pq e10 z5
  clear e10 z5
  refine wpAnyE_one (j := 6) (o := fol1_o6) (by kernel_rfl) rfl (fun K hK => ?_)
  rw [if_pos (by rfl)]
  unfold fol1_o6 at hK ⊢
  go_simp
  refine (CE).mono ?_
  rintro e x6 ⟨rfl, rfl⟩
  try go_wp2_with fail
  refine hK.out _ _ (fun _ => rfl) (fun hHeld => ?_)
  clear hK K
  replace hHeld := hHeld (by decide)
  change wpAnyE _ _ _ _ _ _ _ _ (a10.put (some 18) (.pointer (some ⟨s.g, 73 * i + 0, none⟩))) _
  obtain ⟨a6, e6⟩ : ∃ act, act = a10.put (some 18) (.pointer (some ⟨s.g, 73 * i + 0, none⟩)) := ⟨_, rfl⟩
  rw [← e6] at h ⊢
  have z6 := pz e6 z10
  replace t15 := pk e6 t15
  replace t22 := pk e6 t22
  clear t16 t17
  have t18 := pq e6 z10
  clear e6 z10
  refine wpAnyE_take 12 (i := 7) (oi := fol1_o7) (v := .pointer (some ⟨s.g, 73 * i + 0, none⟩)) rfl (by kernel_rfl) (by kernel_rfl) (by kernel_rfl) (by kernel_rfl) (fun _ _ _ h => h) (Or.inl ⟨by rfl, fun w1 hw => exec_nilCheck rfl t18⟩) hHeld ?_
  change wpAnyE _ _ _ _ _ _ _ _ (a6.put (some 19) (.pointer (some ⟨s.g, 73 * i + 0, none⟩))) _
  obtain ⟨a7, e7⟩ : ∃ act, act = a6.put (some 19) (.pointer (some ⟨s.g, 73 * i + 0, none⟩)) := ⟨_, rfl⟩
  rw [← e7] at h ⊢
  have z7 := pz e7 z6
  replace t15 := pk e7 t15
  replace t22 := pk e7 t22
  clear t18
  have t19 := pq e7 z6
  clear e7 z6
  refine wpAnyE_take 12 (i := 8) (oi := fol1_o8) (v := .pointer (some ⟨s.g, 73 * i + 0 + 0, none⟩)) rfl (by kernel_rfl) (by kernel_rfl) (by kernel_rfl) (by kernel_rfl) (fun _ _ _ h => h) (Or.inl ⟨by rfl, fun w1 hw => exec_fieldAt rfl t19 (fg_68_0 _ _ _)⟩) hHeld ?_
  change wpAnyE _ _ _ _ _ _ _ _ (a7.put (some 20) (.pointer (some ⟨s.g, 73 * i + 0 + 0, none⟩))) _
  obtain ⟨a8, e8⟩ : ∃ act, act = a7.put (some 20) (.pointer (some ⟨s.g, 73 * i + 0 + 0, none⟩)) := ⟨_, rfl⟩
  rw [← e8] at h ⊢
  have z8 := pz e8 z7
  replace t15 := pk e8 t15
  replace t22 := pk e8 t22
  clear t19
  have t20 := pq e8 z7
  clear e8 z7
  refine wpAnyE_take 12 (i := 9) (oi := fol1_o9) (v := (gt s.L i).kp.id.v) rfl (by kernel_rfl) (by kernel_rfl) (by kernel_rfl) (by kernel_rfl) (fun _ _ _ h => h) (Or.inl ⟨by rfl, fun w1 hw => exec_load rfl t20 (R_id (hw ▸ hR.drew : SqAt _ s.sb 1 s.g s.cap s.L) hi)⟩) hHeld ?_
  change wpAnyE _ _ _ _ _ _ _ _ (a8.put (some 21) ((gt s.L i).kp.id.v)) _
  obtain ⟨a9, e9⟩ : ∃ act, act = a8.put (some 21) ((gt s.L i).kp.id.v) := ⟨_, rfl⟩
  rw [← e9] at h ⊢
  have z9 := pz e9 z8
  replace t15 := pk e9 t15
  replace t22 := pk e9 t22
  clear t20
  have t21 := pq e9 z8
  clear e9 z8
  refine wpAnyE_one (j := 11) (o := fol1_o11) (by kernel_rfl) rfl (fun K hK => ?_)
  have XX := exec_mapUpdate (P := Try.prog) (a := a9) (o := fol1_o11) rfl t15 t21 t22 EM
  rw [if_pos (by rfl), Oper.wp, XX]
  show K _ _
  clear XX
  refine hK.out _ _ (fun hne => absurd rfl hne) (fun hHeld => ?_)
  clear hK K
  exact wpAnyE_done (by kernel_rfl) (NoPanic.normal (h _ _ (rfl) rfl)) _
def show3_o0 : Oper := { dst := some 11, op := Op.move (Operand.tmp 0), type := 23, pos := "seq.go:83", after := #[], guard := none }
def show3_o1 : Oper := { dst := some 12, op := Op.load 32 (Operand.tmp 4), type := 32, pos := "seq.go:83", after := #[], guard := none }
def show3_o2 : Oper := { dst := some 13, op := Op.call { callee := Callee.value (Operand.func 28), args := #[Operand.tmp 11, Operand.tmp 12], argTypes := #[23, 32] }, type := 4, pos := "seq.go:83", after := #[{ on := 0, ground := Ground.data }, { on := 1, ground := Ground.data }], guard := none }
def show3_o3 : Oper := { dst := some 14, op := Op.unOp UnOp.not 4 (Operand.tmp 13), type := 4, pos := "seq.go:83", after := #[{ on := 2, ground := Ground.data }], guard := none }
def show3_o4 : Oper := { dst := some 10, op := Op.assign (Operand.tmp 14), type := 4, pos := "seq.go:83", after := #[{ on := 3, ground := Ground.data }, { on := 2, ground := Ground.chain }], guard := none }
def show3_ops : Array Oper := #[show3_o0, show3_o1, show3_o2, show3_o3, show3_o4]
set_option maxRecDepth 100000 in
set_option maxHeartbeats 4000000 in
theorem show3 {s : Sx} {b1 : Nat} {k : IdK} {r : Bool} (a : Act) (w : World) (Q : Exit → Act → World → Prop) (hsz : a.tmps.size = 26)
    (t0 : a.tmps.getD 0 undef = .pointer (some ⟨s.sb, 0, none⟩))
    (t4 : a.tmps.getD 4 undef = .pointer (some ⟨b1, 0, none⟩))
    (hk : k.ok) (ib1 : IdAt w b1 k) (CH : Calls Try.prog 28 #[.pointer (some ⟨s.sb, 0, none⟩), k.v] w fun e w' => e = .returned (.bool r) ∧ Below w.heap.size w w')
    (h : ∀ (a' : Act) (w' : World), Below w.heap.size w w' → a' = (((((a).put (some 11) (.pointer (some ⟨s.sb, 0, none⟩))).put (some 12) (k.v)).put (some 13) (.bool r)).put (some 14) (.bool (!r))).put (some 10) (.bool (!r)) → Q .normal a' w') :
    (Code.region 3 show3_ops false).wp Try.prog Q a w := by
  refine wp_region_list ?_
  change wpList _ _ _ [show3_o0, show3_o1, show3_o2, show3_o3, show3_o4] _ _
  refine qv (v := .pointer (some ⟨s.sb, 0, none⟩)) (by rfl) (exec_move rfl t0) (fun a0 e0 => ?_)
  rw [← e0] at h
  have z0 := pz e0 hsz
  replace t4 := pk e0 t4
  clear t0
  have t11 := pq e0 hsz
  clear e0 hsz
  refine qv (v := k.v) (by rfl) (exec_load rfl t4 (load_id hk ib1)) (fun a1 e1 => ?_)
  rw [← e1] at h
  have z1 := pz e1 z0
  replace t11 := pk e1 t11
  clear t4
  have t12 := pq e1 z0
  clear e1 z0
  refine qc (by rfl) (by unfold show3_o2; go_simp) (CH) (fun e x2 hx => ?_)
  obtain ⟨rfl, S1⟩ := hx
  refine ⟨_, rfl, fun a2 e2 => ?_⟩
  rw [← e2] at h
  have z2 := pz e2 z1
  clear t11 t12
  have t13 := pq e2 z1
  clear e2 z1
  refine qv (v := .bool (!r)) (by rfl) (by unfold show3_o3; go_simp) (fun a3 e3 => ?_)
  rw [← e3] at h
  have z3 := pz e3 z2
  clear t13
  have t14 := pq e3 z2
  clear e3 z2
  refine qv (v := .bool (!r)) (by rfl) (exec_assign rfl t14) (fun a4 e4 => ?_)
  rw [← e4] at h
  have z4 := pz e4 z3
  clear t14
  clear e4 z3
  exact wpList_nil (h _ _ (S1) rfl)
def show5_o0 : Oper := { dst := some 15, op := Op.move (Operand.tmp 0), type := 23, pos := "seq.go:86", after := #[], guard := none }
def show5_o1 : Oper := { dst := some 16, op := Op.nilCheck (Operand.tmp 15), type := 0, pos := "seq.go:86", after := #[{ on := 0, ground := Ground.data }], guard := none }
def show5_o2 : Oper := { dst := some 17, op := Op.fieldAddr 70 (Operand.tmp 16) 1, type := 0, pos := "seq.go:86", after := #[{ on := 1, ground := Ground.data }], guard := none }
def show5_o3 : Oper := { dst := some 18, op := Op.move (Operand.tmp 0), type := 23, pos := "seq.go:86", after := #[], guard := none }
def show5_o4 : Oper := { dst := some 19, op := Op.nilCheck (Operand.tmp 18), type := 0, pos := "seq.go:86", after := #[{ on := 3, ground := Ground.data }], guard := none }
def show5_o5 : Oper := { dst := some 20, op := Op.fieldAddr 70 (Operand.tmp 19) 0, type := 0, pos := "seq.go:86", after := #[{ on := 4, ground := Ground.data }], guard := none }
def show5_o6 : Oper := { dst := some 21, op := Op.load 62 (Operand.tmp 20), type := 62, pos := "seq.go:86", after := #[{ on := 5, ground := Ground.data }], guard := none }
def show5_o7 : Oper := { dst := some 22, op := Op.load 32 (Operand.tmp 4), type := 32, pos := "seq.go:86", after := #[], guard := none }
def show5_o8 : Oper := { dst := some 23, op := Op.lookup 62 (Operand.tmp 21) (Operand.tmp 22) false, type := 3, pos := "seq.go:86", after := #[{ on := 6, ground := Ground.data }, { on := 7, ground := Ground.data }], guard := none }
def show5_o9 : Oper := { dst := some 24, op := Op.move (Operand.tmp 2), type := 4, pos := "seq.go:86", after := #[], guard := none }
def show5_o10 : Oper := { dst := some 25, op := Op.call { callee := Callee.value (Operand.func 41), args := #[Operand.tmp 17, Operand.tmp 23, Operand.tmp 24], argTypes := #[65, 3, 4] }, type := 0, pos := "seq.go:86", after := #[{ on := 2, ground := Ground.data }, { on := 8, ground := Ground.data }, { on := 9, ground := Ground.data }], guard := none }
def show5_ops : Array Oper := #[show5_o0, show5_o1, show5_o2, show5_o3, show5_o4, show5_o5, show5_o6, show5_o7, show5_o8, show5_o9, show5_o10]
set_option maxRecDepth 100000 in
set_option maxHeartbeats 4000000 in
theorem show5 {s : Sx} {E : List Elt} {b1 i : Nat} {k : IdK} {b : Bool} (Fin : World → Prop) (a : Act) (w : World) (Q : Exit → Act → World → Prop) (hsz : a.tmps.size = 26)
    (t0 : a.tmps.getD 0 undef = .pointer (some ⟨s.sb, 0, none⟩))
    (t4 : a.tmps.getD 4 undef = .pointer (some ⟨b1, 0, none⟩))
    (t2 : a.tmps.getD 2 undef = .bool b)
    (hS : SeqAt w s E) (hk : k.ok) (ib1 : IdAt w b1 k) (ei : spotOf s k = i) (CT : Calls Try.prog 41 #[.pointer (some ⟨s.sb, 1, none⟩), .int .i64 (i : Int), .bool b] w.drew fun e w' => e = .returned (.tuple #[]) ∧ Fin w')
    (h : ∀ (a' : Act) (w' : World), Fin w' → a' = (((((((((((a).put (some 15) (.pointer (some ⟨s.sb, 0, none⟩))).put (some 16) (.pointer (some ⟨s.sb, 0, none⟩))).put (some 17) (.pointer (some ⟨s.sb, 1, none⟩))).put (some 18) (.pointer (some ⟨s.sb, 0, none⟩))).put (some 19) (.pointer (some ⟨s.sb, 0, none⟩))).put (some 20) (.pointer (some ⟨s.sb, 0, none⟩))).put (some 21) (.map (some s.mb))).put (some 22) (k.v)).put (some 23) (.int .i64 (i : Int))).put (some 24) (.bool b)).put (some 25) (.tuple #[]) → Q .normal a' w') :
    (Code.region 5 show5_ops true).wp Try.prog Q a w := by
  refine wp_region_noPanic ?_
  refine wp_region_E 10 (S := fun w' => w' = w.drew) (by kernel_rfl) (rfl) (fun hHeld => ?_)
  refine wpAnyE_take 11 (i := 0) (oi := show5_o0) (v := .pointer (some ⟨s.sb, 0, none⟩)) rfl (by kernel_rfl) (by kernel_rfl) (by kernel_rfl) (by kernel_rfl) (fun _ _ _ h => h) (Or.inl ⟨by rfl, fun w1 hw => exec_move rfl t0⟩) hHeld ?_
  change wpAnyE _ _ _ _ _ _ _ _ (a.put (some 15) (.pointer (some ⟨s.sb, 0, none⟩))) _
  obtain ⟨a0, e0⟩ : ∃ act, act = a.put (some 15) (.pointer (some ⟨s.sb, 0, none⟩)) := ⟨_, rfl⟩
  rw [← e0] at h ⊢
  have z0 := pz e0 hsz
  replace t0 := pk e0 t0
  replace t4 := pk e0 t4
  replace t2 := pk e0 t2
  have t15 := pq e0 hsz
  clear e0 hsz
  refine wpAnyE_take 11 (i := 1) (oi := show5_o1) (v := .pointer (some ⟨s.sb, 0, none⟩)) rfl (by kernel_rfl) (by kernel_rfl) (by kernel_rfl) (by kernel_rfl) (fun _ _ _ h => h) (Or.inl ⟨by rfl, fun w1 hw => exec_nilCheck rfl t15⟩) hHeld ?_
  change wpAnyE _ _ _ _ _ _ _ _ (a0.put (some 16) (.pointer (some ⟨s.sb, 0, none⟩))) _
  obtain ⟨a1, e1⟩ : ∃ act, act = a0.put (some 16) (.pointer (some ⟨s.sb, 0, none⟩)) := ⟨_, rfl⟩
  rw [← e1] at h ⊢
  have z1 := pz e1 z0
  replace t0 := pk e1 t0
  replace t4 := pk e1 t4
  replace t2 := pk e1 t2
  clear t15
  have t16 := pq e1 z0
  clear e1 z0
  refine wpAnyE_take 11 (i := 2) (oi := show5_o2) (v := .pointer (some ⟨s.sb, 1, none⟩)) rfl (by kernel_rfl) (by kernel_rfl) (by kernel_rfl) (by kernel_rfl) (fun _ _ _ h => h) (Or.inl ⟨by rfl, fun w1 hw => exec_fieldAt rfl t16 (fg_70_1 _ _ _)⟩) hHeld ?_
  change wpAnyE _ _ _ _ _ _ _ _ (a1.put (some 17) (.pointer (some ⟨s.sb, 1, none⟩))) _
  obtain ⟨a2, e2⟩ : ∃ act, act = a1.put (some 17) (.pointer (some ⟨s.sb, 1, none⟩)) := ⟨_, rfl⟩
  rw [← e2] at h ⊢
  have z2 := pz e2 z1
  replace t0 := pk e2 t0
  replace t4 := pk e2 t4
  replace t2 := pk e2 t2
  clear t16
  have t17 := pq e2 z1
  clear e2 z1
  refine wpAnyE_take 11 (i := 3) (oi := show5_o3) (v := .pointer (some ⟨s.sb, 0, none⟩)) rfl (by kernel_rfl) (by kernel_rfl) (by kernel_rfl) (by kernel_rfl) (fun _ _ _ h => h) (Or.inl ⟨by rfl, fun w1 hw => exec_move rfl t0⟩) hHeld ?_
  change wpAnyE _ _ _ _ _ _ _ _ (a2.put (some 18) (.pointer (some ⟨s.sb, 0, none⟩))) _
  obtain ⟨a3, e3⟩ : ∃ act, act = a2.put (some 18) (.pointer (some ⟨s.sb, 0, none⟩)) := ⟨_, rfl⟩
  rw [← e3] at h ⊢
  have z3 := pz e3 z2
  replace t4 := pk e3 t4
  replace t2 := pk e3 t2
  replace t17 := pk e3 t17
  clear t0
  have t18 := pq e3 z2
  clear e3 z2
  refine wpAnyE_take 11 (i := 4) (oi := show5_o4) (v := .pointer (some ⟨s.sb, 0, none⟩)) rfl (by kernel_rfl) (by kernel_rfl) (by kernel_rfl) (by kernel_rfl) (fun _ _ _ h => h) (Or.inl ⟨by rfl, fun w1 hw => exec_nilCheck rfl t18⟩) hHeld ?_
  change wpAnyE _ _ _ _ _ _ _ _ (a3.put (some 19) (.pointer (some ⟨s.sb, 0, none⟩))) _
  obtain ⟨a4, e4⟩ : ∃ act, act = a3.put (some 19) (.pointer (some ⟨s.sb, 0, none⟩)) := ⟨_, rfl⟩
  rw [← e4] at h ⊢
  have z4 := pz e4 z3
  replace t4 := pk e4 t4
  replace t2 := pk e4 t2
  replace t17 := pk e4 t17
  clear t18
  have t19 := pq e4 z3
  clear e4 z3
  refine wpAnyE_take 11 (i := 5) (oi := show5_o5) (v := .pointer (some ⟨s.sb, 0, none⟩)) rfl (by kernel_rfl) (by kernel_rfl) (by kernel_rfl) (by kernel_rfl) (fun _ _ _ h => h) (Or.inl ⟨by rfl, fun w1 hw => exec_fieldAt rfl t19 (fg_70_0 _ _ _)⟩) hHeld ?_
  change wpAnyE _ _ _ _ _ _ _ _ (a4.put (some 20) (.pointer (some ⟨s.sb, 0, none⟩))) _
  obtain ⟨a5, e5⟩ : ∃ act, act = a4.put (some 20) (.pointer (some ⟨s.sb, 0, none⟩)) := ⟨_, rfl⟩
  rw [← e5] at h ⊢
  have z5 := pz e5 z4
  replace t4 := pk e5 t4
  replace t2 := pk e5 t2
  replace t17 := pk e5 t17
  clear t19
  have t20 := pq e5 z4
  clear e5 z4
  refine wpAnyE_take 11 (i := 6) (oi := show5_o6) (v := .map (some s.mb)) rfl (by kernel_rfl) (by kernel_rfl) (by kernel_rfl) (by kernel_rfl) (fun _ _ _ h => h) (Or.inl ⟨by rfl, fun w1 hw => exec_load rfl t20 (ld_map (hw ▸ hS.drew : SeqAt _ s E).c0)⟩) hHeld ?_
  change wpAnyE _ _ _ _ _ _ _ _ (a5.put (some 21) (.map (some s.mb))) _
  obtain ⟨a6, e6⟩ : ∃ act, act = a5.put (some 21) (.map (some s.mb)) := ⟨_, rfl⟩
  rw [← e6] at h ⊢
  have z6 := pz e6 z5
  replace t4 := pk e6 t4
  replace t2 := pk e6 t2
  replace t17 := pk e6 t17
  clear t20
  have t21 := pq e6 z5
  clear e6 z5
  refine wpAnyE_take 11 (i := 7) (oi := show5_o7) (v := k.v) rfl (by kernel_rfl) (by kernel_rfl) (by kernel_rfl) (by kernel_rfl) (fun _ _ _ h => h) (Or.inl ⟨by rfl, fun w1 hw => exec_load rfl t4 (load_id hk (hw ▸ ib1 : IdAt _ b1 k))⟩) hHeld ?_
  change wpAnyE _ _ _ _ _ _ _ _ (a6.put (some 22) (k.v)) _
  obtain ⟨a7, e7⟩ : ∃ act, act = a6.put (some 22) (k.v) := ⟨_, rfl⟩
  rw [← e7] at h ⊢
  have z7 := pz e7 z6
  replace t2 := pk e7 t2
  replace t17 := pk e7 t17
  replace t21 := pk e7 t21
  clear t4
  have t22 := pq e7 z6
  clear e7 z6
  refine wpAnyE_take 11 (i := 8) (oi := show5_o8) (v := .int .i64 (i : Int)) rfl (by kernel_rfl) (by kernel_rfl) (by kernel_rfl) (by kernel_rfl) (fun _ _ _ h => h) (Or.inl ⟨by rfl, fun w1 hw => exec_lookup rfl t21 t22 (by rw [look_spot (hw ▸ hS.drew : SeqAt _ s E) k hk, ei])⟩) hHeld ?_
  change wpAnyE _ _ _ _ _ _ _ _ (a7.put (some 23) (.int .i64 (i : Int))) _
  obtain ⟨a8, e8⟩ : ∃ act, act = a7.put (some 23) (.int .i64 (i : Int)) := ⟨_, rfl⟩
  rw [← e8] at h ⊢
  have z8 := pz e8 z7
  replace t2 := pk e8 t2
  replace t17 := pk e8 t17
  clear t21 t22
  have t23 := pq e8 z7
  clear e8 z7
  refine wpAnyE_take 11 (i := 9) (oi := show5_o9) (v := .bool b) rfl (by kernel_rfl) (by kernel_rfl) (by kernel_rfl) (by kernel_rfl) (fun _ _ _ h => h) (Or.inl ⟨by rfl, fun w1 hw => exec_move rfl t2⟩) hHeld ?_
  change wpAnyE _ _ _ _ _ _ _ _ (a8.put (some 24) (.bool b)) _
  obtain ⟨a9, e9⟩ : ∃ act, act = a8.put (some 24) (.bool b) := ⟨_, rfl⟩
  rw [← e9] at h ⊢
  have z9 := pz e9 z8
  replace t17 := pk e9 t17
  replace t23 := pk e9 t23
  clear t2
  have t24 := pq e9 z8
  clear e9 z8
  refine wpAnyE_one (j := 10) (o := show5_o10) (by kernel_rfl) rfl (fun K hK => ?_)
  rw [if_pos (by rfl)]
  unfold show5_o10 at hK ⊢
  go_simp
  refine (CT).mono ?_
  rintro e x10 ⟨rfl, HF⟩
  try go_wp2_with fail
  refine hK.out _ _ (fun hne => absurd rfl hne) (fun hHeld => ?_)
  clear hK K
  change wpAnyE _ _ _ _ _ _ _ _ (a9.put (some 25) (.tuple #[])) _
  obtain ⟨a10, e10⟩ : ∃ act, act = a9.put (some 25) (.tuple #[]) := ⟨_, rfl⟩
  rw [← e10] at h ⊢
  have z10 := pz e10 z9
  clear t17 t23 t24
  clear e10 z9
  exact wpAnyE_done (by kernel_rfl) (NoPanic.normal (h _ _ (HF) rfl)) _
def smany3_o0 : Oper := { dst := some 7, op := Op.move (Operand.tmp 0), type := 23, pos := "seq.go:109", after := #[], guard := none }
def smany3_o1 : Oper := { dst := some 8, op := Op.nilCheck (Operand.tmp 7), type := 0, pos := "seq.go:109", after := #[{ on := 0, ground := Ground.data }], guard := none }
def smany3_o2 : Oper := { dst := some 9, op := Op.fieldAddr 70 (Operand.tmp 8) 1, type := 0, pos := "seq.go:109", after := #[{ on := 1, ground := Ground.data }], guard := none }
def smany3_o3 : Oper := { dst := some 10, op := Op.move (Operand.tmp 1), type := 3, pos := "seq.go:109", after := #[], guard := none }
def smany3_o4 : Oper := { dst := some 11, op := Op.call { callee := Callee.value (Operand.func 68), args := #[Operand.tmp 9, Operand.tmp 10], argTypes := #[65, 3] }, type := 3, pos := "seq.go:109", after := #[{ on := 2, ground := Ground.data }, { on := 3, ground := Ground.data }], guard := none }
def smany3_o5 : Oper := { dst := some 4, op := Op.assign (Operand.tmp 11), type := 3, pos := "seq.go:109", after := #[{ on := 4, ground := Ground.data }, { on := 4, ground := Ground.chain }, { on := 0, ground := Ground.phase }, { on := 1, ground := Ground.phase }, { on := 2, ground := Ground.phase }, { on := 3, ground := Ground.phase }, { on := 4, ground := Ground.phase }], guard := none }
def smany3_ops : Array Oper := #[smany3_o0, smany3_o1, smany3_o2, smany3_o3, smany3_o4, smany3_o5]
set_option maxRecDepth 100000 in
set_option maxHeartbeats 4000000 in
theorem smany3 {s : Sx} {n : Nat} {c : Bool} (Fin : World → Prop) (a : Act) (w : World) (Q : Exit → Act → World → Prop) (hsz : a.tmps.size = 12)
    (t0 : a.tmps.getD 0 undef = .pointer (some ⟨s.sb, 0, none⟩))
    (t1 : a.tmps.getD 1 undef = .int .i64 (nb c : Int))
    (CT : Calls Try.prog 68 #[.pointer (some ⟨s.sb, 1, none⟩), .int .i64 (nb c : Int)] w fun e w' => e = .returned (.int .i64 (n : Int)) ∧ Fin w')
    (h : ∀ (a' : Act) (w' : World), Fin w' → a' = ((((((a).put (some 7) (.pointer (some ⟨s.sb, 0, none⟩))).put (some 8) (.pointer (some ⟨s.sb, 0, none⟩))).put (some 9) (.pointer (some ⟨s.sb, 1, none⟩))).put (some 10) (.int .i64 (nb c : Int))).put (some 11) (.int .i64 (n : Int))).put (some 4) (.int .i64 (n : Int)) → Q .normal a' w') :
    (Code.region 3 smany3_ops false).wp Try.prog Q a w := by
  refine wp_region_list ?_
  change wpList _ _ _ [smany3_o0, smany3_o1, smany3_o2, smany3_o3, smany3_o4, smany3_o5] _ _
  refine qv (v := .pointer (some ⟨s.sb, 0, none⟩)) (by rfl) (exec_move rfl t0) (fun a0 e0 => ?_)
  rw [← e0] at h
  have z0 := pz e0 hsz
  replace t1 := pk e0 t1
  clear t0
  have t7 := pq e0 hsz
  clear e0 hsz
  refine qv (v := .pointer (some ⟨s.sb, 0, none⟩)) (by rfl) (exec_nilCheck rfl t7) (fun a1 e1 => ?_)
  rw [← e1] at h
  have z1 := pz e1 z0
  replace t1 := pk e1 t1
  clear t7
  have t8 := pq e1 z0
  clear e1 z0
  refine qv (v := .pointer (some ⟨s.sb, 1, none⟩)) (by rfl) (exec_fieldAt rfl t8 (fg_70_1 _ _ _)) (fun a2 e2 => ?_)
  rw [← e2] at h
  have z2 := pz e2 z1
  replace t1 := pk e2 t1
  clear t8
  have t9 := pq e2 z1
  clear e2 z1
  refine qv (v := .int .i64 (nb c : Int)) (by rfl) (exec_move rfl t1) (fun a3 e3 => ?_)
  rw [← e3] at h
  have z3 := pz e3 z2
  replace t9 := pk e3 t9
  clear t1
  have t10 := pq e3 z2
  clear e3 z2
  refine qc (by rfl) (by unfold smany3_o4; go_simp) (CT) (fun e x4 hx => ?_)
  obtain ⟨rfl, HF⟩ := hx
  refine ⟨_, rfl, fun a4 e4 => ?_⟩
  rw [← e4] at h
  have z4 := pz e4 z3
  clear t9 t10
  have t11 := pq e4 z3
  clear e4 z3
  refine qv (v := .int .i64 (n : Int)) (by rfl) (exec_assign rfl t11) (fun a5 e5 => ?_)
  rw [← e5] at h
  have z5 := pz e5 z4
  clear t11
  clear e5 z4
  exact wpList_nil (h _ _ (HF) rfl)
def ah1_o0 : Oper := { dst := some 7, op := Op.move (Operand.tmp 0), type := 23, pos := "seq.go:157", after := #[], guard := none }
def ah1_o1 : Oper := { dst := some 8, op := Op.load 32 (Operand.tmp 4), type := 32, pos := "seq.go:157", after := #[], guard := none }
def ah1_o2 : Oper := { dst := some 9, op := Op.call { callee := Callee.value (Operand.func 28), args := #[Operand.tmp 7, Operand.tmp 8], argTypes := #[23, 32] }, type := 4, pos := "seq.go:157", after := #[{ on := 0, ground := Ground.data }, { on := 1, ground := Ground.data }], guard := none }
def ah1_o3 : Oper := { dst := some 10, op := Op.unOp UnOp.not 4 (Operand.tmp 9), type := 4, pos := "seq.go:157", after := #[{ on := 2, ground := Ground.data }], guard := none }
def ah1_ops : Array Oper := #[ah1_o0, ah1_o1, ah1_o2, ah1_o3]
set_option maxRecDepth 100000 in
set_option maxHeartbeats 4000000 in
theorem ah1 {s : Sx} {b1 : Nat} {k : IdK} {r : Bool} (a : Act) (w : World) (Q : Exit → Act → World → Prop) (hsz : a.tmps.size = 22)
    (t0 : a.tmps.getD 0 undef = .pointer (some ⟨s.sb, 0, none⟩))
    (t4 : a.tmps.getD 4 undef = .pointer (some ⟨b1, 0, none⟩))
    (hk : k.ok) (ib1 : IdAt w b1 k) (CH : Calls Try.prog 28 #[.pointer (some ⟨s.sb, 0, none⟩), k.v] w fun e w' => e = .returned (.bool r) ∧ Below w.heap.size w w')
    (h : ∀ (a' : Act) (w' : World), Below w.heap.size w w' → a' = ((((a).put (some 7) (.pointer (some ⟨s.sb, 0, none⟩))).put (some 8) (k.v)).put (some 9) (.bool r)).put (some 10) (.bool (!r)) → Q .normal a' w') :
    (Code.region 1 ah1_ops false).wp Try.prog Q a w := by
  refine wp_region_list ?_
  change wpList _ _ _ [ah1_o0, ah1_o1, ah1_o2, ah1_o3] _ _
  refine qv (v := .pointer (some ⟨s.sb, 0, none⟩)) (by rfl) (exec_move rfl t0) (fun a0 e0 => ?_)
  rw [← e0] at h
  have z0 := pz e0 hsz
  replace t4 := pk e0 t4
  clear t0
  have t7 := pq e0 hsz
  clear e0 hsz
  refine qv (v := k.v) (by rfl) (exec_load rfl t4 (load_id hk ib1)) (fun a1 e1 => ?_)
  rw [← e1] at h
  have z1 := pz e1 z0
  replace t7 := pk e1 t7
  clear t4
  have t8 := pq e1 z0
  clear e1 z0
  refine qc (by rfl) (by unfold ah1_o2; go_simp) (CH) (fun e x2 hx => ?_)
  obtain ⟨rfl, S1⟩ := hx
  refine ⟨_, rfl, fun a2 e2 => ?_⟩
  rw [← e2] at h
  have z2 := pz e2 z1
  clear t7 t8
  have t9 := pq e2 z1
  clear e2 z1
  refine qv (v := .bool (!r)) (by rfl) (by unfold ah1_o3; go_simp) (fun a3 e3 => ?_)
  rw [← e3] at h
  have z3 := pz e3 z2
  clear t9
  clear e3 z2
  exact wpList_nil (h _ _ (S1) rfl)
def ah3_o0 : Oper := { dst := some 11, op := Op.move (Operand.tmp 0), type := 23, pos := "seq.go:160", after := #[], guard := none }
def ah3_o1 : Oper := { dst := some 12, op := Op.nilCheck (Operand.tmp 11), type := 0, pos := "seq.go:160", after := #[{ on := 0, ground := Ground.data }], guard := none }
def ah3_o2 : Oper := { dst := some 13, op := Op.fieldAddr 70 (Operand.tmp 12) 1, type := 0, pos := "seq.go:160", after := #[{ on := 1, ground := Ground.data }], guard := none }
def ah3_o3 : Oper := { dst := some 14, op := Op.move (Operand.tmp 0), type := 23, pos := "seq.go:160", after := #[], guard := none }
def ah3_o4 : Oper := { dst := some 15, op := Op.nilCheck (Operand.tmp 14), type := 0, pos := "seq.go:160", after := #[{ on := 3, ground := Ground.data }], guard := none }
def ah3_o5 : Oper := { dst := some 16, op := Op.fieldAddr 70 (Operand.tmp 15) 0, type := 0, pos := "seq.go:160", after := #[{ on := 4, ground := Ground.data }], guard := none }
def ah3_o6 : Oper := { dst := some 17, op := Op.load 62 (Operand.tmp 16), type := 62, pos := "seq.go:160", after := #[{ on := 5, ground := Ground.data }], guard := none }
def ah3_o7 : Oper := { dst := some 18, op := Op.load 32 (Operand.tmp 4), type := 32, pos := "seq.go:160", after := #[], guard := none }
def ah3_o8 : Oper := { dst := some 19, op := Op.lookup 62 (Operand.tmp 17) (Operand.tmp 18) false, type := 3, pos := "seq.go:160", after := #[{ on := 6, ground := Ground.data }, { on := 7, ground := Ground.data }], guard := none }
def ah3_o9 : Oper := { dst := some 20, op := Op.move (Operand.tmp 2), type := 3, pos := "seq.go:160", after := #[], guard := none }
def ah3_o10 : Oper := { dst := some 21, op := Op.call { callee := Callee.value (Operand.func 70), args := #[Operand.tmp 13, Operand.tmp 19, Operand.tmp 20], argTypes := #[65, 3, 3] }, type := 3, pos := "seq.go:160", after := #[{ on := 2, ground := Ground.data }, { on := 8, ground := Ground.data }, { on := 9, ground := Ground.data }], guard := none }
def ah3_o11 : Oper := { dst := some 6, op := Op.assign (Operand.tmp 21), type := 3, pos := "seq.go:160", after := #[{ on := 10, ground := Ground.data }, { on := 10, ground := Ground.chain }, { on := 0, ground := Ground.phase }, { on := 1, ground := Ground.phase }, { on := 2, ground := Ground.phase }, { on := 3, ground := Ground.phase }, { on := 4, ground := Ground.phase }, { on := 5, ground := Ground.phase }, { on := 6, ground := Ground.phase }, { on := 7, ground := Ground.phase }, { on := 8, ground := Ground.phase }, { on := 9, ground := Ground.phase }, { on := 10, ground := Ground.phase }], guard := none }
def ah3_ops : Array Oper := #[ah3_o0, ah3_o1, ah3_o2, ah3_o3, ah3_o4, ah3_o5, ah3_o6, ah3_o7, ah3_o8, ah3_o9, ah3_o10, ah3_o11]
set_option maxRecDepth 100000 in
set_option maxHeartbeats 4000000 in
theorem ah3 {s : Sx} {E : List Elt} {b1 i n : Nat} {k : IdK} {c : Bool} (a : Act) (w : World) (Q : Exit → Act → World → Prop) (hsz : a.tmps.size = 22)
    (t0 : a.tmps.getD 0 undef = .pointer (some ⟨s.sb, 0, none⟩))
    (t4 : a.tmps.getD 4 undef = .pointer (some ⟨b1, 0, none⟩))
    (t2 : a.tmps.getD 2 undef = .int .i64 (nb c : Int))
    (hS : SeqAt w s E) (hk : k.ok) (ib1 : IdAt w b1 k) (ei : spotOf s k = i) (CT : Calls Try.prog 70 #[.pointer (some ⟨s.sb, 1, none⟩), .int .i64 (i : Int), .int .i64 (nb c : Int)] w.drew fun e w' => e = .returned (.int .i64 (n : Int)) ∧ SeqAt w' s E ∧ IdAt w' b1 k ∧ Qt w w')
    (h : ∀ (a' : Act) (w' : World), Qt w w' → a' = ((((((((((((a).put (some 11) (.pointer (some ⟨s.sb, 0, none⟩))).put (some 12) (.pointer (some ⟨s.sb, 0, none⟩))).put (some 13) (.pointer (some ⟨s.sb, 1, none⟩))).put (some 14) (.pointer (some ⟨s.sb, 0, none⟩))).put (some 15) (.pointer (some ⟨s.sb, 0, none⟩))).put (some 16) (.pointer (some ⟨s.sb, 0, none⟩))).put (some 17) (.map (some s.mb))).put (some 18) (k.v)).put (some 19) (.int .i64 (i : Int))).put (some 20) (.int .i64 (nb c : Int))).put (some 21) (.int .i64 (n : Int))).put (some 6) (.int .i64 (n : Int)) → Q .normal a' w') :
    (Code.region 3 ah3_ops true).wp Try.prog Q a w := by
  refine wp_region_noPanic ?_
  refine wp_region_held_drew (S := fun w' => SeqAt w' s E ∧ IdAt w' b1 k ∧ Qt w w') (by kernel_rfl) (⟨hS.drew, ib1, Qt.drew w⟩) (fun hHeld => ?_)
  refine wpAnyH_take (i := 0) (oi := ah3_o0) (v := .pointer (some ⟨s.sb, 0, none⟩)) rfl (by kernel_rfl) (by kernel_rfl) (by kernel_rfl) (fun _ _ _ h => h) (Or.inl ⟨by rfl, fun w1 hw => exec_move rfl t0⟩) hHeld ?_
  change wpAnyH _ _ _ _ _ _ _ (a.put (some 11) (.pointer (some ⟨s.sb, 0, none⟩))) _
  obtain ⟨a0, e0⟩ : ∃ act, act = a.put (some 11) (.pointer (some ⟨s.sb, 0, none⟩)) := ⟨_, rfl⟩
  rw [← e0] at h ⊢
  have z0 := pz e0 hsz
  replace t0 := pk e0 t0
  replace t4 := pk e0 t4
  replace t2 := pk e0 t2
  have t11 := pq e0 hsz
  clear e0 hsz
  refine wpAnyH_take (i := 1) (oi := ah3_o1) (v := .pointer (some ⟨s.sb, 0, none⟩)) rfl (by kernel_rfl) (by kernel_rfl) (by kernel_rfl) (fun _ _ _ h => h) (Or.inl ⟨by rfl, fun w1 hw => exec_nilCheck rfl t11⟩) hHeld ?_
  change wpAnyH _ _ _ _ _ _ _ (a0.put (some 12) (.pointer (some ⟨s.sb, 0, none⟩))) _
  obtain ⟨a1, e1⟩ : ∃ act, act = a0.put (some 12) (.pointer (some ⟨s.sb, 0, none⟩)) := ⟨_, rfl⟩
  rw [← e1] at h ⊢
  have z1 := pz e1 z0
  replace t0 := pk e1 t0
  replace t4 := pk e1 t4
  replace t2 := pk e1 t2
  clear t11
  have t12 := pq e1 z0
  clear e1 z0
  refine wpAnyH_take (i := 2) (oi := ah3_o2) (v := .pointer (some ⟨s.sb, 1, none⟩)) rfl (by kernel_rfl) (by kernel_rfl) (by kernel_rfl) (fun _ _ _ h => h) (Or.inl ⟨by rfl, fun w1 hw => exec_fieldAt rfl t12 (fg_70_1 _ _ _)⟩) hHeld ?_
  change wpAnyH _ _ _ _ _ _ _ (a1.put (some 13) (.pointer (some ⟨s.sb, 1, none⟩))) _
  obtain ⟨a2, e2⟩ : ∃ act, act = a1.put (some 13) (.pointer (some ⟨s.sb, 1, none⟩)) := ⟨_, rfl⟩
  rw [← e2] at h ⊢
  have z2 := pz e2 z1
  replace t0 := pk e2 t0
  replace t4 := pk e2 t4
  replace t2 := pk e2 t2
  clear t12
  have t13 := pq e2 z1
  clear e2 z1
  refine wpAnyH_take (i := 3) (oi := ah3_o3) (v := .pointer (some ⟨s.sb, 0, none⟩)) rfl (by kernel_rfl) (by kernel_rfl) (by kernel_rfl) (fun _ _ _ h => h) (Or.inl ⟨by rfl, fun w1 hw => exec_move rfl t0⟩) hHeld ?_
  change wpAnyH _ _ _ _ _ _ _ (a2.put (some 14) (.pointer (some ⟨s.sb, 0, none⟩))) _
  obtain ⟨a3, e3⟩ : ∃ act, act = a2.put (some 14) (.pointer (some ⟨s.sb, 0, none⟩)) := ⟨_, rfl⟩
  rw [← e3] at h ⊢
  have z3 := pz e3 z2
  replace t4 := pk e3 t4
  replace t2 := pk e3 t2
  replace t13 := pk e3 t13
  clear t0
  have t14 := pq e3 z2
  clear e3 z2
  refine wpAnyH_take (i := 4) (oi := ah3_o4) (v := .pointer (some ⟨s.sb, 0, none⟩)) rfl (by kernel_rfl) (by kernel_rfl) (by kernel_rfl) (fun _ _ _ h => h) (Or.inl ⟨by rfl, fun w1 hw => exec_nilCheck rfl t14⟩) hHeld ?_
  change wpAnyH _ _ _ _ _ _ _ (a3.put (some 15) (.pointer (some ⟨s.sb, 0, none⟩))) _
  obtain ⟨a4, e4⟩ : ∃ act, act = a3.put (some 15) (.pointer (some ⟨s.sb, 0, none⟩)) := ⟨_, rfl⟩
  rw [← e4] at h ⊢
  have z4 := pz e4 z3
  replace t4 := pk e4 t4
  replace t2 := pk e4 t2
  replace t13 := pk e4 t13
  clear t14
  have t15 := pq e4 z3
  clear e4 z3
  refine wpAnyH_take (i := 5) (oi := ah3_o5) (v := .pointer (some ⟨s.sb, 0, none⟩)) rfl (by kernel_rfl) (by kernel_rfl) (by kernel_rfl) (fun _ _ _ h => h) (Or.inl ⟨by rfl, fun w1 hw => exec_fieldAt rfl t15 (fg_70_0 _ _ _)⟩) hHeld ?_
  change wpAnyH _ _ _ _ _ _ _ (a4.put (some 16) (.pointer (some ⟨s.sb, 0, none⟩))) _
  obtain ⟨a5, e5⟩ : ∃ act, act = a4.put (some 16) (.pointer (some ⟨s.sb, 0, none⟩)) := ⟨_, rfl⟩
  rw [← e5] at h ⊢
  have z5 := pz e5 z4
  replace t4 := pk e5 t4
  replace t2 := pk e5 t2
  replace t13 := pk e5 t13
  clear t15
  have t16 := pq e5 z4
  clear e5 z4
  refine wpAnyH_take (i := 6) (oi := ah3_o6) (v := .map (some s.mb)) rfl (by kernel_rfl) (by kernel_rfl) (by kernel_rfl) (fun _ _ _ h => h) (Or.inl ⟨by rfl, fun w1 hw => exec_load rfl t16 (ld_map hw.1.c0)⟩) hHeld ?_
  change wpAnyH _ _ _ _ _ _ _ (a5.put (some 17) (.map (some s.mb))) _
  obtain ⟨a6, e6⟩ : ∃ act, act = a5.put (some 17) (.map (some s.mb)) := ⟨_, rfl⟩
  rw [← e6] at h ⊢
  have z6 := pz e6 z5
  replace t4 := pk e6 t4
  replace t2 := pk e6 t2
  replace t13 := pk e6 t13
  clear t16
  have t17 := pq e6 z5
  clear e6 z5
  refine wpAnyH_take (i := 7) (oi := ah3_o7) (v := k.v) rfl (by kernel_rfl) (by kernel_rfl) (by kernel_rfl) (fun _ _ _ h => h) (Or.inl ⟨by rfl, fun w1 hw => exec_load rfl t4 (load_id hk hw.2.1)⟩) hHeld ?_
  change wpAnyH _ _ _ _ _ _ _ (a6.put (some 18) (k.v)) _
  obtain ⟨a7, e7⟩ : ∃ act, act = a6.put (some 18) (k.v) := ⟨_, rfl⟩
  rw [← e7] at h ⊢
  have z7 := pz e7 z6
  replace t2 := pk e7 t2
  replace t13 := pk e7 t13
  replace t17 := pk e7 t17
  clear t4
  have t18 := pq e7 z6
  clear e7 z6
  refine wpAnyH_take (i := 8) (oi := ah3_o8) (v := .int .i64 (i : Int)) rfl (by kernel_rfl) (by kernel_rfl) (by kernel_rfl) (fun _ _ _ h => h) (Or.inl ⟨by rfl, fun w1 hw => exec_lookup rfl t17 t18 (by rw [look_spot hw.1 k hk, ei])⟩) hHeld ?_
  change wpAnyH _ _ _ _ _ _ _ (a7.put (some 19) (.int .i64 (i : Int))) _
  obtain ⟨a8, e8⟩ : ∃ act, act = a7.put (some 19) (.int .i64 (i : Int)) := ⟨_, rfl⟩
  rw [← e8] at h ⊢
  have z8 := pz e8 z7
  replace t2 := pk e8 t2
  replace t13 := pk e8 t13
  clear t17 t18
  have t19 := pq e8 z7
  clear e8 z7
  refine wpAnyH_take (i := 9) (oi := ah3_o9) (v := .int .i64 (nb c : Int)) rfl (by kernel_rfl) (by kernel_rfl) (by kernel_rfl) (fun _ _ _ h => h) (Or.inl ⟨by rfl, fun w1 hw => exec_move rfl t2⟩) hHeld ?_
  change wpAnyH _ _ _ _ _ _ _ (a8.put (some 20) (.int .i64 (nb c : Int))) _
  obtain ⟨a9, e9⟩ : ∃ act, act = a8.put (some 20) (.int .i64 (nb c : Int)) := ⟨_, rfl⟩
  rw [← e9] at h ⊢
  have z9 := pz e9 z8
  replace t13 := pk e9 t13
  replace t19 := pk e9 t19
  clear t2
  have t20 := pq e9 z8
  clear e9 z8
  refine wpAnyH_ready (rs := [10]) (by kernel_rfl) (by simp) ?_
  refine AllReadyH.cons (o := ah3_o10) rfl (fun K hK => ?_) AllReadyH.nil
  rw [if_pos (by rfl)]
  unfold ah3_o10 at hK ⊢
  go_simp
  refine (CT).mono ?_
  rintro e x10 ⟨rfl, S1⟩
  try go_wp2_with fail
  refine hK.out _ _ (S1) (fun hHeld => ?_)
  clear hK K
  change wpAnyH _ _ _ _ _ _ _ (a9.put (some 21) (.int .i64 (n : Int))) _
  obtain ⟨a10, e10⟩ : ∃ act, act = a9.put (some 21) (.int .i64 (n : Int)) := ⟨_, rfl⟩
  rw [← e10] at h ⊢
  have z10 := pz e10 z9
  clear t13 t19 t20
  have t21 := pq e10 z9
  clear e10 z9
  refine wpAnyH_take (i := 11) (oi := ah3_o11) (v := .int .i64 (n : Int)) rfl (by kernel_rfl) (by kernel_rfl) (by kernel_rfl) (fun _ _ _ h => h) (Or.inl ⟨by rfl, fun w1 hw => exec_assign rfl t21⟩) hHeld ?_
  change wpAnyH _ _ _ _ _ _ _ (a10.put (some 6) (.int .i64 (n : Int))) _
  obtain ⟨a11, e11⟩ : ∃ act, act = a10.put (some 6) (.int .i64 (n : Int)) := ⟨_, rfl⟩
  rw [← e11] at h ⊢
  have z11 := pz e11 z10
  clear t21
  clear e11 z10
  exact wpAnyH_done (by kernel_rfl) (NoPanic.normal (h _ _ (hHeld.2.2) rfl)) _
def be1_o0 : Oper := { dst := some 6, op := Op.move (Operand.tmp 0), type := 23, pos := "seq.go:140", after := #[], guard := none }
def be1_o1 : Oper := { dst := some 7, op := Op.load 32 (Operand.tmp 3), type := 32, pos := "seq.go:140", after := #[], guard := none }
def be1_o2 : Oper := { dst := some 8, op := Op.call { callee := Callee.value (Operand.func 28), args := #[Operand.tmp 6, Operand.tmp 7], argTypes := #[23, 32] }, type := 4, pos := "seq.go:140", after := #[{ on := 0, ground := Ground.data }, { on := 1, ground := Ground.data }], guard := none }
def be1_o3 : Oper := { dst := some 9, op := Op.unOp UnOp.not 4 (Operand.tmp 8), type := 4, pos := "seq.go:140", after := #[{ on := 2, ground := Ground.data }], guard := none }
def be1_ops : Array Oper := #[be1_o0, be1_o1, be1_o2, be1_o3]
set_option maxRecDepth 100000 in
set_option maxHeartbeats 4000000 in
theorem be1 {s : Sx} {b1 : Nat} {k : IdK} {r : Bool} (a : Act) (w : World) (Q : Exit → Act → World → Prop) (hsz : a.tmps.size = 22)
    (t0 : a.tmps.getD 0 undef = .pointer (some ⟨s.sb, 0, none⟩))
    (t3 : a.tmps.getD 3 undef = .pointer (some ⟨b1, 0, none⟩))
    (hk : k.ok) (ib1 : IdAt w b1 k) (CH : Calls Try.prog 28 #[.pointer (some ⟨s.sb, 0, none⟩), k.v] w fun e w' => e = .returned (.bool r) ∧ Below w.heap.size w w')
    (h : ∀ (a' : Act) (w' : World), Below w.heap.size w w' → a' = ((((a).put (some 6) (.pointer (some ⟨s.sb, 0, none⟩))).put (some 7) (k.v)).put (some 8) (.bool r)).put (some 9) (.bool (!r)) → Q .normal a' w') :
    (Code.region 1 be1_ops false).wp Try.prog Q a w := by
  refine wp_region_list ?_
  change wpList _ _ _ [be1_o0, be1_o1, be1_o2, be1_o3] _ _
  refine qv (v := .pointer (some ⟨s.sb, 0, none⟩)) (by rfl) (exec_move rfl t0) (fun a0 e0 => ?_)
  rw [← e0] at h
  have z0 := pz e0 hsz
  replace t3 := pk e0 t3
  clear t0
  have t6 := pq e0 hsz
  clear e0 hsz
  refine qv (v := k.v) (by rfl) (exec_load rfl t3 (load_id hk ib1)) (fun a1 e1 => ?_)
  rw [← e1] at h
  have z1 := pz e1 z0
  replace t6 := pk e1 t6
  clear t3
  have t7 := pq e1 z0
  clear e1 z0
  refine qc (by rfl) (by unfold be1_o2; go_simp) (CH) (fun e x2 hx => ?_)
  obtain ⟨rfl, S1⟩ := hx
  refine ⟨_, rfl, fun a2 e2 => ?_⟩
  rw [← e2] at h
  have z2 := pz e2 z1
  clear t6 t7
  have t8 := pq e2 z1
  clear e2 z1
  refine qv (v := .bool (!r)) (by rfl) (by unfold be1_o3; go_simp) (fun a3 e3 => ?_)
  rw [← e3] at h
  have z3 := pz e3 z2
  clear t8
  clear e3 z2
  exact wpList_nil (h _ _ (S1) rfl)
def be2_o0 : Oper := { dst := some 10, op := Op.build 32 #[], type := 32, pos := "seq.go:141", after := #[], guard := none }
def be2_o1 : Oper := { dst := none, op := Op.store 32 (Operand.tmp 4) (Operand.tmp 10), type := 0, pos := "seq.go:141", after := #[{ on := 0, ground := Ground.data }, { on := 0, ground := Ground.phase }], guard := none }
def be2_o2 : Oper := { dst := some 5, op := Op.assign (Operand.const (Value.bool false)), type := 4, pos := "seq.go:141", after := #[{ on := 1, ground := Ground.chain }, { on := 0, ground := Ground.phase }, { on := 1, ground := Ground.phase }], guard := none }
def be2_ops : Array Oper := #[be2_o0, be2_o1, be2_o2]
set_option maxRecDepth 100000 in
set_option maxHeartbeats 4000000 in
theorem be2 {rb : Nat} {w2 : World} (a : Act) (w : World) (Q : Exit → Act → World → Prop) (hsz : a.tmps.size = 22)
    (t4 : a.tmps.getD 4 undef = .pointer (some ⟨rb, 0, none⟩))
    (ES : (Instr.storeAt 32 (.pointer (some ⟨rb, 0, none⟩)) zId.v).run Try.prog w = .ok () w2)
    (h : ∀ (a' : Act) (w' : World), w' = w2 → a' = ((a).put (some 10) (zId.v)).put (some 5) (.bool false) → Q .normal a' w') :
    (Code.region 2 be2_ops false).wp Try.prog Q a w := by
  refine wp_region_list ?_
  change wpList _ _ _ [be2_o0, be2_o1, be2_o2] _ _
  refine qv (v := zId.v) (by rfl) (exec_build0 rfl (build_id _)) (fun a0 e0 => ?_)
  rw [← e0] at h
  have z0 := pz e0 hsz
  replace t4 := pk e0 t4
  have t10 := pq e0 hsz
  clear e0 hsz
  refine qs (by rfl) (exec_store rfl t4 t10 ES) ?_
  refine qv (v := .bool false) (by rfl) (exec_assign rfl rfl) (fun a2 e2 => ?_)
  rw [← e2] at h
  have z2 := pz e2 z0
  clear t4 t10
  clear e2 z0
  exact wpList_nil (h _ _ (rfl) rfl)
def be3_o0 : Oper := { dst := some 11, op := Op.move (Operand.tmp 0), type := 23, pos := "seq.go:143", after := #[], guard := none }
def be3_o1 : Oper := { dst := some 12, op := Op.move (Operand.tmp 0), type := 23, pos := "seq.go:143", after := #[], guard := none }
def be3_o2 : Oper := { dst := some 13, op := Op.nilCheck (Operand.tmp 12), type := 0, pos := "seq.go:143", after := #[{ on := 1, ground := Ground.data }], guard := none }
def be3_o3 : Oper := { dst := some 14, op := Op.fieldAddr 70 (Operand.tmp 13) 0, type := 0, pos := "seq.go:143", after := #[{ on := 2, ground := Ground.data }], guard := none }
def be3_o4 : Oper := { dst := some 15, op := Op.load 62 (Operand.tmp 14), type := 62, pos := "seq.go:143", after := #[{ on := 3, ground := Ground.data }], guard := none }
def be3_o5 : Oper := { dst := some 16, op := Op.load 32 (Operand.tmp 3), type := 32, pos := "seq.go:143", after := #[], guard := none }
def be3_o6 : Oper := { dst := some 17, op := Op.lookup 62 (Operand.tmp 15) (Operand.tmp 16) false, type := 3, pos := "seq.go:143", after := #[{ on := 4, ground := Ground.data }, { on := 5, ground := Ground.data }], guard := none }
def be3_o7 : Oper := { dst := some 18, op := Op.call { callee := Callee.value (Operand.func 36), args := #[Operand.tmp 11, Operand.tmp 17], argTypes := #[23, 3] }, type := 74, pos := "seq.go:143", after := #[{ on := 0, ground := Ground.data }, { on := 6, ground := Ground.data }], guard := none }
def be3_o8 : Oper := { dst := some 19, op := Op.nilCheck (Operand.tmp 18), type := 0, pos := "seq.go:143", after := #[{ on := 7, ground := Ground.data }], guard := none }
def be3_o9 : Oper := { dst := some 20, op := Op.fieldAddr 68 (Operand.tmp 19) 1, type := 0, pos := "seq.go:143", after := #[{ on := 8, ground := Ground.data }], guard := none }
def be3_o10 : Oper := { dst := some 21, op := Op.load 32 (Operand.tmp 20), type := 32, pos := "seq.go:143", after := #[{ on := 9, ground := Ground.data }], guard := none }
def be3_o11 : Oper := { dst := none, op := Op.store 32 (Operand.tmp 4) (Operand.tmp 21), type := 0, pos := "seq.go:143", after := #[{ on := 10, ground := Ground.data }, { on := 7, ground := Ground.chain }, { on := 0, ground := Ground.phase }, { on := 1, ground := Ground.phase }, { on := 2, ground := Ground.phase }, { on := 3, ground := Ground.phase }, { on := 4, ground := Ground.phase }, { on := 5, ground := Ground.phase }, { on := 6, ground := Ground.phase }, { on := 7, ground := Ground.phase }, { on := 8, ground := Ground.phase }, { on := 9, ground := Ground.phase }, { on := 10, ground := Ground.phase }], guard := none }
def be3_o12 : Oper := { dst := some 5, op := Op.assign (Operand.const (Value.bool true)), type := 4, pos := "seq.go:143", after := #[{ on := 11, ground := Ground.chain }, { on := 0, ground := Ground.phase }, { on := 1, ground := Ground.phase }, { on := 2, ground := Ground.phase }, { on := 3, ground := Ground.phase }, { on := 4, ground := Ground.phase }, { on := 5, ground := Ground.phase }, { on := 6, ground := Ground.phase }, { on := 7, ground := Ground.phase }, { on := 8, ground := Ground.phase }, { on := 9, ground := Ground.phase }, { on := 10, ground := Ground.phase }, { on := 11, ground := Ground.phase }], guard := none }
def be3_ops : Array Oper := #[be3_o0, be3_o1, be3_o2, be3_o3, be3_o4, be3_o5, be3_o6, be3_o7, be3_o8, be3_o9, be3_o10, be3_o11, be3_o12]
set_option maxRecDepth 100000 in
set_option maxHeartbeats 4000000 in
theorem be3 {s : Sx} {E : List Elt} {b1 rb i : Nat} {k : IdK} {w2 : World} (a : Act) (w : World) (Q : Exit → Act → World → Prop) (hsz : a.tmps.size = 22)
    (t0 : a.tmps.getD 0 undef = .pointer (some ⟨s.sb, 0, none⟩))
    (t3 : a.tmps.getD 3 undef = .pointer (some ⟨b1, 0, none⟩))
    (t4 : a.tmps.getD 4 undef = .pointer (some ⟨rb, 0, none⟩))
    (hS : SeqAt w s E) (S2 : SeqAt w2 s E ∧ IdAt w2 b1 k) (hk : k.ok) (ib1 : IdAt w b1 k) (ei : spotOf s k = i) (hi : i < s.L.length) (CE : Calls Try.prog 36 #[.pointer (some ⟨s.sb, 0, none⟩), .int .i64 (i : Int)] w.drew fun e w' => e = .returned (.pointer (some ⟨s.g, 73 * i + 0, none⟩)) ∧ w' = w.drew) (ES : (Instr.storeAt 32 (.pointer (some ⟨rb, 0, none⟩)) (gt s.L i).kp.bh.v).run Try.prog w.drew = .ok () w2)
    (h : ∀ (a' : Act) (w' : World), w' = w2 → a' = ((((((((((((a).put (some 11) (.pointer (some ⟨s.sb, 0, none⟩))).put (some 12) (.pointer (some ⟨s.sb, 0, none⟩))).put (some 13) (.pointer (some ⟨s.sb, 0, none⟩))).put (some 14) (.pointer (some ⟨s.sb, 0, none⟩))).put (some 15) (.map (some s.mb))).put (some 16) (k.v)).put (some 17) (.int .i64 (i : Int))).put (some 18) (.pointer (some ⟨s.g, 73 * i + 0, none⟩))).put (some 19) (.pointer (some ⟨s.g, 73 * i + 0, none⟩))).put (some 20) (.pointer (some ⟨s.g, 73 * i + 0 + 33, none⟩))).put (some 21) ((gt s.L i).kp.bh.v)).put (some 5) (.bool true) → Q .normal a' w') :
    (Code.region 3 be3_ops true).wp Try.prog Q a w := by
  refine wp_region_noPanic ?_
  refine wp_region_held_drew (S := fun w' => SeqAt w' s E ∧ IdAt w' b1 k ∧ True) (by kernel_rfl) (⟨hS.drew, ib1, trivial⟩) (fun hHeld => ?_)
  refine wpAnyH_take (i := 0) (oi := be3_o0) (v := .pointer (some ⟨s.sb, 0, none⟩)) rfl (by kernel_rfl) (by kernel_rfl) (by kernel_rfl) (fun _ _ _ h => h) (Or.inl ⟨by rfl, fun w1 hw => exec_move rfl t0⟩) hHeld ?_
  change wpAnyH _ _ _ _ _ _ _ (a.put (some 11) (.pointer (some ⟨s.sb, 0, none⟩))) _
  obtain ⟨a0, e0⟩ : ∃ act, act = a.put (some 11) (.pointer (some ⟨s.sb, 0, none⟩)) := ⟨_, rfl⟩
  rw [← e0] at h ⊢
  have z0 := pz e0 hsz
  replace t0 := pk e0 t0
  replace t3 := pk e0 t3
  replace t4 := pk e0 t4
  have t11 := pq e0 hsz
  clear e0 hsz
  refine wpAnyH_take (i := 1) (oi := be3_o1) (v := .pointer (some ⟨s.sb, 0, none⟩)) rfl (by kernel_rfl) (by kernel_rfl) (by kernel_rfl) (fun _ _ _ h => h) (Or.inl ⟨by rfl, fun w1 hw => exec_move rfl t0⟩) hHeld ?_
  change wpAnyH _ _ _ _ _ _ _ (a0.put (some 12) (.pointer (some ⟨s.sb, 0, none⟩))) _
  obtain ⟨a1, e1⟩ : ∃ act, act = a0.put (some 12) (.pointer (some ⟨s.sb, 0, none⟩)) := ⟨_, rfl⟩
  rw [← e1] at h ⊢
  have z1 := pz e1 z0
  replace t3 := pk e1 t3
  replace t4 := pk e1 t4
  replace t11 := pk e1 t11
  clear t0
  have t12 := pq e1 z0
  clear e1 z0
  refine wpAnyH_take (i := 2) (oi := be3_o2) (v := .pointer (some ⟨s.sb, 0, none⟩)) rfl (by kernel_rfl) (by kernel_rfl) (by kernel_rfl) (fun _ _ _ h => h) (Or.inl ⟨by rfl, fun w1 hw => exec_nilCheck rfl t12⟩) hHeld ?_
  change wpAnyH _ _ _ _ _ _ _ (a1.put (some 13) (.pointer (some ⟨s.sb, 0, none⟩))) _
  obtain ⟨a2, e2⟩ : ∃ act, act = a1.put (some 13) (.pointer (some ⟨s.sb, 0, none⟩)) := ⟨_, rfl⟩
  rw [← e2] at h ⊢
  have z2 := pz e2 z1
  replace t3 := pk e2 t3
  replace t4 := pk e2 t4
  replace t11 := pk e2 t11
  clear t12
  have t13 := pq e2 z1
  clear e2 z1
  refine wpAnyH_take (i := 3) (oi := be3_o3) (v := .pointer (some ⟨s.sb, 0, none⟩)) rfl (by kernel_rfl) (by kernel_rfl) (by kernel_rfl) (fun _ _ _ h => h) (Or.inl ⟨by rfl, fun w1 hw => exec_fieldAt rfl t13 (fg_70_0 _ _ _)⟩) hHeld ?_
  change wpAnyH _ _ _ _ _ _ _ (a2.put (some 14) (.pointer (some ⟨s.sb, 0, none⟩))) _
  obtain ⟨a3, e3⟩ : ∃ act, act = a2.put (some 14) (.pointer (some ⟨s.sb, 0, none⟩)) := ⟨_, rfl⟩
  rw [← e3] at h ⊢
  have z3 := pz e3 z2
  replace t3 := pk e3 t3
  replace t4 := pk e3 t4
  replace t11 := pk e3 t11
  clear t13
  have t14 := pq e3 z2
  clear e3 z2
  refine wpAnyH_take (i := 4) (oi := be3_o4) (v := .map (some s.mb)) rfl (by kernel_rfl) (by kernel_rfl) (by kernel_rfl) (fun _ _ _ h => h) (Or.inl ⟨by rfl, fun w1 hw => exec_load rfl t14 (ld_map hw.1.c0)⟩) hHeld ?_
  change wpAnyH _ _ _ _ _ _ _ (a3.put (some 15) (.map (some s.mb))) _
  obtain ⟨a4, e4⟩ : ∃ act, act = a3.put (some 15) (.map (some s.mb)) := ⟨_, rfl⟩
  rw [← e4] at h ⊢
  have z4 := pz e4 z3
  replace t3 := pk e4 t3
  replace t4 := pk e4 t4
  replace t11 := pk e4 t11
  clear t14
  have t15 := pq e4 z3
  clear e4 z3
  refine wpAnyH_take (i := 5) (oi := be3_o5) (v := k.v) rfl (by kernel_rfl) (by kernel_rfl) (by kernel_rfl) (fun _ _ _ h => h) (Or.inl ⟨by rfl, fun w1 hw => exec_load rfl t3 (load_id hk hw.2.1)⟩) hHeld ?_
  change wpAnyH _ _ _ _ _ _ _ (a4.put (some 16) (k.v)) _
  obtain ⟨a5, e5⟩ : ∃ act, act = a4.put (some 16) (k.v) := ⟨_, rfl⟩
  rw [← e5] at h ⊢
  have z5 := pz e5 z4
  replace t4 := pk e5 t4
  replace t11 := pk e5 t11
  replace t15 := pk e5 t15
  clear t3
  have t16 := pq e5 z4
  clear e5 z4
  refine wpAnyH_take (i := 6) (oi := be3_o6) (v := .int .i64 (i : Int)) rfl (by kernel_rfl) (by kernel_rfl) (by kernel_rfl) (fun _ _ _ h => h) (Or.inl ⟨by rfl, fun w1 hw => exec_lookup rfl t15 t16 (by rw [look_spot hw.1 k hk, ei])⟩) hHeld ?_
  change wpAnyH _ _ _ _ _ _ _ (a5.put (some 17) (.int .i64 (i : Int))) _
  obtain ⟨a6, e6⟩ : ∃ act, act = a5.put (some 17) (.int .i64 (i : Int)) := ⟨_, rfl⟩
  rw [← e6] at h ⊢
  have z6 := pz e6 z5
  replace t4 := pk e6 t4
  replace t11 := pk e6 t11
  clear t15 t16
  have t17 := pq e6 z5
  clear e6 z5
  refine wpAnyH_ready (rs := [7]) (by kernel_rfl) (by simp) ?_
  refine AllReadyH.cons (o := be3_o7) rfl (fun K hK => ?_) AllReadyH.nil
  rw [if_pos (by rfl)]
  unfold be3_o7 at hK ⊢
  go_simp
  refine (CE).mono ?_
  rintro e x7 ⟨rfl, rfl⟩
  try go_wp2_with fail
  refine hK.out _ _ (⟨hS.drew, ib1, trivial⟩) (fun hHeld => ?_)
  clear hK K
  change wpAnyH _ _ _ _ _ _ _ (a6.put (some 18) (.pointer (some ⟨s.g, 73 * i + 0, none⟩))) _
  obtain ⟨a7, e7⟩ : ∃ act, act = a6.put (some 18) (.pointer (some ⟨s.g, 73 * i + 0, none⟩)) := ⟨_, rfl⟩
  rw [← e7] at h ⊢
  have z7 := pz e7 z6
  replace t4 := pk e7 t4
  clear t11 t17
  have t18 := pq e7 z6
  clear e7 z6
  refine wpAnyH_take (i := 8) (oi := be3_o8) (v := .pointer (some ⟨s.g, 73 * i + 0, none⟩)) rfl (by kernel_rfl) (by kernel_rfl) (by kernel_rfl) (fun _ _ _ h => h) (Or.inl ⟨by rfl, fun w1 hw => exec_nilCheck rfl t18⟩) hHeld ?_
  change wpAnyH _ _ _ _ _ _ _ (a7.put (some 19) (.pointer (some ⟨s.g, 73 * i + 0, none⟩))) _
  obtain ⟨a8, e8⟩ : ∃ act, act = a7.put (some 19) (.pointer (some ⟨s.g, 73 * i + 0, none⟩)) := ⟨_, rfl⟩
  rw [← e8] at h ⊢
  have z8 := pz e8 z7
  replace t4 := pk e8 t4
  clear t18
  have t19 := pq e8 z7
  clear e8 z7
  refine wpAnyH_take (i := 9) (oi := be3_o9) (v := .pointer (some ⟨s.g, 73 * i + 0 + 33, none⟩)) rfl (by kernel_rfl) (by kernel_rfl) (by kernel_rfl) (fun _ _ _ h => h) (Or.inl ⟨by rfl, fun w1 hw => exec_fieldAt rfl t19 (fg_68_1 _ _ _)⟩) hHeld ?_
  change wpAnyH _ _ _ _ _ _ _ (a8.put (some 20) (.pointer (some ⟨s.g, 73 * i + 0 + 33, none⟩))) _
  obtain ⟨a9, e9⟩ : ∃ act, act = a8.put (some 20) (.pointer (some ⟨s.g, 73 * i + 0 + 33, none⟩)) := ⟨_, rfl⟩
  rw [← e9] at h ⊢
  have z9 := pz e9 z8
  replace t4 := pk e9 t4
  clear t19
  have t20 := pq e9 z8
  clear e9 z8
  refine wpAnyH_take (i := 10) (oi := be3_o10) (v := (gt s.L i).kp.bh.v) rfl (by kernel_rfl) (by kernel_rfl) (by kernel_rfl) (fun _ _ _ h => h) (Or.inl ⟨by rfl, fun w1 hw => exec_load rfl t20 (R_bh hw.1.row hi)⟩) hHeld ?_
  change wpAnyH _ _ _ _ _ _ _ (a9.put (some 21) ((gt s.L i).kp.bh.v)) _
  obtain ⟨a10, e10⟩ : ∃ act, act = a9.put (some 21) ((gt s.L i).kp.bh.v) := ⟨_, rfl⟩
  rw [← e10] at h ⊢
  have z10 := pz e10 z9
  replace t4 := pk e10 t4
  clear t20
  have t21 := pq e10 z9
  clear e10 z9
  refine wpAnyH_ready (rs := [11]) (by kernel_rfl) (by simp) ?_
  refine AllReadyH.cons (o := be3_o11) rfl (fun K hK => ?_) AllReadyH.nil
  have XX := exec_store (P := Try.prog) (a := a10) (o := be3_o11) rfl t4 t21 ES
  rw [if_pos (by rfl), Oper.wp, XX]
  show K _ _
  clear XX
  refine hK.out _ _ (⟨S2.1, S2.2, trivial⟩) (fun hHeld => ?_)
  clear hK K
  refine wpAnyH_take (i := 12) (oi := be3_o12) (v := .bool true) rfl (by kernel_rfl) (by kernel_rfl) (by kernel_rfl) (fun _ _ _ h => h) (Or.inl ⟨by rfl, fun w1 hw => exec_assign rfl rfl⟩) hHeld ?_
  change wpAnyH _ _ _ _ _ _ _ (a10.put (some 5) (.bool true)) _
  obtain ⟨a12, e12⟩ : ∃ act, act = a10.put (some 5) (.bool true) := ⟨_, rfl⟩
  rw [← e12] at h ⊢
  have z12 := pz e12 z10
  clear t4 t21
  clear e12 z10
  exact wpAnyH_done (by kernel_rfl) (NoPanic.normal (h _ _ (rfl) rfl)) _
def fi3_o0 : Oper := { dst := some 12, op := Op.move (Operand.tmp 0), type := 23, pos := "seq.go:177", after := #[], guard := none }
def fi3_o1 : Oper := { dst := some 13, op := Op.nilCheck (Operand.tmp 12), type := 0, pos := "seq.go:177", after := #[{ on := 0, ground := Ground.data }], guard := none }
def fi3_o2 : Oper := { dst := some 14, op := Op.fieldAddr 70 (Operand.tmp 13) 1, type := 0, pos := "seq.go:177", after := #[{ on := 1, ground := Ground.data }], guard := none }
def fi3_o3 : Oper := { dst := some 15, op := Op.move (Operand.tmp 1), type := 3, pos := "seq.go:177", after := #[], guard := none }
def fi3_o4 : Oper := { dst := some 16, op := Op.move (Operand.tmp 2), type := 3, pos := "seq.go:177", after := #[], guard := none }
def fi3_o5 : Oper := { dst := some 17, op := Op.call { callee := Callee.value (Operand.func 71), args := #[Operand.tmp 14, Operand.tmp 15, Operand.tmp 16], argTypes := #[65, 3, 3] }, type := 3, pos := "seq.go:177", after := #[{ on := 2, ground := Ground.data }, { on := 3, ground := Ground.data }, { on := 4, ground := Ground.data }], guard := none }
def fi3_o6 : Oper := { dst := some 8, op := Op.assign (Operand.tmp 17), type := 3, pos := "seq.go:177", after := #[{ on := 5, ground := Ground.data }, { on := 5, ground := Ground.chain }, { on := 0, ground := Ground.phase }, { on := 1, ground := Ground.phase }, { on := 2, ground := Ground.phase }, { on := 3, ground := Ground.phase }, { on := 4, ground := Ground.phase }, { on := 5, ground := Ground.phase }], guard := none }
def fi3_ops : Array Oper := #[fi3_o0, fi3_o1, fi3_o2, fi3_o3, fi3_o4, fi3_o5, fi3_o6]
set_option maxRecDepth 100000 in
set_option maxHeartbeats 4000000 in
theorem fi3 {s : Sx} {m : Int} {n : Nat} {c : Bool} (Fin : World → Prop) (a : Act) (w : World) (Q : Exit → Act → World → Prop) (hsz : a.tmps.size = 27)
    (t0 : a.tmps.getD 0 undef = .pointer (some ⟨s.sb, 0, none⟩))
    (t1 : a.tmps.getD 1 undef = .int .i64 m)
    (t2 : a.tmps.getD 2 undef = .int .i64 (nb c : Int))
    (CT : Calls Try.prog 71 #[.pointer (some ⟨s.sb, 1, none⟩), .int .i64 m, .int .i64 (nb c : Int)] w fun e w' => e = .returned (.int .i64 (n : Int)) ∧ Fin w')
    (h : ∀ (a' : Act) (w' : World), Fin w' → a' = (((((((a).put (some 12) (.pointer (some ⟨s.sb, 0, none⟩))).put (some 13) (.pointer (some ⟨s.sb, 0, none⟩))).put (some 14) (.pointer (some ⟨s.sb, 1, none⟩))).put (some 15) (.int .i64 m)).put (some 16) (.int .i64 (nb c : Int))).put (some 17) (.int .i64 (n : Int))).put (some 8) (.int .i64 (n : Int)) → Q .normal a' w') :
    (Code.region 3 fi3_ops false).wp Try.prog Q a w := by
  refine wp_region_list ?_
  change wpList _ _ _ [fi3_o0, fi3_o1, fi3_o2, fi3_o3, fi3_o4, fi3_o5, fi3_o6] _ _
  refine qv (v := .pointer (some ⟨s.sb, 0, none⟩)) (by rfl) (exec_move rfl t0) (fun a0 e0 => ?_)
  rw [← e0] at h
  have z0 := pz e0 hsz
  replace t1 := pk e0 t1
  replace t2 := pk e0 t2
  clear t0
  have t12 := pq e0 hsz
  clear e0 hsz
  refine qv (v := .pointer (some ⟨s.sb, 0, none⟩)) (by rfl) (exec_nilCheck rfl t12) (fun a1 e1 => ?_)
  rw [← e1] at h
  have z1 := pz e1 z0
  replace t1 := pk e1 t1
  replace t2 := pk e1 t2
  clear t12
  have t13 := pq e1 z0
  clear e1 z0
  refine qv (v := .pointer (some ⟨s.sb, 1, none⟩)) (by rfl) (exec_fieldAt rfl t13 (fg_70_1 _ _ _)) (fun a2 e2 => ?_)
  rw [← e2] at h
  have z2 := pz e2 z1
  replace t1 := pk e2 t1
  replace t2 := pk e2 t2
  clear t13
  have t14 := pq e2 z1
  clear e2 z1
  refine qv (v := .int .i64 m) (by rfl) (exec_move rfl t1) (fun a3 e3 => ?_)
  rw [← e3] at h
  have z3 := pz e3 z2
  replace t2 := pk e3 t2
  replace t14 := pk e3 t14
  clear t1
  have t15 := pq e3 z2
  clear e3 z2
  refine qv (v := .int .i64 (nb c : Int)) (by rfl) (exec_move rfl t2) (fun a4 e4 => ?_)
  rw [← e4] at h
  have z4 := pz e4 z3
  replace t14 := pk e4 t14
  replace t15 := pk e4 t15
  clear t2
  have t16 := pq e4 z3
  clear e4 z3
  refine qc (by rfl) (by unfold fi3_o5; go_simp) (CT) (fun e x5 hx => ?_)
  obtain ⟨rfl, HF⟩ := hx
  refine ⟨_, rfl, fun a5 e5 => ?_⟩
  rw [← e5] at h
  have z5 := pz e5 z4
  clear t14 t15 t16
  have t17 := pq e5 z4
  clear e5 z4
  refine qv (v := .int .i64 (n : Int)) (by rfl) (exec_assign rfl t17) (fun a6 e6 => ?_)
  rw [← e6] at h
  have z6 := pz e6 z5
  clear t17
  clear e6 z5
  exact wpList_nil (h _ _ (HF) rfl)
def fi4_o0 : Oper := { dst := some 18, op := Op.move (Operand.tmp 8), type := 3, pos := "seq.go:178", after := #[], guard := none }
def fi4_o1 : Oper := { dst := some 19, op := Op.binOp BinOp.eql 3 (Operand.tmp 18) (Operand.const (Value.int IntKind.i64 0)) 3, type := 4, pos := "seq.go:178", after := #[{ on := 0, ground := Ground.data }], guard := none }
def fi4_ops : Array Oper := #[fi4_o0, fi4_o1]
set_option maxRecDepth 100000 in
set_option maxHeartbeats 4000000 in
theorem fi4 {i : Nat} {r : Bool} (a : Act) (w : World) (Q : Exit → Act → World → Prop) (hsz : a.tmps.size = 27)
    (t8 : a.tmps.getD 8 undef = .int .i64 (i : Int))
    (hr : decide ((i : Int) = 0) = r)
    (h : ∀ (a' : Act) (w' : World), w' = w → a' = ((a).put (some 18) (.int .i64 (i : Int))).put (some 19) (.bool r) → Q .normal a' w') :
    (Code.region 4 fi4_ops false).wp Try.prog Q a w := by
  refine wp_region_list ?_
  change wpList _ _ _ [fi4_o0, fi4_o1] _ _
  refine qv (v := .int .i64 (i : Int)) (by rfl) (exec_move rfl t8) (fun a0 e0 => ?_)
  rw [← e0] at h
  have z0 := pz e0 hsz
  clear t8
  have t18 := pq e0 hsz
  clear e0 hsz
  refine qv (v := .bool r) (by rfl) (ex_eql rfl t18 rfl hr) (fun a1 e1 => ?_)
  rw [← e1] at h
  have z1 := pz e1 z0
  clear t18
  clear e1 z0
  exact wpList_nil (h _ _ (rfl) rfl)
def fi5_o0 : Oper := { dst := some 20, op := Op.build 32 #[], type := 32, pos := "seq.go:179", after := #[], guard := none }
def fi5_o1 : Oper := { dst := none, op := Op.store 32 (Operand.tmp 6) (Operand.tmp 20), type := 0, pos := "seq.go:179", after := #[{ on := 0, ground := Ground.data }, { on := 0, ground := Ground.phase }], guard := none }
def fi5_o2 : Oper := { dst := some 7, op := Op.assign (Operand.const (Value.bool false)), type := 4, pos := "seq.go:179", after := #[{ on := 1, ground := Ground.chain }, { on := 0, ground := Ground.phase }, { on := 1, ground := Ground.phase }], guard := none }
def fi5_ops : Array Oper := #[fi5_o0, fi5_o1, fi5_o2]
set_option maxRecDepth 100000 in
set_option maxHeartbeats 4000000 in
theorem fi5 {rb : Nat} {w2 : World} (a : Act) (w : World) (Q : Exit → Act → World → Prop) (hsz : a.tmps.size = 27)
    (t6 : a.tmps.getD 6 undef = .pointer (some ⟨rb, 0, none⟩))
    (ES : (Instr.storeAt 32 (.pointer (some ⟨rb, 0, none⟩)) zId.v).run Try.prog w = .ok () w2)
    (h : ∀ (a' : Act) (w' : World), w' = w2 → a' = ((a).put (some 20) (zId.v)).put (some 7) (.bool false) → Q .normal a' w') :
    (Code.region 5 fi5_ops false).wp Try.prog Q a w := by
  refine wp_region_list ?_
  change wpList _ _ _ [fi5_o0, fi5_o1, fi5_o2] _ _
  refine qv (v := zId.v) (by rfl) (exec_build0 rfl (build_id _)) (fun a0 e0 => ?_)
  rw [← e0] at h
  have z0 := pz e0 hsz
  replace t6 := pk e0 t6
  have t20 := pq e0 hsz
  clear e0 hsz
  refine qs (by rfl) (exec_store rfl t6 t20 ES) ?_
  refine qv (v := .bool false) (by rfl) (exec_assign rfl rfl) (fun a2 e2 => ?_)
  rw [← e2] at h
  have z2 := pz e2 z0
  clear t6 t20
  clear e2 z0
  exact wpList_nil (h _ _ (rfl) rfl)
def fi6_o0 : Oper := { dst := some 21, op := Op.move (Operand.tmp 0), type := 23, pos := "seq.go:181", after := #[], guard := none }
def fi6_o1 : Oper := { dst := some 22, op := Op.move (Operand.tmp 8), type := 3, pos := "seq.go:181", after := #[], guard := none }
def fi6_o2 : Oper := { dst := some 23, op := Op.call { callee := Callee.value (Operand.func 36), args := #[Operand.tmp 21, Operand.tmp 22], argTypes := #[23, 3] }, type := 74, pos := "seq.go:181", after := #[{ on := 0, ground := Ground.data }, { on := 1, ground := Ground.data }], guard := none }
def fi6_o3 : Oper := { dst := some 24, op := Op.nilCheck (Operand.tmp 23), type := 0, pos := "seq.go:181", after := #[{ on := 2, ground := Ground.data }], guard := none }
def fi6_o4 : Oper := { dst := some 25, op := Op.fieldAddr 68 (Operand.tmp 24) 0, type := 0, pos := "seq.go:181", after := #[{ on := 3, ground := Ground.data }], guard := none }
def fi6_o5 : Oper := { dst := some 26, op := Op.load 32 (Operand.tmp 25), type := 32, pos := "seq.go:181", after := #[{ on := 4, ground := Ground.data }], guard := none }
def fi6_o6 : Oper := { dst := none, op := Op.store 32 (Operand.tmp 6) (Operand.tmp 26), type := 0, pos := "seq.go:181", after := #[{ on := 5, ground := Ground.data }, { on := 2, ground := Ground.chain }, { on := 0, ground := Ground.phase }, { on := 1, ground := Ground.phase }, { on := 2, ground := Ground.phase }, { on := 3, ground := Ground.phase }, { on := 4, ground := Ground.phase }, { on := 5, ground := Ground.phase }], guard := none }
def fi6_o7 : Oper := { dst := some 7, op := Op.assign (Operand.const (Value.bool true)), type := 4, pos := "seq.go:181", after := #[{ on := 6, ground := Ground.chain }, { on := 0, ground := Ground.phase }, { on := 1, ground := Ground.phase }, { on := 2, ground := Ground.phase }, { on := 3, ground := Ground.phase }, { on := 4, ground := Ground.phase }, { on := 5, ground := Ground.phase }, { on := 6, ground := Ground.phase }], guard := none }
def fi6_ops : Array Oper := #[fi6_o0, fi6_o1, fi6_o2, fi6_o3, fi6_o4, fi6_o5, fi6_o6, fi6_o7]
set_option maxRecDepth 100000 in
set_option maxHeartbeats 4000000 in
theorem fi6 {s : Sx} {E : List Elt} {i rb : Nat} {w2 : World} (a : Act) (w : World) (Q : Exit → Act → World → Prop) (hsz : a.tmps.size = 27)
    (t0 : a.tmps.getD 0 undef = .pointer (some ⟨s.sb, 0, none⟩))
    (t8 : a.tmps.getD 8 undef = .int .i64 (i : Int))
    (t6 : a.tmps.getD 6 undef = .pointer (some ⟨rb, 0, none⟩))
    (hS : SeqAt w s E) (hi : i < s.L.length) (CE : Calls Try.prog 36 #[.pointer (some ⟨s.sb, 0, none⟩), .int .i64 (i : Int)] w fun e w' => e = .returned (.pointer (some ⟨s.g, 73 * i + 0, none⟩)) ∧ w' = w) (ES : (Instr.storeAt 32 (.pointer (some ⟨rb, 0, none⟩)) (gt s.L i).kp.id.v).run Try.prog w = .ok () w2)
    (h : ∀ (a' : Act) (w' : World), w' = w2 → a' = (((((((a).put (some 21) (.pointer (some ⟨s.sb, 0, none⟩))).put (some 22) (.int .i64 (i : Int))).put (some 23) (.pointer (some ⟨s.g, 73 * i + 0, none⟩))).put (some 24) (.pointer (some ⟨s.g, 73 * i + 0, none⟩))).put (some 25) (.pointer (some ⟨s.g, 73 * i + 0 + 0, none⟩))).put (some 26) ((gt s.L i).kp.id.v)).put (some 7) (.bool true) → Q .normal a' w') :
    (Code.region 6 fi6_ops false).wp Try.prog Q a w := by
  refine wp_region_list ?_
  change wpList _ _ _ [fi6_o0, fi6_o1, fi6_o2, fi6_o3, fi6_o4, fi6_o5, fi6_o6, fi6_o7] _ _
  refine qv (v := .pointer (some ⟨s.sb, 0, none⟩)) (by rfl) (exec_move rfl t0) (fun a0 e0 => ?_)
  rw [← e0] at h
  have z0 := pz e0 hsz
  replace t8 := pk e0 t8
  replace t6 := pk e0 t6
  clear t0
  have t21 := pq e0 hsz
  clear e0 hsz
  refine qv (v := .int .i64 (i : Int)) (by rfl) (exec_move rfl t8) (fun a1 e1 => ?_)
  rw [← e1] at h
  have z1 := pz e1 z0
  replace t6 := pk e1 t6
  replace t21 := pk e1 t21
  clear t8
  have t22 := pq e1 z0
  clear e1 z0
  refine qc (by rfl) (by unfold fi6_o2; go_simp) (CE) (fun e x2 hx => ?_)
  obtain ⟨rfl, rfl⟩ := hx
  refine ⟨_, rfl, fun a2 e2 => ?_⟩
  rw [← e2] at h
  have z2 := pz e2 z1
  replace t6 := pk e2 t6
  clear t21 t22
  have t23 := pq e2 z1
  clear e2 z1
  refine qv (v := .pointer (some ⟨s.g, 73 * i + 0, none⟩)) (by rfl) (exec_nilCheck rfl t23) (fun a3 e3 => ?_)
  rw [← e3] at h
  have z3 := pz e3 z2
  replace t6 := pk e3 t6
  clear t23
  have t24 := pq e3 z2
  clear e3 z2
  refine qv (v := .pointer (some ⟨s.g, 73 * i + 0 + 0, none⟩)) (by rfl) (exec_fieldAt rfl t24 (fg_68_0 _ _ _)) (fun a4 e4 => ?_)
  rw [← e4] at h
  have z4 := pz e4 z3
  replace t6 := pk e4 t6
  clear t24
  have t25 := pq e4 z3
  clear e4 z3
  refine qv (v := (gt s.L i).kp.id.v) (by rfl) (exec_load rfl t25 (R_id hS.row hi)) (fun a5 e5 => ?_)
  rw [← e5] at h
  have z5 := pz e5 z4
  replace t6 := pk e5 t6
  clear t25
  have t26 := pq e5 z4
  clear e5 z4
  refine qs (by rfl) (exec_store rfl t6 t26 ES) ?_
  refine qv (v := .bool true) (by rfl) (exec_assign rfl rfl) (fun a7 e7 => ?_)
  rw [← e7] at h
  have z7 := pz e7 z5
  clear t6 t26
  clear e7 z5
  exact wpList_nil (h _ _ (rfl) rfl)
def li3_o0 : Oper := { dst := some 9, op := Op.move (Operand.tmp 0), type := 23, pos := "seq.go:126", after := #[], guard := none }
def li3_o1 : Oper := { dst := some 10, op := Op.nilCheck (Operand.tmp 9), type := 0, pos := "seq.go:126", after := #[{ on := 0, ground := Ground.data }], guard := none }
def li3_o2 : Oper := { dst := some 11, op := Op.fieldAddr 70 (Operand.tmp 10) 1, type := 0, pos := "seq.go:126", after := #[{ on := 1, ground := Ground.data }], guard := none }
def li3_o3 : Oper := { dst := some 12, op := Op.move (Operand.tmp 1), type := 3, pos := "seq.go:126", after := #[], guard := none }
def li3_o4 : Oper := { dst := some 13, op := Op.call { callee := Callee.value (Operand.func 68), args := #[Operand.tmp 11, Operand.tmp 12], argTypes := #[65, 3] }, type := 3, pos := "seq.go:126", after := #[{ on := 2, ground := Ground.data }, { on := 3, ground := Ground.data }], guard := none }
def li3_o5 : Oper := { dst := some 14, op := Op.makeSlice 47 (Operand.const (Value.int IntKind.i64 0)) (Operand.tmp 13), type := 47, pos := "seq.go:126", after := #[{ on := 4, ground := Ground.data }], guard := none }
def li3_o6 : Oper := { dst := some 5, op := Op.alloc 47, type := 0, pos := "seq.go:126", after := #[], guard := none }
def li3_o7 : Oper := { dst := none, op := Op.store 47 (Operand.tmp 5) (Operand.tmp 14), type := 0, pos := "seq.go:126", after := #[{ on := 6, ground := Ground.data }, { on := 5, ground := Ground.data }, { on := 4, ground := Ground.chain }, { on := 0, ground := Ground.phase }, { on := 1, ground := Ground.phase }, { on := 2, ground := Ground.phase }, { on := 3, ground := Ground.phase }, { on := 4, ground := Ground.phase }, { on := 5, ground := Ground.phase }, { on := 6, ground := Ground.phase }], guard := none }
def li3_ops : Array Oper := #[li3_o0, li3_o1, li3_o2, li3_o3, li3_o4, li3_o5, li3_o6, li3_o7]
set_option maxRecDepth 100000 in
set_option maxHeartbeats 4000000 in
theorem li3 {s : Sx} {n g lb : Nat} {c : Bool} (Fin : World → Prop) (a : Act) (w : World) (Q : Exit → Act → World → Prop) (hsz : a.tmps.size = 27)
    (t0 : a.tmps.getD 0 undef = .pointer (some ⟨s.sb, 0, none⟩))
    (t1 : a.tmps.getD 1 undef = .int .i64 (nb c : Int))
    (CT : Calls Try.prog 68 #[.pointer (some ⟨s.sb, 1, none⟩), .int .i64 (nb c : Int)] w fun e w' => e = .returned (.int .i64 (n : Int)) ∧ ∃ y1 y2 y3, (Instr.makeSlice 47 (.int .i64 0) (.int .i64 (n : Int))).run Try.prog w' = .ok (.slice (some ⟨g, 0, none⟩) 0 n) y1 ∧ (Instr.alloc 47 true (.tuple #[])).run Try.prog y1 = .ok (.pointer (some ⟨lb, 0, none⟩)) y2 ∧ (Instr.storeAt 47 (.pointer (some ⟨lb, 0, none⟩)) (.slice (some ⟨g, 0, none⟩) 0 n)).run Try.prog y2 = .ok () y3 ∧ Fin y3)
    (h : ∀ (a' : Act) (w' : World), Fin w' → a' = (((((((a).put (some 9) (.pointer (some ⟨s.sb, 0, none⟩))).put (some 10) (.pointer (some ⟨s.sb, 0, none⟩))).put (some 11) (.pointer (some ⟨s.sb, 1, none⟩))).put (some 12) (.int .i64 (nb c : Int))).put (some 13) (.int .i64 (n : Int))).put (some 14) (.slice (some ⟨g, 0, none⟩) 0 n)).put (some 5) (.pointer (some ⟨lb, 0, none⟩)) → Q .normal a' w') :
    (Code.region 3 li3_ops false).wp Try.prog Q a w := by
  refine wp_region_list ?_
  change wpList _ _ _ [li3_o0, li3_o1, li3_o2, li3_o3, li3_o4, li3_o5, li3_o6, li3_o7] _ _
  refine qv (v := .pointer (some ⟨s.sb, 0, none⟩)) (by rfl) (exec_move rfl t0) (fun a0 e0 => ?_)
  rw [← e0] at h
  have z0 := pz e0 hsz
  replace t1 := pk e0 t1
  clear t0
  have t9 := pq e0 hsz
  clear e0 hsz
  refine qv (v := .pointer (some ⟨s.sb, 0, none⟩)) (by rfl) (exec_nilCheck rfl t9) (fun a1 e1 => ?_)
  rw [← e1] at h
  have z1 := pz e1 z0
  replace t1 := pk e1 t1
  clear t9
  have t10 := pq e1 z0
  clear e1 z0
  refine qv (v := .pointer (some ⟨s.sb, 1, none⟩)) (by rfl) (exec_fieldAt rfl t10 (fg_70_1 _ _ _)) (fun a2 e2 => ?_)
  rw [← e2] at h
  have z2 := pz e2 z1
  replace t1 := pk e2 t1
  clear t10
  have t11 := pq e2 z1
  clear e2 z1
  refine qv (v := .int .i64 (nb c : Int)) (by rfl) (exec_move rfl t1) (fun a3 e3 => ?_)
  rw [← e3] at h
  have z3 := pz e3 z2
  replace t11 := pk e3 t11
  clear t1
  have t12 := pq e3 z2
  clear e3 z2
  refine qc (by rfl) (by unfold li3_o4; go_simp) (CT) (fun e x4 hx => ?_)
  obtain ⟨rfl, y1, y2, y3, EM, EA, ES, HF⟩ := hx
  refine ⟨_, rfl, fun a4 e4 => ?_⟩
  rw [← e4] at h
  have z4 := pz e4 z3
  clear t11 t12
  have t13 := pq e4 z3
  clear e4 z3
  refine qk (v := .slice (some ⟨g, 0, none⟩) 0 n) (by rfl) (exec_makeSlice rfl rfl t13 EM) (fun a5 e5 => ?_)
  rw [← e5] at h
  have z5 := pz e5 z4
  clear t13
  have t14 := pq e5 z4
  clear e5 z4
  refine qk (v := .pointer (some ⟨lb, 0, none⟩)) (by rfl) (exec_alloc rfl EA) (fun a6 e6 => ?_)
  rw [← e6] at h
  have z6 := pz e6 z5
  replace t14 := pk e6 t14
  have t5 := pq e6 z5
  clear e6 z5
  refine qs (by rfl) (exec_store rfl t5 t14 ES) ?_
  exact wpList_nil (h _ _ (HF) rfl)
def li4_o0 : Oper := { dst := some 15, op := Op.move (Operand.tmp 0), type := 23, pos := "seq.go:127", after := #[], guard := none }
def li4_o1 : Oper := { dst := some 16, op := Op.nilCheck (Operand.tmp 15), type := 0, pos := "seq.go:127", after := #[{ on := 0, ground := Ground.data }], guard := none }
def li4_o2 : Oper := { dst := some 17, op := Op.fieldAddr 70 (Operand.tmp 16) 1, type := 0, pos := "seq.go:127", after := #[{ on := 1, ground := Ground.data }], guard := none }
def li4_o3 : Oper := { dst := some 18, op := Op.move (Operand.tmp 1), type := 3, pos := "seq.go:127", after := #[], guard := none }
def li4_o4 : Oper := { dst := some 19, op := Op.call { callee := Callee.value (Operand.func 69), args := #[Operand.tmp 17, Operand.tmp 18], argTypes := #[65, 3] }, type := 97, pos := "seq.go:127", after := #[{ on := 2, ground := Ground.data }, { on := 3, ground := Ground.data }], guard := none }
def li4_ops : Array Oper := #[li4_o0, li4_o1, li4_o2, li4_o3, li4_o4]
set_option maxRecDepth 100000 in
set_option maxHeartbeats 4000000 in
theorem li4 {s : Sx} {v : Value} {c : Bool} (Fin : World → Prop) (a : Act) (w : World) (Q : Exit → Act → World → Prop) (hsz : a.tmps.size = 27)
    (t0 : a.tmps.getD 0 undef = .pointer (some ⟨s.sb, 0, none⟩))
    (t1 : a.tmps.getD 1 undef = .int .i64 (nb c : Int))
    (CT : Calls Try.prog 69 #[.pointer (some ⟨s.sb, 1, none⟩), .int .i64 (nb c : Int)] w fun e w' => e = .returned v ∧ Fin w')
    (h : ∀ (a' : Act) (w' : World), Fin w' → a' = (((((a).put (some 15) (.pointer (some ⟨s.sb, 0, none⟩))).put (some 16) (.pointer (some ⟨s.sb, 0, none⟩))).put (some 17) (.pointer (some ⟨s.sb, 1, none⟩))).put (some 18) (.int .i64 (nb c : Int))).put (some 19) (v) → Q .normal a' w') :
    (Code.region 4 li4_ops false).wp Try.prog Q a w := by
  refine wp_region_list ?_
  change wpList _ _ _ [li4_o0, li4_o1, li4_o2, li4_o3, li4_o4] _ _
  refine qv (v := .pointer (some ⟨s.sb, 0, none⟩)) (by rfl) (exec_move rfl t0) (fun a0 e0 => ?_)
  rw [← e0] at h
  have z0 := pz e0 hsz
  replace t1 := pk e0 t1
  clear t0
  have t15 := pq e0 hsz
  clear e0 hsz
  refine qv (v := .pointer (some ⟨s.sb, 0, none⟩)) (by rfl) (exec_nilCheck rfl t15) (fun a1 e1 => ?_)
  rw [← e1] at h
  have z1 := pz e1 z0
  replace t1 := pk e1 t1
  clear t15
  have t16 := pq e1 z0
  clear e1 z0
  refine qv (v := .pointer (some ⟨s.sb, 1, none⟩)) (by rfl) (exec_fieldAt rfl t16 (fg_70_1 _ _ _)) (fun a2 e2 => ?_)
  rw [← e2] at h
  have z2 := pz e2 z1
  replace t1 := pk e2 t1
  clear t16
  have t17 := pq e2 z1
  clear e2 z1
  refine qv (v := .int .i64 (nb c : Int)) (by rfl) (exec_move rfl t1) (fun a3 e3 => ?_)
  rw [← e3] at h
  have z3 := pz e3 z2
  replace t17 := pk e3 t17
  clear t1
  have t18 := pq e3 z2
  clear e3 z2
  refine qc (by rfl) (by unfold li4_o4; go_simp) (CT) (fun e x4 hx => ?_)
  obtain ⟨rfl, HF⟩ := hx
  refine ⟨_, rfl, fun a4 e4 => ?_⟩
  rw [← e4] at h
  have z4 := pz e4 z3
  clear t17 t18
  clear e4 z3
  exact wpList_nil (h _ _ (HF) rfl)
def li5_o0 : Oper := { dst := some 6, op := Op.alloc 68, type := 0, pos := "seq.go:127", after := #[], guard := none }
def li5_o1 : Oper := { dst := none, op := Op.store 68 (Operand.tmp 6) (Operand.tmp 20), type := 0, pos := "seq.go:127", after := #[{ on := 0, ground := Ground.data }, { on := 0, ground := Ground.phase }], guard := none }
def li5_ops : Array Oper := #[li5_o0, li5_o1]
set_option maxRecDepth 100000 in
set_option maxHeartbeats 4000000 in
theorem li5 {l n eb : Nat} {v : Value} {w1 w2 : World} (a : Act) (w : World) (Q : Exit → Act → World → Prop) (hsz : a.tmps.size = 27)
    (t20 : a.tmps.getD 20 undef = v)
    (EA : (Instr.alloc 68 true (.tuple #[])).run Try.prog w = .ok (.pointer (some ⟨eb, 0, none⟩)) w1) (ES : (Instr.storeAt 68 (.pointer (some ⟨eb, 0, none⟩)) v).run Try.prog w1 = .ok () w2)
    (h : ∀ (a' : Act) (w' : World), w' = w2 → a' = (a).put (some 6) (.pointer (some ⟨eb, 0, none⟩)) → Q .normal a' w') :
    (Code.region 5 li5_ops false).wpIn (Fence.wide.inRound l) n Try.prog Q a w := by
  refine wpIn_region_list ?_
  change wpListIn _ _ _ _ _ [li5_o0, li5_o1] _ _
  refine qkI (v := .pointer (some ⟨eb, 0, none⟩)) (by rfl) (exec_alloc rfl EA) (fun a0 e0 => ?_)
  rw [← e0] at h
  have z0 := pz e0 hsz
  replace t20 := pk e0 t20
  have t6 := pq e0 hsz
  clear e0 hsz
  refine qsI (by rfl) (exec_store rfl t6 t20 ES) ?_
  exact wpListIn_nil (h _ _ (rfl) rfl)
def li6_o0 : Oper := { dst := some 21, op := Op.load 47 (Operand.tmp 5), type := 47, pos := "seq.go:128", after := #[], guard := none }
def li6_o1 : Oper := { dst := some 22, op := Op.fieldAddr 68 (Operand.tmp 6) 0, type := 0, pos := "seq.go:128", after := #[], guard := none }
def li6_o2 : Oper := { dst := some 23, op := Op.load 32 (Operand.tmp 22), type := 32, pos := "seq.go:128", after := #[{ on := 1, ground := Ground.data }], guard := none }
def li6_o3 : Oper := { dst := some 24, op := Op.buildSlice 47 1 #[(0, Operand.tmp 23)], type := 47, pos := "seq.go:128", after := #[{ on := 2, ground := Ground.data }], guard := none }
def li6_o4 : Oper := { dst := some 25, op := Op.call { callee := Callee.builtin Builtin.append, args := #[Operand.tmp 21, Operand.tmp 24], argTypes := #[47, 47] }, type := 47, pos := "seq.go:128", after := #[{ on := 0, ground := Ground.data }, { on := 3, ground := Ground.data }], guard := none }
def li6_o5 : Oper := { dst := none, op := Op.store 47 (Operand.tmp 5) (Operand.tmp 25), type := 0, pos := "seq.go:128", after := #[{ on := 4, ground := Ground.data }, { on := 4, ground := Ground.chain }, { on := 0, ground := Ground.phase }, { on := 1, ground := Ground.phase }, { on := 2, ground := Ground.phase }, { on := 3, ground := Ground.phase }, { on := 4, ground := Ground.phase }], guard := none }
def li6_ops : Array Oper := #[li6_o0, li6_o1, li6_o2, li6_o3, li6_o4, li6_o5]
set_option maxRecDepth 100000 in
set_option maxHeartbeats 4000000 in
theorem li6 {l n lb eb gb : Nat} {k : IdK} {u u2 : Value} {w1 w2 w3 : World} (a : Act) (w : World) (Q : Exit → Act → World → Prop) (hsz : a.tmps.size = 27)
    (t5 : a.tmps.getD 5 undef = .pointer (some ⟨lb, 0, none⟩))
    (t6 : a.tmps.getD 6 undef = .pointer (some ⟨eb, 0, none⟩))
    (L0 : (Instr.loadAt 47 (.pointer (some ⟨lb, 0, none⟩))).run Try.prog w = .ok u w) (L1 : (Instr.loadAt 32 (.pointer (some ⟨eb, 0, none⟩))).run Try.prog w = .ok k.v w) (EB : (Instr.buildSlice 47 1 #[(0, k.v)]).run Try.prog w = .ok (.slice (some ⟨gb, 0, none⟩) 1 1) w1) (EA : (Builtin.append_ #[47, 47] 47 #[u, .slice (some ⟨gb, 0, none⟩) 1 1]).run Try.prog w1 = .ok u2 w2) (ES : (Instr.storeAt 47 (.pointer (some ⟨lb, 0, none⟩)) u2).run Try.prog w2 = .ok () w3)
    (h : ∀ (a' : Act) (w' : World), w' = w3 → a' = (((((a).put (some 21) (u)).put (some 22) (.pointer (some ⟨eb, 0, none⟩))).put (some 23) (k.v)).put (some 24) (.slice (some ⟨gb, 0, none⟩) 1 1)).put (some 25) (u2) → Q .normal a' w') :
    (Code.region 6 li6_ops false).wpIn (Fence.wide.inRound l) n Try.prog Q a w := by
  refine wpIn_region_list ?_
  change wpListIn _ _ _ _ _ [li6_o0, li6_o1, li6_o2, li6_o3, li6_o4, li6_o5] _ _
  refine qvI (v := u) (by rfl) (exec_load rfl t5 L0) (fun a0 e0 => ?_)
  rw [← e0] at h
  have z0 := pz e0 hsz
  replace t5 := pk e0 t5
  replace t6 := pk e0 t6
  have t21 := pq e0 hsz
  clear e0 hsz
  refine qvI (v := .pointer (some ⟨eb, 0, none⟩)) (by rfl) (exec_fieldAt rfl t6 (fg_68_0 _ _ _)) (fun a1 e1 => ?_)
  rw [← e1] at h
  have z1 := pz e1 z0
  replace t5 := pk e1 t5
  replace t21 := pk e1 t21
  clear t6
  have t22 := pq e1 z0
  clear e1 z0
  refine qvI (v := k.v) (by rfl) (exec_load rfl t22 L1) (fun a2 e2 => ?_)
  rw [← e2] at h
  have z2 := pz e2 z1
  replace t5 := pk e2 t5
  replace t21 := pk e2 t21
  clear t22
  have t23 := pq e2 z1
  clear e2 z1
  refine qkI (v := .slice (some ⟨gb, 0, none⟩) 1 1) (by rfl) (exec_buildSlice rfl t23 EB) (fun a3 e3 => ?_)
  rw [← e3] at h
  have z3 := pz e3 z2
  replace t5 := pk e3 t5
  replace t21 := pk e3 t21
  clear t23
  have t24 := pq e3 z2
  clear e3 z2
  refine qkI (v := u2) (by rfl) (exec_append rfl t21 t24 EA) (fun a4 e4 => ?_)
  rw [← e4] at h
  have z4 := pz e4 z3
  replace t5 := pk e4 t5
  clear t21 t24
  have t25 := pq e4 z3
  clear e4 z3
  refine qsI (by rfl) (exec_store rfl t5 t25 ES) ?_
  exact wpListIn_nil (h _ _ (rfl) rfl)
def li7_o0 : Oper := { dst := some 26, op := Op.load 47 (Operand.tmp 5), type := 47, pos := "seq.go:130", after := #[], guard := none }
def li7_o1 : Oper := { dst := some 4, op := Op.assign (Operand.tmp 26), type := 47, pos := "seq.go:130", after := #[{ on := 0, ground := Ground.data }, { on := 0, ground := Ground.phase }], guard := none }
def li7_ops : Array Oper := #[li7_o0, li7_o1]
set_option maxRecDepth 100000 in
set_option maxHeartbeats 4000000 in
theorem li7 {lb : Nat} {u : Value} (a : Act) (w : World) (Q : Exit → Act → World → Prop) (hsz : a.tmps.size = 27)
    (t5 : a.tmps.getD 5 undef = .pointer (some ⟨lb, 0, none⟩))
    (L0 : (Instr.loadAt 47 (.pointer (some ⟨lb, 0, none⟩))).run Try.prog w = .ok u w)
    (h : ∀ (a' : Act) (w' : World), w' = w → a' = ((a).put (some 26) (u)).put (some 4) (u) → Q .normal a' w') :
    (Code.region 7 li7_ops false).wp Try.prog Q a w := by
  refine wp_region_list ?_
  change wpList _ _ _ [li7_o0, li7_o1] _ _
  refine qv (v := u) (by rfl) (exec_load rfl t5 L0) (fun a0 e0 => ?_)
  rw [← e0] at h
  have z0 := pz e0 hsz
  clear t5
  have t26 := pq e0 hsz
  clear e0 hsz
  refine qv (v := u) (by rfl) (exec_assign rfl t26) (fun a1 e1 => ?_)
  rw [← e1] at h
  have z1 := pz e1 z0
  clear t26
  clear e1 z0
  exact wpList_nil (h _ _ (rfl) rfl)
end Go.Proofs.Ytpdepbakopdgpaa
