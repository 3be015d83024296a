import Derived.Test.YtpdepbakopdgpaaXg
namespace Go.Proofs.Ytpdepbakopdgpaa
open Go.RowKit Sq
set_option linter.unusedVariables false
set_option linter.unusedSimpArgs false

theorem ex_nb {w : World} {a : Act} {o : Oper} {x y : Operand} {s : Bool} (ho : o.op = .binOp .sub 3 x y 3) (hx : a.eval x = .int .i64 1) (hy : a.eval y = .int .i64 (nb s : Int)) : (execOp a.eval o).run Try.prog w = .ok (.value (.int .i64 (nb (!s) : Int))) w := by
  have := ex_sub (w := w) ho hx hy (by cases s <;> decide)
  rw [this]
  cases s <;> rfl
theorem ex_ix2 {w : World} {a : Act} {o : Oper} {x y : Operand} {s : Bool} {q : Sp} (ho : o.op = .index 87 x y) (hx : a.eval x = .agg #[.int .i64 (q.l : Int), .int .i64 (q.r : Int)]) (hy : a.eval y = .int .i64 (nb s : Int)) : (execOp a.eval o).run Try.prog w = .ok (.value (.int .i64 (dn q s : Int))) w := by
  unfold execOp
  rw [ho]
  simp only [hx, hy]
  have hs := m_sz (t := 3) (n := 1) (by kernel_rfl) w
  have p0 : (Go.part 3 #[.int .i64 (q.l : Int), .int .i64 (q.r : Int)] 0).run Try.prog w = .ok (.int .i64 (q.l : Int)) w := m_one (agInt w) rfl
  have p1 : (Go.part 3 #[.int .i64 (q.l : Int), .int .i64 (q.r : Int)] 1).run Try.prog w = .ok (.int .i64 (q.r : Int)) w := m_one (agInt w) rfl
  cases s <;> simp only [nb, dn, Bool.false_eq_true, if_false, if_true] <;> simp [Instr.index, run_underlying Try.underlying87, asIntOf, hs, p0, p1, Sem.run_bind, Result.andThen]
def MS (rb ro g cap N : Nat) (w' : World) : Prop := (Instr.loadAt 63 (.pointer (some ⟨rb, ro + 0, none⟩))).run Try.prog w' = .ok (.slice (some ⟨g, 0, none⟩) N cap) w'
def lift0r_o0 : Oper := { dst := some 6, op := Op.move (Operand.tmp 0), type := 90, pos := "row.go:210", after := #[], guard := none }
def lift0r_o1 : Oper := { dst := some 7, op := Op.nilCheck (Operand.tmp 6), type := 0, pos := "row.go:210", after := #[{ on := 0, ground := Ground.data }], guard := none }
def lift0r_o2 : Oper := { dst := some 8, op := Op.fieldAddr 65 (Operand.tmp 7) 0, type := 0, pos := "row.go:210", after := #[{ on := 1, ground := Ground.data }], guard := none }
def lift0r_o3 : Oper := { dst := some 9, op := Op.load 63 (Operand.tmp 8), type := 63, pos := "row.go:210", after := #[{ on := 2, ground := Ground.data }], guard := none }
def lift0r_o4 : Oper := { dst := some 10, op := Op.move (Operand.tmp 1), type := 3, pos := "row.go:210", after := #[], guard := none }
def lift0r_o5 : Oper := { dst := some 11, op := Op.indexAddr 63 (Operand.tmp 9) (Operand.tmp 10), type := 0, pos := "row.go:210", after := #[{ on := 3, ground := Ground.data }, { on := 4, ground := Ground.data }], guard := none }
def lift0r_o6 : Oper := { dst := some 12, op := Op.fieldAddr 89 (Operand.tmp 11) 2, type := 0, pos := "row.go:210", after := #[{ on := 5, ground := Ground.data }], guard := none }
def lift0r_o7 : Oper := { dst := some 13, op := Op.load 3 (Operand.tmp 12), type := 3, pos := "row.go:210", after := #[{ on := 6, ground := Ground.data }], guard := none }
def lift0r_o8 : Oper := { dst := some 14, op := Op.move (Operand.tmp 0), type := 90, pos := "row.go:210", after := #[], guard := none }
def lift0r_o9 : Oper := { dst := some 15, op := Op.move (Operand.tmp 1), type := 3, pos := "row.go:210", after := #[], guard := none }
def lift0r_o10 : Oper := { dst := some 16, op := Op.call { callee := Callee.value (Operand.func 74), args := #[Operand.tmp 14, Operand.tmp 15], argTypes := #[90, 3] }, type := 3, pos := "row.go:210", after := #[{ on := 8, ground := Ground.data }, { on := 9, ground := Ground.data }], guard := none }
def lift0r_o11 : Oper := { dst := some 4, op := Op.assign (Operand.tmp 13), type := 3, pos := "row.go:210", after := #[{ on := 7, ground := Ground.data }, { on := 10, ground := Ground.chain }, { on := 0, ground := Ground.phase }, { on := 1, ground := Ground.phase }, { on := 2, ground := Ground.phase }, { on := 3, ground := Ground.phase }, { on := 4, ground := Ground.phase }, { on := 5, ground := Ground.phase }, { on := 6, ground := Ground.phase }, { on := 7, ground := Ground.phase }, { on := 8, ground := Ground.textOnly Departure.lateStores }, { on := 9, ground := Ground.textOnly Departure.lateStores }, { on := 10, ground := Ground.textOnly Departure.lateStoresUnsure }], guard := none }
def lift0r_o12 : Oper := { dst := some 5, op := Op.assign (Operand.tmp 16), type := 3, pos := "row.go:210", after := #[{ on := 10, ground := Ground.data }, { on := 11, ground := Ground.chain }, { on := 0, ground := Ground.phase }, { on := 1, ground := Ground.phase }, { on := 2, ground := Ground.phase }, { on := 3, ground := Ground.phase }, { on := 4, ground := Ground.phase }, { on := 5, ground := Ground.phase }, { on := 6, ground := Ground.phase }, { on := 7, ground := Ground.phase }, { on := 8, ground := Ground.phase }, { on := 9, ground := Ground.phase }, { on := 10, ground := Ground.phase }, { on := 11, ground := Ground.phase }], guard := none }
def lift0r_ops : Array Oper := #[lift0r_o0, lift0r_o1, lift0r_o2, lift0r_o3, lift0r_o4, lift0r_o5, lift0r_o6, lift0r_o7, lift0r_o8, lift0r_o9, lift0r_o10, lift0r_o11, lift0r_o12]
set_option maxRecDepth 100000 in
set_option maxHeartbeats 4000000 in
theorem lift0r {rb ro g cap : Nat} {L : List Sp} {i : Nat} {s : Bool} (a : Act) (w : World) (Q : Exit → Act → World → Prop) (hsz : a.tmps.size = 48)
    (t0 : a.tmps.getD 0 undef = .pointer (some ⟨rb, ro, none⟩))
    (t1 : a.tmps.getD 1 undef = .int .i64 (i : Int))
    (hR : SqAt w rb ro g cap L) (hi : i < L.length) (hl : L.length ≤ 1400000000000) (CS : Calls Try.prog 74 #[.pointer (some ⟨rb, ro, none⟩), .int .i64 (i : Int)] w.drew fun e w' => e = .returned (.int .i64 (nb s : Int)) ∧ SqAt w' rb ro g cap L ∧ Qt w w')
    (h : ∀ (a' : Act) (w' : World), SqAt w' rb ro g cap L ∧ Qt w w' → a' = (((((((((((((a).put (some 6) (.pointer (some ⟨rb, ro, none⟩))).put (some 7) (.pointer (some ⟨rb, ro, none⟩))).put (some 8) (.pointer (some ⟨rb, ro + 0, none⟩))).put (some 9) (.slice (some ⟨g, 0, none⟩) (L).length cap)).put (some 10) (.int .i64 (i : Int))).put (some 11) (.pointer (some ⟨g, 73 * i, none⟩))).put (some 12) (.pointer (some ⟨g, 73 * i + 68, none⟩))).put (some 13) (.int .i64 ((gt L i).up : Int))).put (some 14) (.pointer (some ⟨rb, ro, none⟩))).put (some 15) (.int .i64 (i : Int))).put (some 16) (.int .i64 (nb s : Int))).put (some 4) (.int .i64 ((gt L i).up : Int))).put (some 5) (.int .i64 (nb s : Int)) → Q .normal a' w') :
    (Code.region 0 lift0r_ops true).wp Try.prog Q a w := by
  refine wp_region_noPanic ?_
  refine wp_region_held_drew (S := fun w' => SqAt w' rb ro g cap L ∧ Qt w w') (by kernel_rfl) (⟨hR.drew, Qt.drew w⟩) (fun hHeld => ?_)
  refine wpAnyH_take (i := 0) (oi := lift0r_o0) (v := .pointer (some ⟨rb, ro, none⟩)) rfl (by kernel_rfl) (by kernel_rfl) (by kernel_rfl) (fun _ _ _ h => h) (Or.inl ⟨by rfl, fun w1 hw => exec_move rfl t0⟩) hHeld ?_
  change wpAnyH _ _ _ _ _ _ _ (a.put (some 6) (.pointer (some ⟨rb, ro, none⟩))) _
  obtain ⟨a0, e0⟩ : ∃ act, act = a.put (some 6) (.pointer (some ⟨rb, ro, none⟩)) := ⟨_, rfl⟩
  rw [← e0] at h ⊢
  have z0 := pz e0 hsz
  replace t0 := pk e0 t0
  replace t1 := pk e0 t1
  have t6 := pq e0 hsz
  clear e0 hsz
  refine wpAnyH_take (i := 1) (oi := lift0r_o1) (v := .pointer (some ⟨rb, ro, none⟩)) rfl (by kernel_rfl) (by kernel_rfl) (by kernel_rfl) (fun _ _ _ h => h) (Or.inl ⟨by rfl, fun w1 hw => exec_nilCheck rfl t6⟩) hHeld ?_
  change wpAnyH _ _ _ _ _ _ _ (a0.put (some 7) (.pointer (some ⟨rb, ro, none⟩))) _
  obtain ⟨a1, e1⟩ : ∃ act, act = a0.put (some 7) (.pointer (some ⟨rb, ro, none⟩)) := ⟨_, rfl⟩
  rw [← e1] at h ⊢
  have z1 := pz e1 z0
  replace t0 := pk e1 t0
  replace t1 := pk e1 t1
  clear t6
  have t7 := pq e1 z0
  clear e1 z0
  refine wpAnyH_take (i := 2) (oi := lift0r_o2) (v := .pointer (some ⟨rb, ro + 0, none⟩)) rfl (by kernel_rfl) (by kernel_rfl) (by kernel_rfl) (fun _ _ _ h => h) (Or.inl ⟨by rfl, fun w1 hw => exec_fieldAt rfl t7 (fg_65_0 _ _ _)⟩) hHeld ?_
  change wpAnyH _ _ _ _ _ _ _ (a1.put (some 8) (.pointer (some ⟨rb, ro + 0, none⟩))) _
  obtain ⟨a2, e2⟩ : ∃ act, act = a1.put (some 8) (.pointer (some ⟨rb, ro + 0, none⟩)) := ⟨_, rfl⟩
  rw [← e2] at h ⊢
  have z2 := pz e2 z1
  replace t0 := pk e2 t0
  replace t1 := pk e2 t1
  clear t7
  have t8 := pq e2 z1
  clear e2 z1
  refine wpAnyH_take (i := 3) (oi := lift0r_o3) (v := .slice (some ⟨g, 0, none⟩) (L).length cap) rfl (by kernel_rfl) (by kernel_rfl) (by kernel_rfl) (fun _ _ _ h => h) (Or.inl ⟨by rfl, fun w1 hw => exec_load rfl t8 (R_sl hw.1)⟩) hHeld ?_
  change wpAnyH _ _ _ _ _ _ _ (a2.put (some 9) (.slice (some ⟨g, 0, none⟩) (L).length cap)) _
  obtain ⟨a3, e3⟩ : ∃ act, act = a2.put (some 9) (.slice (some ⟨g, 0, none⟩) (L).length cap) := ⟨_, rfl⟩
  rw [← e3] at h ⊢
  have z3 := pz e3 z2
  replace t0 := pk e3 t0
  replace t1 := pk e3 t1
  clear t8
  have t9 := pq e3 z2
  clear e3 z2
  refine wpAnyH_take (i := 4) (oi := lift0r_o4) (v := .int .i64 (i : Int)) rfl (by kernel_rfl) (by kernel_rfl) (by kernel_rfl) (fun _ _ _ h => h) (Or.inl ⟨by rfl, fun w1 hw => exec_move rfl t1⟩) hHeld ?_
  change wpAnyH _ _ _ _ _ _ _ (a3.put (some 10) (.int .i64 (i : Int))) _
  obtain ⟨a4, e4⟩ : ∃ act, act = a3.put (some 10) (.int .i64 (i : Int)) := ⟨_, rfl⟩
  rw [← e4] at h ⊢
  have z4 := pz e4 z3
  replace t0 := pk e4 t0
  replace t1 := pk e4 t1
  replace t9 := pk e4 t9
  have t10 := pq e4 z3
  clear e4 z3
  refine wpAnyH_take (i := 5) (oi := lift0r_o5) (v := .pointer (some ⟨g, 73 * i, none⟩)) rfl (by kernel_rfl) (by kernel_rfl) (by kernel_rfl) (fun _ _ _ h => h) (Or.inl ⟨by rfl, fun w1 hw => exec_indexAt rfl t9 t10 (R_ix hi hl _)⟩) hHeld ?_
  change wpAnyH _ _ _ _ _ _ _ (a4.put (some 11) (.pointer (some ⟨g, 73 * i, none⟩))) _
  obtain ⟨a5, e5⟩ : ∃ act, act = a4.put (some 11) (.pointer (some ⟨g, 73 * i, none⟩)) := ⟨_, rfl⟩
  rw [← e5] at h ⊢
  have z5 := pz e5 z4
  replace t0 := pk e5 t0
  replace t1 := pk e5 t1
  clear t9 t10
  have t11 := pq e5 z4
  clear e5 z4
  refine wpAnyH_take (i := 6) (oi := lift0r_o6) (v := .pointer (some ⟨g, 73 * i + 68, none⟩)) rfl (by kernel_rfl) (by kernel_rfl) (by kernel_rfl) (fun _ _ _ h => h) (Or.inl ⟨by rfl, fun w1 hw => exec_fieldAt rfl t11 (fg_89_2 _ _ _)⟩) hHeld ?_
  change wpAnyH _ _ _ _ _ _ _ (a5.put (some 12) (.pointer (some ⟨g, 73 * i + 68, none⟩))) _
  obtain ⟨a6, e6⟩ : ∃ act, act = a5.put (some 12) (.pointer (some ⟨g, 73 * i + 68, none⟩)) := ⟨_, rfl⟩
  rw [← e6] at h ⊢
  have z6 := pz e6 z5
  replace t0 := pk e6 t0
  replace t1 := pk e6 t1
  clear t11
  have t12 := pq e6 z5
  clear e6 z5
  refine wpAnyH_take (i := 7) (oi := lift0r_o7) (v := .int .i64 ((gt L i).up : Int)) rfl (by kernel_rfl) (by kernel_rfl) (by kernel_rfl) (fun _ _ _ h => h) (Or.inl ⟨by rfl, fun w1 hw => exec_load rfl t12 (R_up hw.1 hi)⟩) hHeld ?_
  change wpAnyH _ _ _ _ _ _ _ (a6.put (some 13) (.int .i64 ((gt L i).up : Int))) _
  obtain ⟨a7, e7⟩ : ∃ act, act = a6.put (some 13) (.int .i64 ((gt L i).up : Int)) := ⟨_, rfl⟩
  rw [← e7] at h ⊢
  have z7 := pz e7 z6
  replace t0 := pk e7 t0
  replace t1 := pk e7 t1
  clear t12
  have t13 := pq e7 z6
  clear e7 z6
  refine wpAnyH_take (i := 8) (oi := lift0r_o8) (v := .pointer (some ⟨rb, ro, none⟩)) rfl (by kernel_rfl) (by kernel_rfl) (by kernel_rfl) (fun _ _ _ h => h) (Or.inl ⟨by rfl, fun w1 hw => exec_move rfl t0⟩) hHeld ?_
  change wpAnyH _ _ _ _ _ _ _ (a7.put (some 14) (.pointer (some ⟨rb, ro, none⟩))) _
  obtain ⟨a8, e8⟩ : ∃ act, act = a7.put (some 14) (.pointer (some ⟨rb, ro, none⟩)) := ⟨_, rfl⟩
  rw [← e8] at h ⊢
  have z8 := pz e8 z7
  replace t1 := pk e8 t1
  replace t13 := pk e8 t13
  clear t0
  have t14 := pq e8 z7
  clear e8 z7
  refine wpAnyH_take (i := 9) (oi := lift0r_o9) (v := .int .i64 (i : Int)) rfl (by kernel_rfl) (by kernel_rfl) (by kernel_rfl) (fun _ _ _ h => h) (Or.inl ⟨by rfl, fun w1 hw => exec_move rfl t1⟩) hHeld ?_
  change wpAnyH _ _ _ _ _ _ _ (a8.put (some 15) (.int .i64 (i : Int))) _
  obtain ⟨a9, e9⟩ : ∃ act, act = a8.put (some 15) (.int .i64 (i : Int)) := ⟨_, rfl⟩
  rw [← e9] at h ⊢
  have z9 := pz e9 z8
  replace t13 := pk e9 t13
  replace t14 := pk e9 t14
  clear t1
  have t15 := pq e9 z8
  clear e9 z8
  refine wpAnyH_ready (rs := [10]) (by kernel_rfl) (by simp) ?_
  refine AllReadyH.cons (o := lift0r_o10) rfl (fun K hK => ?_) AllReadyH.nil
  rw [if_pos (by rfl)]
  unfold lift0r_o10 at hK ⊢
  go_simp
  refine (CS).mono ?_
  rintro e x10 ⟨rfl, S1⟩
  try go_wp2_with fail
  refine hK.out _ _ (S1) (fun hHeld => ?_)
  clear hK K
  change wpAnyH _ _ _ _ _ _ _ (a9.put (some 16) (.int .i64 (nb s : Int))) _
  obtain ⟨a10, e10⟩ : ∃ act, act = a9.put (some 16) (.int .i64 (nb s : Int)) := ⟨_, rfl⟩
  rw [← e10] at h ⊢
  have z10 := pz e10 z9
  replace t13 := pk e10 t13
  clear t14 t15
  have t16 := pq e10 z9
  clear e10 z9
  refine wpAnyH_take (i := 11) (oi := lift0r_o11) (v := .int .i64 ((gt L i).up : Int)) rfl (by kernel_rfl) (by kernel_rfl) (by kernel_rfl) (fun _ _ _ h => h) (Or.inl ⟨by rfl, fun w1 hw => exec_assign rfl t13⟩) hHeld ?_
  change wpAnyH _ _ _ _ _ _ _ (a10.put (some 4) (.int .i64 ((gt L i).up : Int))) _
  obtain ⟨a11, e11⟩ : ∃ act, act = a10.put (some 4) (.int .i64 ((gt L i).up : Int)) := ⟨_, rfl⟩
  rw [← e11] at h ⊢
  have z11 := pz e11 z10
  replace t16 := pk e11 t16
  clear t13
  clear e11 z10
  refine wpAnyH_take (i := 12) (oi := lift0r_o12) (v := .int .i64 (nb s : Int)) rfl (by kernel_rfl) (by kernel_rfl) (by kernel_rfl) (fun _ _ _ h => h) (Or.inl ⟨by rfl, fun w1 hw => exec_assign rfl t16⟩) hHeld ?_
  change wpAnyH _ _ _ _ _ _ _ (a11.put (some 5) (.int .i64 (nb s : Int))) _
  obtain ⟨a12, e12⟩ : ∃ act, act = a11.put (some 5) (.int .i64 (nb s : Int)) := ⟨_, rfl⟩
  rw [← e12] at h ⊢
  have z12 := pz e12 z11
  clear t16
  clear e12 z11
  exact wpAnyH_done (by kernel_rfl) (NoPanic.normal (h _ _ (hHeld) rfl)) _
def lift2r_o0 : Oper := { dst := some 21, op := Op.move (Operand.tmp 0), type := 90, pos := "row.go:212", after := #[], guard := none }
def lift2r_o1 : Oper := { dst := some 22, op := Op.move (Operand.tmp 4), type := 3, pos := "row.go:212", after := #[], guard := none }
def lift2r_o2 : Oper := { dst := some 23, op := Op.move (Operand.tmp 5), type := 3, pos := "row.go:212", after := #[], guard := none }
def lift2r_o3 : Oper := { dst := some 24, op := Op.move (Operand.tmp 0), type := 90, pos := "row.go:212", after := #[], guard := none }
def lift2r_o4 : Oper := { dst := some 25, op := Op.nilCheck (Operand.tmp 24), type := 0, pos := "row.go:212", after := #[{ on := 3, ground := Ground.data }], guard := none }
def lift2r_o5 : Oper := { dst := some 26, op := Op.fieldAddr 65 (Operand.tmp 25) 0, type := 0, pos := "row.go:212", after := #[{ on := 4, ground := Ground.data }], guard := none }
def lift2r_o6 : Oper := { dst := some 27, op := Op.load 63 (Operand.tmp 26), type := 63, pos := "row.go:212", after := #[{ on := 5, ground := Ground.data }], guard := none }
def lift2r_o7 : Oper := { dst := some 28, op := Op.move (Operand.tmp 1), type := 3, pos := "row.go:212", after := #[], guard := none }
def lift2r_o8 : Oper := { dst := some 29, op := Op.move (Operand.tmp 5), type := 3, pos := "row.go:212", after := #[], guard := none }
def lift2r_o9 : Oper := { dst := some 30, op := Op.binOp BinOp.sub 3 (Operand.const (Value.int IntKind.i64 1)) (Operand.tmp 29) 3, type := 3, pos := "row.go:212", after := #[{ on := 8, ground := Ground.data }], guard := none }
def lift2r_o10 : Oper := { dst := some 31, op := Op.indexAddr 63 (Operand.tmp 27) (Operand.tmp 28), type := 0, pos := "row.go:212", after := #[{ on := 6, ground := Ground.data }, { on := 7, ground := Ground.data }], guard := none }
def lift2r_o11 : Oper := { dst := some 32, op := Op.fieldAddr 89 (Operand.tmp 31) 3, type := 0, pos := "row.go:212", after := #[{ on := 10, ground := Ground.data }], guard := none }
def lift2r_o12 : Oper := { dst := some 33, op := Op.indexAddr 87 (Operand.tmp 32) (Operand.tmp 30), type := 0, pos := "row.go:212", after := #[{ on := 11, ground := Ground.data }, { on := 9, ground := Ground.data }], guard := none }
def lift2r_o13 : Oper := { dst := some 34, op := Op.load 3 (Operand.tmp 33), type := 3, pos := "row.go:212", after := #[{ on := 12, ground := Ground.data }], guard := none }
def lift2r_o14 : Oper := { dst := some 35, op := Op.call { callee := Callee.value (Operand.func 59), args := #[Operand.tmp 21, Operand.tmp 22, Operand.tmp 23, Operand.tmp 34], argTypes := #[90, 3, 3, 3] }, type := 0, pos := "row.go:212", after := #[{ on := 0, ground := Ground.data }, { on := 1, ground := Ground.data }, { on := 2, ground := Ground.data }, { on := 13, ground := Ground.data }], guard := none }
def lift2r_ops : Array Oper := #[lift2r_o0, lift2r_o1, lift2r_o2, lift2r_o3, lift2r_o4, lift2r_o5, lift2r_o6, lift2r_o7, lift2r_o8, lift2r_o9, lift2r_o10, lift2r_o11, lift2r_o12, lift2r_o13, lift2r_o14]
set_option maxRecDepth 100000 in
set_option maxHeartbeats 4000000 in
theorem lift2r {rb ro g cap : Nat} {L : List Sp} {i u : Nat} {s : Bool} (Fin : World → Prop) (a : Act) (w : World) (Q : Exit → Act → World → Prop) (hsz : a.tmps.size = 48)
    (t0 : a.tmps.getD 0 undef = .pointer (some ⟨rb, ro, none⟩))
    (t1 : a.tmps.getD 1 undef = .int .i64 (i : Int))
    (t4 : a.tmps.getD 4 undef = .int .i64 (u : Int))
    (t5 : a.tmps.getD 5 undef = .int .i64 (nb s : Int))
    (hR : SqAt w rb ro g cap L) (hi : i < L.length) (CH : Calls Try.prog 59 #[.pointer (some ⟨rb, ro, none⟩), .int .i64 (u : Int), .int .i64 (nb s : Int), .int .i64 (dn (gt L i) (!s) : Int)] w fun e w' => e = .returned (.tuple #[]) ∧ Fin w')
    (h : ∀ (a' : Act) (w' : World), Fin w' → a' = (((((((((((((((a).put (some 21) (.pointer (some ⟨rb, ro, none⟩))).put (some 22) (.int .i64 (u : Int))).put (some 23) (.int .i64 (nb s : Int))).put (some 24) (.pointer (some ⟨rb, ro, none⟩))).put (some 25) (.pointer (some ⟨rb, ro, none⟩))).put (some 26) (.pointer (some ⟨rb, ro + 0, none⟩))).put (some 27) (.slice (some ⟨g, 0, none⟩) (L).length cap)).put (some 28) (.int .i64 (i : Int))).put (some 29) (.int .i64 (nb s : Int))).put (some 30) (.int .i64 (nb (!s) : Int))).put (some 31) (.pointer (some ⟨g, 73 * i, none⟩))).put (some 32) (.pointer (some ⟨g, 73 * i + 69, none⟩))).put (some 33) (.pointer (some ⟨g, 73 * i + 69 + nb (!s), none⟩))).put (some 34) (.int .i64 (dn (gt L i) (!s) : Int))).put (some 35) (.tuple #[]) → Q .normal a' w') :
    (Code.region 2 lift2r_ops false).wp Try.prog Q a w := by
  refine wp_region_list ?_
  change wpList _ _ _ [lift2r_o0, lift2r_o1, lift2r_o2, lift2r_o3, lift2r_o4, lift2r_o5, lift2r_o6, lift2r_o7, lift2r_o8, lift2r_o9, lift2r_o10, lift2r_o11, lift2r_o12, lift2r_o13, lift2r_o14] _ _
  refine qv (v := .pointer (some ⟨rb, ro, none⟩)) (by rfl) (exec_move rfl t0) (fun a0 e0 => ?_)
  rw [← e0] at h
  have z0 := pz e0 hsz
  replace t0 := pk e0 t0
  replace t1 := pk e0 t1
  replace t4 := pk e0 t4
  replace t5 := pk e0 t5
  have t21 := pq e0 hsz
  clear e0 hsz
  refine qv (v := .int .i64 (u : Int)) (by rfl) (exec_move rfl t4) (fun a1 e1 => ?_)
  rw [← e1] at h
  have z1 := pz e1 z0
  replace t0 := pk e1 t0
  replace t1 := pk e1 t1
  replace t5 := pk e1 t5
  replace t21 := pk e1 t21
  clear t4
  have t22 := pq e1 z0
  clear e1 z0
  refine qv (v := .int .i64 (nb s : Int)) (by rfl) (exec_move rfl t5) (fun a2 e2 => ?_)
  rw [← e2] at h
  have z2 := pz e2 z1
  replace t0 := pk e2 t0
  replace t1 := pk e2 t1
  replace t5 := pk e2 t5
  replace t21 := pk e2 t21
  replace t22 := pk e2 t22
  have t23 := pq e2 z1
  clear e2 z1
  refine qv (v := .pointer (some ⟨rb, ro, none⟩)) (by rfl) (exec_move rfl t0) (fun a3 e3 => ?_)
  rw [← e3] at h
  have z3 := pz e3 z2
  replace t1 := pk e3 t1
  replace t5 := pk e3 t5
  replace t21 := pk e3 t21
  replace t22 := pk e3 t22
  replace t23 := pk e3 t23
  clear t0
  have t24 := pq e3 z2
  clear e3 z2
  refine qv (v := .pointer (some ⟨rb, ro, none⟩)) (by rfl) (exec_nilCheck rfl t24) (fun a4 e4 => ?_)
  rw [← e4] at h
  have z4 := pz e4 z3
  replace t1 := pk e4 t1
  replace t5 := pk e4 t5
  replace t21 := pk e4 t21
  replace t22 := pk e4 t22
  replace t23 := pk e4 t23
  clear t24
  have t25 := pq e4 z3
  clear e4 z3
  refine qv (v := .pointer (some ⟨rb, ro + 0, none⟩)) (by rfl) (exec_fieldAt rfl t25 (fg_65_0 _ _ _)) (fun a5 e5 => ?_)
  rw [← e5] at h
  have z5 := pz e5 z4
  replace t1 := pk e5 t1
  replace t5 := pk e5 t5
  replace t21 := pk e5 t21
  replace t22 := pk e5 t22
  replace t23 := pk e5 t23
  clear t25
  have t26 := pq e5 z4
  clear e5 z4
  refine qv (v := .slice (some ⟨g, 0, none⟩) (L).length cap) (by rfl) (exec_load rfl t26 (R_sl hR)) (fun a6 e6 => ?_)
  rw [← e6] at h
  have z6 := pz e6 z5
  replace t1 := pk e6 t1
  replace t5 := pk e6 t5
  replace t21 := pk e6 t21
  replace t22 := pk e6 t22
  replace t23 := pk e6 t23
  clear t26
  have t27 := pq e6 z5
  clear e6 z5
  refine qv (v := .int .i64 (i : Int)) (by rfl) (exec_move rfl t1) (fun a7 e7 => ?_)
  rw [← e7] at h
  have z7 := pz e7 z6
  replace t5 := pk e7 t5
  replace t21 := pk e7 t21
  replace t22 := pk e7 t22
  replace t23 := pk e7 t23
  replace t27 := pk e7 t27
  clear t1
  have t28 := pq e7 z6
  clear e7 z6
  refine qv (v := .int .i64 (nb s : Int)) (by rfl) (exec_move rfl t5) (fun a8 e8 => ?_)
  rw [← e8] at h
  have z8 := pz e8 z7
  replace t21 := pk e8 t21
  replace t22 := pk e8 t22
  replace t23 := pk e8 t23
  replace t27 := pk e8 t27
  replace t28 := pk e8 t28
  clear t5
  have t29 := pq e8 z7
  clear e8 z7
  refine qv (v := .int .i64 (nb (!s) : Int)) (by rfl) (ex_nb rfl rfl t29) (fun a9 e9 => ?_)
  rw [← e9] at h
  have z9 := pz e9 z8
  replace t21 := pk e9 t21
  replace t22 := pk e9 t22
  replace t23 := pk e9 t23
  replace t27 := pk e9 t27
  replace t28 := pk e9 t28
  clear t29
  have t30 := pq e9 z8
  clear e9 z8
  refine qv (v := .pointer (some ⟨g, 73 * i, none⟩)) (by rfl) (exec_indexAt rfl t27 t28 (R_ix hi hR.len _)) (fun a10 e10 => ?_)
  rw [← e10] at h
  have z10 := pz e10 z9
  replace t21 := pk e10 t21
  replace t22 := pk e10 t22
  replace t23 := pk e10 t23
  replace t30 := pk e10 t30
  clear t27 t28
  have t31 := pq e10 z9
  clear e10 z9
  refine qv (v := .pointer (some ⟨g, 73 * i + 69, none⟩)) (by rfl) (exec_fieldAt rfl t31 (fg_89_3 _ _ _)) (fun a11 e11 => ?_)
  rw [← e11] at h
  have z11 := pz e11 z10
  replace t21 := pk e11 t21
  replace t22 := pk e11 t22
  replace t23 := pk e11 t23
  replace t30 := pk e11 t30
  clear t31
  have t32 := pq e11 z10
  clear e11 z10
  refine qv (v := .pointer (some ⟨g, 73 * i + 69 + nb (!s), none⟩)) (by rfl) (exec_indexAt rfl t32 t30 (ix_ar _ (!s) _)) (fun a12 e12 => ?_)
  rw [← e12] at h
  have z12 := pz e12 z11
  replace t21 := pk e12 t21
  replace t22 := pk e12 t22
  replace t23 := pk e12 t23
  clear t30 t32
  have t33 := pq e12 z11
  clear e12 z11
  refine qv (v := .int .i64 (dn (gt L i) (!s) : Int)) (by rfl) (exec_load rfl t33 (R_dn hR hi (!s))) (fun a13 e13 => ?_)
  rw [← e13] at h
  have z13 := pz e13 z12
  replace t21 := pk e13 t21
  replace t22 := pk e13 t22
  replace t23 := pk e13 t23
  clear t33
  have t34 := pq e13 z12
  clear e13 z12
  refine qc (by rfl) (by unfold lift2r_o14; go_simp) (CH) (fun e x14 hx => ?_)
  obtain ⟨rfl, HF⟩ := hx
  refine ⟨_, rfl, fun a14 e14 => ?_⟩
  rw [← e14] at h
  have z14 := pz e14 z13
  clear t21 t22 t23 t34
  clear e14 z13
  exact wpList_nil (h _ _ (HF) rfl)
def lift3r_o0 : Oper := { dst := some 36, op := Op.move (Operand.tmp 0), type := 90, pos := "row.go:213", after := #[], guard := none }
def lift3r_o1 : Oper := { dst := some 37, op := Op.move (Operand.tmp 1), type := 3, pos := "row.go:213", after := #[], guard := none }
def lift3r_o2 : Oper := { dst := some 38, op := Op.move (Operand.tmp 5), type := 3, pos := "row.go:213", after := #[], guard := none }
def lift3r_o3 : Oper := { dst := some 39, op := Op.binOp BinOp.sub 3 (Operand.const (Value.int IntKind.i64 1)) (Operand.tmp 38) 3, type := 3, pos := "row.go:213", after := #[{ on := 2, ground := Ground.data }], guard := none }
def lift3r_o4 : Oper := { dst := some 40, op := Op.move (Operand.tmp 4), type := 3, pos := "row.go:213", after := #[], guard := none }
def lift3r_o5 : Oper := { dst := some 41, op := Op.call { callee := Callee.value (Operand.func 59), args := #[Operand.tmp 36, Operand.tmp 37, Operand.tmp 39, Operand.tmp 40], argTypes := #[90, 3, 3, 3] }, type := 0, pos := "row.go:213", after := #[{ on := 0, ground := Ground.data }, { on := 1, ground := Ground.data }, { on := 3, ground := Ground.data }, { on := 4, ground := Ground.data }], guard := none }
def lift3r_ops : Array Oper := #[lift3r_o0, lift3r_o1, lift3r_o2, lift3r_o3, lift3r_o4, lift3r_o5]
set_option maxRecDepth 100000 in
set_option maxHeartbeats 4000000 in
theorem lift3r {rb ro i u : Nat} {s : Bool} (Fin : World → Prop) (a : Act) (w : World) (Q : Exit → Act → World → Prop) (hsz : a.tmps.size = 48)
    (t0 : a.tmps.getD 0 undef = .pointer (some ⟨rb, ro, none⟩))
    (t1 : a.tmps.getD 1 undef = .int .i64 (i : Int))
    (t4 : a.tmps.getD 4 undef = .int .i64 (u : Int))
    (t5 : a.tmps.getD 5 undef = .int .i64 (nb s : Int))
    (CH : Calls Try.prog 59 #[.pointer (some ⟨rb, ro, none⟩), .int .i64 (i : Int), .int .i64 (nb (!s) : Int), .int .i64 (u : Int)] w fun e w' => e = .returned (.tuple #[]) ∧ Fin w')
    (h : ∀ (a' : Act) (w' : World), Fin w' → a' = ((((((a).put (some 36) (.pointer (some ⟨rb, ro, none⟩))).put (some 37) (.int .i64 (i : Int))).put (some 38) (.int .i64 (nb s : Int))).put (some 39) (.int .i64 (nb (!s) : Int))).put (some 40) (.int .i64 (u : Int))).put (some 41) (.tuple #[]) → Q .normal a' w') :
    (Code.region 3 lift3r_ops false).wp Try.prog Q a w := by
  refine wp_region_list ?_
  change wpList _ _ _ [lift3r_o0, lift3r_o1, lift3r_o2, lift3r_o3, lift3r_o4, lift3r_o5] _ _
  refine qv (v := .pointer (some ⟨rb, ro, none⟩)) (by rfl) (exec_move rfl t0) (fun a0 e0 => ?_)
  rw [← e0] at h
  have z0 := pz e0 hsz
  replace t1 := pk e0 t1
  replace t4 := pk e0 t4
  replace t5 := pk e0 t5
  clear t0
  have t36 := pq e0 hsz
  clear e0 hsz
  refine qv (v := .int .i64 (i : Int)) (by rfl) (exec_move rfl t1) (fun a1 e1 => ?_)
  rw [← e1] at h
  have z1 := pz e1 z0
  replace t4 := pk e1 t4
  replace t5 := pk e1 t5
  replace t36 := pk e1 t36
  clear t1
  have t37 := pq e1 z0
  clear e1 z0
  refine qv (v := .int .i64 (nb s : Int)) (by rfl) (exec_move rfl t5) (fun a2 e2 => ?_)
  rw [← e2] at h
  have z2 := pz e2 z1
  replace t4 := pk e2 t4
  replace t36 := pk e2 t36
  replace t37 := pk e2 t37
  clear t5
  have t38 := pq e2 z1
  clear e2 z1
  refine qv (v := .int .i64 (nb (!s) : Int)) (by rfl) (ex_nb rfl rfl t38) (fun a3 e3 => ?_)
  rw [← e3] at h
  have z3 := pz e3 z2
  replace t4 := pk e3 t4
  replace t36 := pk e3 t36
  replace t37 := pk e3 t37
  clear t38
  have t39 := pq e3 z2
  clear e3 z2
  refine qv (v := .int .i64 (u : Int)) (by rfl) (exec_move rfl t4) (fun a4 e4 => ?_)
  rw [← e4] at h
  have z4 := pz e4 z3
  replace t36 := pk e4 t36
  replace t37 := pk e4 t37
  replace t39 := pk e4 t39
  clear t4
  have t40 := pq e4 z3
  clear e4 z3
  refine qc (by rfl) (by unfold lift3r_o5; go_simp) (CH) (fun e x5 hx => ?_)
  obtain ⟨rfl, HF⟩ := hx
  refine ⟨_, rfl, fun a5 e5 => ?_⟩
  rw [← e5] at h
  have z5 := pz e5 z4
  clear t36 t37 t39 t40
  clear e5 z4
  exact wpList_nil (h _ _ (HF) rfl)
def even1_o0 : Oper := { dst := some 10, op := Op.move (Operand.tmp 0), type := 90, pos := "row.go:192", after := #[], guard := none }
def even1_o1 : Oper := { dst := some 11, op := Op.nilCheck (Operand.tmp 10), type := 0, pos := "row.go:192", after := #[{ on := 0, ground := Ground.data }], guard := none }
def even1_o2 : Oper := { dst := some 12, op := Op.fieldAddr 65 (Operand.tmp 11) 0, type := 0, pos := "row.go:192", after := #[{ on := 1, ground := Ground.data }], guard := none }
def even1_o3 : Oper := { dst := some 13, op := Op.load 63 (Operand.tmp 12), type := 63, pos := "row.go:192", after := #[{ on := 2, ground := Ground.data }], guard := none }
def even1_o4 : Oper := { dst := some 14, op := Op.move (Operand.tmp 1), type := 3, pos := "row.go:192", after := #[], guard := none }
def even1_o5 : Oper := { dst := some 15, op := Op.indexAddr 63 (Operand.tmp 13) (Operand.tmp 14), type := 0, pos := "row.go:192", after := #[{ on := 3, ground := Ground.data }, { on := 4, ground := Ground.data }], guard := none }
def even1_o6 : Oper := { dst := some 16, op := Op.fieldAddr 89 (Operand.tmp 15) 3, type := 0, pos := "row.go:192", after := #[{ on := 5, ground := Ground.data }], guard := none }
def even1_o7 : Oper := { dst := some 17, op := Op.load 87 (Operand.tmp 16), type := 87, pos := "row.go:192", after := #[{ on := 6, ground := Ground.data }], guard := none }
def even1_o8 : Oper := { dst := some 18, op := Op.move (Operand.const (Value.int IntKind.i64 0)), type := 3, pos := "row.go:192", after := #[], guard := none }
def even1_ops : Array Oper := #[even1_o0, even1_o1, even1_o2, even1_o3, even1_o4, even1_o5, even1_o6, even1_o7, even1_o8]
set_option maxRecDepth 100000 in
set_option maxHeartbeats 4000000 in
theorem even1 {rb ro g cap : Nat} {L : List Sp} {i : Nat} (a : Act) (w : World) (Q : Exit → Act → World → Prop) (hsz : a.tmps.size = 79)
    (t0 : a.tmps.getD 0 undef = .pointer (some ⟨rb, ro, none⟩))
    (t1 : a.tmps.getD 1 undef = .int .i64 (i : Int))
    (hR : SqAt w rb ro g cap L) (hi : i < L.length)
    (h : ∀ (a' : Act) (w' : World), w' = w → a' = (((((((((a).put (some 10) (.pointer (some ⟨rb, ro, none⟩))).put (some 11) (.pointer (some ⟨rb, ro, none⟩))).put (some 12) (.pointer (some ⟨rb, ro + 0, none⟩))).put (some 13) (.slice (some ⟨g, 0, none⟩) (L).length cap)).put (some 14) (.int .i64 (i : Int))).put (some 15) (.pointer (some ⟨g, 73 * i, none⟩))).put (some 16) (.pointer (some ⟨g, 73 * i + 69, none⟩))).put (some 17) (.agg #[.int .i64 ((gt L i).l : Int), .int .i64 ((gt L i).r : Int)])).put (some 18) (.int .i64 0) → Q .normal a' w') :
    (Code.region 1 even1_ops false).wp Try.prog Q a w := by
  refine wp_region_list ?_
  change wpList _ _ _ [even1_o0, even1_o1, even1_o2, even1_o3, even1_o4, even1_o5, even1_o6, even1_o7, even1_o8] _ _
  refine qv (v := .pointer (some ⟨rb, ro, none⟩)) (by rfl) (exec_move rfl t0) (fun a0 e0 => ?_)
  rw [← e0] at h
  have z0 := pz e0 hsz
  replace t1 := pk e0 t1
  clear t0
  have t10 := pq e0 hsz
  clear e0 hsz
  refine qv (v := .pointer (some ⟨rb, ro, none⟩)) (by rfl) (exec_nilCheck rfl t10) (fun a1 e1 => ?_)
  rw [← e1] at h
  have z1 := pz e1 z0
  replace t1 := pk e1 t1
  clear t10
  have t11 := pq e1 z0
  clear e1 z0
  refine qv (v := .pointer (some ⟨rb, ro + 0, none⟩)) (by rfl) (exec_fieldAt rfl t11 (fg_65_0 _ _ _)) (fun a2 e2 => ?_)
  rw [← e2] at h
  have z2 := pz e2 z1
  replace t1 := pk e2 t1
  clear t11
  have t12 := pq e2 z1
  clear e2 z1
  refine qv (v := .slice (some ⟨g, 0, none⟩) (L).length cap) (by rfl) (exec_load rfl t12 (R_sl hR)) (fun a3 e3 => ?_)
  rw [← e3] at h
  have z3 := pz e3 z2
  replace t1 := pk e3 t1
  clear t12
  have t13 := pq e3 z2
  clear e3 z2
  refine qv (v := .int .i64 (i : Int)) (by rfl) (exec_move rfl t1) (fun a4 e4 => ?_)
  rw [← e4] at h
  have z4 := pz e4 z3
  replace t13 := pk e4 t13
  clear t1
  have t14 := pq e4 z3
  clear e4 z3
  refine qv (v := .pointer (some ⟨g, 73 * i, none⟩)) (by rfl) (exec_indexAt rfl t13 t14 (R_ix hi hR.len _)) (fun a5 e5 => ?_)
  rw [← e5] at h
  have z5 := pz e5 z4
  clear t13 t14
  have t15 := pq e5 z4
  clear e5 z4
  refine qv (v := .pointer (some ⟨g, 73 * i + 69, none⟩)) (by rfl) (exec_fieldAt rfl t15 (fg_89_3 _ _ _)) (fun a6 e6 => ?_)
  rw [← e6] at h
  have z6 := pz e6 z5
  clear t15
  have t16 := pq e6 z5
  clear e6 z5
  refine qv (v := .agg #[.int .i64 ((gt L i).l : Int), .int .i64 ((gt L i).r : Int)]) (by rfl) (exec_load rfl t16 (R_down hR hi)) (fun a7 e7 => ?_)
  rw [← e7] at h
  have z7 := pz e7 z6
  clear t16
  clear e7 z6
  refine qv (v := .int .i64 0) (by rfl) (exec_move rfl rfl) (fun a8 e8 => ?_)
  rw [← e8] at h
  have z8 := pz e8 z7
  clear e8 z7
  exact wpList_nil (h _ _ (rfl) rfl)
def even3_o0 : Oper := { dst := some 20, op := Op.move (Operand.tmp 18), type := 3, pos := "row.go:192", after := #[], guard := none }
def even3_o1 : Oper := { dst := some 21, op := Op.index 87 (Operand.tmp 17) (Operand.tmp 18), type := 3, pos := "row.go:192", after := #[], guard := none }
def even3_o2 : Oper := { dst := some 5, op := Op.assign (Operand.tmp 20), type := 3, pos := "row.go:192", after := #[{ on := 0, ground := Ground.data }, { on := 0, ground := Ground.phase }, { on := 1, ground := Ground.phase }], guard := none }
def even3_o3 : Oper := { dst := some 6, op := Op.assign (Operand.tmp 21), type := 3, pos := "row.go:192", after := #[{ on := 1, ground := Ground.data }, { on := 2, ground := Ground.chain }, { on := 0, ground := Ground.phase }, { on := 1, ground := Ground.phase }, { on := 2, ground := Ground.phase }], guard := none }
def even3_ops : Array Oper := #[even3_o0, even3_o1, even3_o2, even3_o3]
set_option maxRecDepth 100000 in
set_option maxHeartbeats 4000000 in
theorem even3 {L : List Sp} {i : Nat} {s : Bool} (a : Act) (w : World) (Q : Exit → Act → World → Prop) (hsz : a.tmps.size = 79)
    (t17 : a.tmps.getD 17 undef = .agg #[.int .i64 ((gt L i).l : Int), .int .i64 ((gt L i).r : Int)])
    (t18 : a.tmps.getD 18 undef = .int .i64 (nb s : Int))
    (h : ∀ (a' : Act) (w' : World), w' = w → a' = ((((a).put (some 20) (.int .i64 (nb s : Int))).put (some 21) (.int .i64 (dn (gt L i) s : Int))).put (some 5) (.int .i64 (nb s : Int))).put (some 6) (.int .i64 (dn (gt L i) s : Int)) → Q .normal a' w') :
    (Code.region 3 even3_ops false).wp Try.prog Q a w := by
  refine wp_region_list ?_
  change wpList _ _ _ [even3_o0, even3_o1, even3_o2, even3_o3] _ _
  refine qv (v := .int .i64 (nb s : Int)) (by rfl) (exec_move rfl t18) (fun a0 e0 => ?_)
  rw [← e0] at h
  have z0 := pz e0 hsz
  replace t17 := pk e0 t17
  replace t18 := pk e0 t18
  have t20 := pq e0 hsz
  clear e0 hsz
  refine qv (v := .int .i64 (dn (gt L i) s : Int)) (by rfl) (ex_ix2 rfl t17 t18) (fun a1 e1 => ?_)
  rw [← e1] at h
  have z1 := pz e1 z0
  replace t20 := pk e1 t20
  clear t17 t18
  have t21 := pq e1 z0
  clear e1 z0
  refine qv (v := .int .i64 (nb s : Int)) (by rfl) (exec_assign rfl t20) (fun a2 e2 => ?_)
  rw [← e2] at h
  have z2 := pz e2 z1
  replace t21 := pk e2 t21
  clear t20
  clear e2 z1
  refine qv (v := .int .i64 (dn (gt L i) s : Int)) (by rfl) (exec_assign rfl t21) (fun a3 e3 => ?_)
  rw [← e3] at h
  have z3 := pz e3 z2
  clear t21
  clear e3 z2
  exact wpList_nil (h _ _ (rfl) rfl)
def even4_o0 : Oper := { dst := some 22, op := Op.move (Operand.tmp 5), type := 3, pos := "row.go:193", after := #[], guard := none }
def even4_o1 : Oper := { dst := some 23, op := Op.binOp BinOp.sub 3 (Operand.const (Value.int IntKind.i64 1)) (Operand.tmp 22) 3, type := 3, pos := "row.go:193", after := #[{ on := 0, ground := Ground.data }], guard := none }
def even4_o2 : Oper := { dst := some 7, op := Op.assign (Operand.tmp 23), type := 3, pos := "row.go:193", after := #[{ on := 1, ground := Ground.data }, { on := 0, ground := Ground.phase }, { on := 1, ground := Ground.phase }], guard := none }
def even4_ops : Array Oper := #[even4_o0, even4_o1, even4_o2]
set_option maxRecDepth 100000 in
set_option maxHeartbeats 4000000 in
theorem even4 {s : Bool} (a : Act) (w : World) (Q : Exit → Act → World → Prop) (hsz : a.tmps.size = 79)
    (t5 : a.tmps.getD 5 undef = .int .i64 (nb s : Int))
    (h : ∀ (a' : Act) (w' : World), w' = w → a' = (((a).put (some 22) (.int .i64 (nb s : Int))).put (some 23) (.int .i64 (nb (!s) : Int))).put (some 7) (.int .i64 (nb (!s) : Int)) → Q .normal a' w') :
    (Code.region 4 even4_ops false).wp Try.prog Q a w := by
  refine wp_region_list ?_
  change wpList _ _ _ [even4_o0, even4_o1, even4_o2] _ _
  refine qv (v := .int .i64 (nb s : Int)) (by rfl) (exec_move rfl t5) (fun a0 e0 => ?_)
  rw [← e0] at h
  have z0 := pz e0 hsz
  clear t5
  have t22 := pq e0 hsz
  clear e0 hsz
  refine qv (v := .int .i64 (nb (!s) : Int)) (by rfl) (ex_nb rfl rfl t22) (fun a1 e1 => ?_)
  rw [← e1] at h
  have z1 := pz e1 z0
  clear t22
  have t23 := pq e1 z0
  clear e1 z0
  refine qv (v := .int .i64 (nb (!s) : Int)) (by rfl) (exec_assign rfl t23) (fun a2 e2 => ?_)
  rw [← e2] at h
  have z2 := pz e2 z1
  clear t23
  clear e2 z1
  exact wpList_nil (h _ _ (rfl) rfl)
def even5_o0 : Oper := { dst := some 24, op := Op.move (Operand.tmp 0), type := 90, pos := "row.go:194", after := #[], guard := none }
def even5_o1 : Oper := { dst := some 25, op := Op.move (Operand.tmp 6), type := 3, pos := "row.go:194", after := #[], guard := none }
def even5_o2 : Oper := { dst := some 26, op := Op.call { callee := Callee.value (Operand.func 81), args := #[Operand.tmp 24, Operand.tmp 25], argTypes := #[90, 3] }, type := 3, pos := "row.go:194", after := #[{ on := 0, ground := Ground.data }, { on := 1, ground := Ground.data }], guard := none }
def even5_o3 : Oper := { dst := some 27, op := Op.move (Operand.tmp 0), type := 90, pos := "row.go:194", after := #[], guard := none }
def even5_o4 : Oper := { dst := some 28, op := Op.move (Operand.tmp 0), type := 90, pos := "row.go:194", after := #[], guard := none }
def even5_o5 : Oper := { dst := some 29, op := Op.nilCheck (Operand.tmp 28), type := 0, pos := "row.go:194", after := #[{ on := 4, ground := Ground.data }], guard := none }
def even5_o6 : Oper := { dst := some 30, op := Op.fieldAddr 65 (Operand.tmp 29) 0, type := 0, pos := "row.go:194", after := #[{ on := 5, ground := Ground.data }], guard := none }
def even5_o7 : Oper := { dst := some 31, op := Op.load 63 (Operand.tmp 30), type := 63, pos := "row.go:194", after := #[{ on := 6, ground := Ground.data }], guard := none }
def even5_o8 : Oper := { dst := some 32, op := Op.move (Operand.tmp 1), type := 3, pos := "row.go:194", after := #[], guard := none }
def even5_o9 : Oper := { dst := some 33, op := Op.move (Operand.tmp 7), type := 3, pos := "row.go:194", after := #[], guard := none }
def even5_o10 : Oper := { dst := some 34, op := Op.indexAddr 63 (Operand.tmp 31) (Operand.tmp 32), type := 0, pos := "row.go:194", after := #[{ on := 7, ground := Ground.data }, { on := 8, ground := Ground.data }], guard := none }
def even5_o11 : Oper := { dst := some 35, op := Op.fieldAddr 89 (Operand.tmp 34) 3, type := 0, pos := "row.go:194", after := #[{ on := 10, ground := Ground.data }], guard := none }
def even5_o12 : Oper := { dst := some 36, op := Op.indexAddr 87 (Operand.tmp 35) (Operand.tmp 33), type := 0, pos := "row.go:194", after := #[{ on := 11, ground := Ground.data }, { on := 9, ground := Ground.data }], guard := none }
def even5_o13 : Oper := { dst := some 37, op := Op.load 3 (Operand.tmp 36), type := 3, pos := "row.go:194", after := #[{ on := 12, ground := Ground.data }], guard := none }
def even5_o14 : Oper := { dst := some 38, op := Op.call { callee := Callee.value (Operand.func 81), args := #[Operand.tmp 27, Operand.tmp 37], argTypes := #[90, 3] }, type := 3, pos := "row.go:194", after := #[{ on := 3, ground := Ground.data }, { on := 13, ground := Ground.data }, { on := 2, ground := Ground.chain }], guard := none }
def even5_o15 : Oper := { dst := some 39, op := Op.binOp BinOp.mul 3 (Operand.const (Value.int IntKind.i64 3)) (Operand.tmp 38) 3, type := 3, pos := "row.go:194", after := #[{ on := 14, ground := Ground.data }], guard := none }
def even5_o16 : Oper := { dst := some 40, op := Op.binOp BinOp.leq 3 (Operand.tmp 26) (Operand.tmp 39) 3, type := 4, pos := "row.go:194", after := #[{ on := 2, ground := Ground.data }, { on := 15, ground := Ground.data }], guard := none }
def even5_ops : Array Oper := #[even5_o0, even5_o1, even5_o2, even5_o3, even5_o4, even5_o5, even5_o6, even5_o7, even5_o8, even5_o9, even5_o10, even5_o11, even5_o12, even5_o13, even5_o14, even5_o15, even5_o16]
set_option maxRecDepth 100000 in
set_option maxHeartbeats 4000000 in
theorem even5 {rb ro g cap : Nat} {L : List Sp} {i p x y : Nat} {o r : Bool} (a : Act) (w : World) (Q : Exit → Act → World → Prop) (hsz : a.tmps.size = 79)
    (t0 : a.tmps.getD 0 undef = .pointer (some ⟨rb, ro, none⟩))
    (t1 : a.tmps.getD 1 undef = .int .i64 (i : Int))
    (t6 : a.tmps.getD 6 undef = .int .i64 (p : Int))
    (t7 : a.tmps.getD 7 undef = .int .i64 (nb o : Int))
    (hR : SqAt w rb ro g cap L) (hi : i < L.length) (hl : L.length ≤ 1400000000000) (hm : 3 * y ≤ 9223372036854775807) (hr : decide ((x : Int) ≤ ((3 * y : Nat) : Int)) = r) (C1 : Calls Try.prog 81 #[.pointer (some ⟨rb, ro, none⟩), .int .i64 (p : Int)] w.drew fun e w' => e = .returned (.int .i64 (x : Int)) ∧ (SqAt w' rb ro g cap L ∧ Qt w w') ∧ Calls Try.prog 81 #[.pointer (some ⟨rb, ro, none⟩), .int .i64 (dn (gt L i) o : Int)] w' fun e2 w2 => e2 = .returned (.int .i64 (y : Int)) ∧ SqAt w2 rb ro g cap L ∧ Qt w w2)
    (h : ∀ (a' : Act) (w' : World), SqAt w' rb ro g cap L ∧ Qt w w' → a' = (((((((((((((((((a).put (some 24) (.pointer (some ⟨rb, ro, none⟩))).put (some 25) (.int .i64 (p : Int))).put (some 27) (.pointer (some ⟨rb, ro, none⟩))).put (some 28) (.pointer (some ⟨rb, ro, none⟩))).put (some 29) (.pointer (some ⟨rb, ro, none⟩))).put (some 30) (.pointer (some ⟨rb, ro + 0, none⟩))).put (some 31) (.slice (some ⟨g, 0, none⟩) (L).length cap)).put (some 32) (.int .i64 (i : Int))).put (some 33) (.int .i64 (nb o : Int))).put (some 34) (.pointer (some ⟨g, 73 * i, none⟩))).put (some 35) (.pointer (some ⟨g, 73 * i + 69, none⟩))).put (some 36) (.pointer (some ⟨g, 73 * i + 69 + nb o, none⟩))).put (some 37) (.int .i64 (dn (gt L i) o : Int))).put (some 26) (.int .i64 (x : Int))).put (some 38) (.int .i64 (y : Int))).put (some 39) (.int .i64 ((3 * y : Nat) : Int))).put (some 40) (.bool r) → Q .normal a' w') :
    (Code.region 5 even5_ops true).wp Try.prog Q a w := by
  refine wp_region_noPanic ?_
  refine wp_region_held_drew (S := fun w' => SqAt w' rb ro g cap L ∧ Qt w w') (by kernel_rfl) (⟨hR.drew, Qt.drew w⟩) (fun hHeld => ?_)
  refine wpAnyH_take (i := 0) (oi := even5_o0) (v := .pointer (some ⟨rb, ro, none⟩)) rfl (by kernel_rfl) (by kernel_rfl) (by kernel_rfl) (fun _ _ _ h => h) (Or.inl ⟨by rfl, fun w1 hw => exec_move rfl t0⟩) hHeld ?_
  change wpAnyH _ _ _ _ _ _ _ (a.put (some 24) (.pointer (some ⟨rb, ro, none⟩))) _
  obtain ⟨a0, e0⟩ : ∃ act, act = a.put (some 24) (.pointer (some ⟨rb, ro, none⟩)) := ⟨_, rfl⟩
  rw [← e0] at h ⊢
  have z0 := pz e0 hsz
  replace t0 := pk e0 t0
  replace t1 := pk e0 t1
  replace t6 := pk e0 t6
  replace t7 := pk e0 t7
  have t24 := pq e0 hsz
  clear e0 hsz
  refine wpAnyH_take (i := 1) (oi := even5_o1) (v := .int .i64 (p : Int)) rfl (by kernel_rfl) (by kernel_rfl) (by kernel_rfl) (fun _ _ _ h => h) (Or.inl ⟨by rfl, fun w1 hw => exec_move rfl t6⟩) hHeld ?_
  change wpAnyH _ _ _ _ _ _ _ (a0.put (some 25) (.int .i64 (p : Int))) _
  obtain ⟨a1, e1⟩ : ∃ act, act = a0.put (some 25) (.int .i64 (p : Int)) := ⟨_, rfl⟩
  rw [← e1] at h ⊢
  have z1 := pz e1 z0
  replace t0 := pk e1 t0
  replace t1 := pk e1 t1
  replace t7 := pk e1 t7
  replace t24 := pk e1 t24
  clear t6
  have t25 := pq e1 z0
  clear e1 z0
  refine wpAnyH_take (i := 3) (oi := even5_o3) (v := .pointer (some ⟨rb, ro, none⟩)) rfl (by kernel_rfl) (by kernel_rfl) (by kernel_rfl) (fun _ _ _ h => h) (Or.inl ⟨by rfl, fun w1 hw => exec_move rfl t0⟩) hHeld ?_
  change wpAnyH _ _ _ _ _ _ _ (a1.put (some 27) (.pointer (some ⟨rb, ro, none⟩))) _
  obtain ⟨a3, e3⟩ : ∃ act, act = a1.put (some 27) (.pointer (some ⟨rb, ro, none⟩)) := ⟨_, rfl⟩
  rw [← e3] at h ⊢
  have z3 := pz e3 z1
  replace t0 := pk e3 t0
  replace t1 := pk e3 t1
  replace t7 := pk e3 t7
  replace t24 := pk e3 t24
  replace t25 := pk e3 t25
  have t27 := pq e3 z1
  clear e3 z1
  refine wpAnyH_take (i := 4) (oi := even5_o4) (v := .pointer (some ⟨rb, ro, none⟩)) rfl (by kernel_rfl) (by kernel_rfl) (by kernel_rfl) (fun _ _ _ h => h) (Or.inl ⟨by rfl, fun w1 hw => exec_move rfl t0⟩) hHeld ?_
  change wpAnyH _ _ _ _ _ _ _ (a3.put (some 28) (.pointer (some ⟨rb, ro, none⟩))) _
  obtain ⟨a4, e4⟩ : ∃ act, act = a3.put (some 28) (.pointer (some ⟨rb, ro, none⟩)) := ⟨_, rfl⟩
  rw [← e4] at h ⊢
  have z4 := pz e4 z3
  replace t1 := pk e4 t1
  replace t7 := pk e4 t7
  replace t24 := pk e4 t24
  replace t25 := pk e4 t25
  replace t27 := pk e4 t27
  clear t0
  have t28 := pq e4 z3
  clear e4 z3
  refine wpAnyH_take (i := 5) (oi := even5_o5) (v := .pointer (some ⟨rb, ro, none⟩)) rfl (by kernel_rfl) (by kernel_rfl) (by kernel_rfl) (fun _ _ _ h => h) (Or.inl ⟨by rfl, fun w1 hw => exec_nilCheck rfl t28⟩) hHeld ?_
  change wpAnyH _ _ _ _ _ _ _ (a4.put (some 29) (.pointer (some ⟨rb, ro, none⟩))) _
  obtain ⟨a5, e5⟩ : ∃ act, act = a4.put (some 29) (.pointer (some ⟨rb, ro, none⟩)) := ⟨_, rfl⟩
  rw [← e5] at h ⊢
  have z5 := pz e5 z4
  replace t1 := pk e5 t1
  replace t7 := pk e5 t7
  replace t24 := pk e5 t24
  replace t25 := pk e5 t25
  replace t27 := pk e5 t27
  clear t28
  have t29 := pq e5 z4
  clear e5 z4
  refine wpAnyH_take (i := 6) (oi := even5_o6) (v := .pointer (some ⟨rb, ro + 0, none⟩)) rfl (by kernel_rfl) (by kernel_rfl) (by kernel_rfl) (fun _ _ _ h => h) (Or.inl ⟨by rfl, fun w1 hw => exec_fieldAt rfl t29 (fg_65_0 _ _ _)⟩) hHeld ?_
  change wpAnyH _ _ _ _ _ _ _ (a5.put (some 30) (.pointer (some ⟨rb, ro + 0, none⟩))) _
  obtain ⟨a6, e6⟩ : ∃ act, act = a5.put (some 30) (.pointer (some ⟨rb, ro + 0, none⟩)) := ⟨_, rfl⟩
  rw [← e6] at h ⊢
  have z6 := pz e6 z5
  replace t1 := pk e6 t1
  replace t7 := pk e6 t7
  replace t24 := pk e6 t24
  replace t25 := pk e6 t25
  replace t27 := pk e6 t27
  clear t29
  have t30 := pq e6 z5
  clear e6 z5
  refine wpAnyH_take (i := 7) (oi := even5_o7) (v := .slice (some ⟨g, 0, none⟩) (L).length cap) rfl (by kernel_rfl) (by kernel_rfl) (by kernel_rfl) (fun _ _ _ h => h) (Or.inl ⟨by rfl, fun w1 hw => exec_load rfl t30 (R_sl hw.1)⟩) hHeld ?_
  change wpAnyH _ _ _ _ _ _ _ (a6.put (some 31) (.slice (some ⟨g, 0, none⟩) (L).length cap)) _
  obtain ⟨a7, e7⟩ : ∃ act, act = a6.put (some 31) (.slice (some ⟨g, 0, none⟩) (L).length cap) := ⟨_, rfl⟩
  rw [← e7] at h ⊢
  have z7 := pz e7 z6
  replace t1 := pk e7 t1
  replace t7 := pk e7 t7
  replace t24 := pk e7 t24
  replace t25 := pk e7 t25
  replace t27 := pk e7 t27
  clear t30
  have t31 := pq e7 z6
  clear e7 z6
  refine wpAnyH_take (i := 8) (oi := even5_o8) (v := .int .i64 (i : Int)) rfl (by kernel_rfl) (by kernel_rfl) (by kernel_rfl) (fun _ _ _ h => h) (Or.inl ⟨by rfl, fun w1 hw => exec_move rfl t1⟩) hHeld ?_
  change wpAnyH _ _ _ _ _ _ _ (a7.put (some 32) (.int .i64 (i : Int))) _
  obtain ⟨a8, e8⟩ : ∃ act, act = a7.put (some 32) (.int .i64 (i : Int)) := ⟨_, rfl⟩
  rw [← e8] at h ⊢
  have z8 := pz e8 z7
  replace t7 := pk e8 t7
  replace t24 := pk e8 t24
  replace t25 := pk e8 t25
  replace t27 := pk e8 t27
  replace t31 := pk e8 t31
  clear t1
  have t32 := pq e8 z7
  clear e8 z7
  refine wpAnyH_take (i := 9) (oi := even5_o9) (v := .int .i64 (nb o : Int)) rfl (by kernel_rfl) (by kernel_rfl) (by kernel_rfl) (fun _ _ _ h => h) (Or.inl ⟨by rfl, fun w1 hw => exec_move rfl t7⟩) hHeld ?_
  change wpAnyH _ _ _ _ _ _ _ (a8.put (some 33) (.int .i64 (nb o : Int))) _
  obtain ⟨a9, e9⟩ : ∃ act, act = a8.put (some 33) (.int .i64 (nb o : Int)) := ⟨_, rfl⟩
  rw [← e9] at h ⊢
  have z9 := pz e9 z8
  replace t24 := pk e9 t24
  replace t25 := pk e9 t25
  replace t27 := pk e9 t27
  replace t31 := pk e9 t31
  replace t32 := pk e9 t32
  clear t7
  have t33 := pq e9 z8
  clear e9 z8
  refine wpAnyH_take (i := 10) (oi := even5_o10) (v := .pointer (some ⟨g, 73 * i, none⟩)) rfl (by kernel_rfl) (by kernel_rfl) (by kernel_rfl) (fun _ _ _ h => h) (Or.inl ⟨by rfl, fun w1 hw => exec_indexAt rfl t31 t32 (R_ix hi hl _)⟩) hHeld ?_
  change wpAnyH _ _ _ _ _ _ _ (a9.put (some 34) (.pointer (some ⟨g, 73 * i, none⟩))) _
  obtain ⟨a10, e10⟩ : ∃ act, act = a9.put (some 34) (.pointer (some ⟨g, 73 * i, none⟩)) := ⟨_, rfl⟩
  rw [← e10] at h ⊢
  have z10 := pz e10 z9
  replace t24 := pk e10 t24
  replace t25 := pk e10 t25
  replace t27 := pk e10 t27
  replace t33 := pk e10 t33
  clear t31 t32
  have t34 := pq e10 z9
  clear e10 z9
  refine wpAnyH_take (i := 11) (oi := even5_o11) (v := .pointer (some ⟨g, 73 * i + 69, none⟩)) rfl (by kernel_rfl) (by kernel_rfl) (by kernel_rfl) (fun _ _ _ h => h) (Or.inl ⟨by rfl, fun w1 hw => exec_fieldAt rfl t34 (fg_89_3 _ _ _)⟩) hHeld ?_
  change wpAnyH _ _ _ _ _ _ _ (a10.put (some 35) (.pointer (some ⟨g, 73 * i + 69, none⟩))) _
  obtain ⟨a11, e11⟩ : ∃ act, act = a10.put (some 35) (.pointer (some ⟨g, 73 * i + 69, none⟩)) := ⟨_, rfl⟩
  rw [← e11] at h ⊢
  have z11 := pz e11 z10
  replace t24 := pk e11 t24
  replace t25 := pk e11 t25
  replace t27 := pk e11 t27
  replace t33 := pk e11 t33
  clear t34
  have t35 := pq e11 z10
  clear e11 z10
  refine wpAnyH_take (i := 12) (oi := even5_o12) (v := .pointer (some ⟨g, 73 * i + 69 + nb o, none⟩)) rfl (by kernel_rfl) (by kernel_rfl) (by kernel_rfl) (fun _ _ _ h => h) (Or.inl ⟨by rfl, fun w1 hw => exec_indexAt rfl t35 t33 (ix_ar _ o _)⟩) hHeld ?_
  change wpAnyH _ _ _ _ _ _ _ (a11.put (some 36) (.pointer (some ⟨g, 73 * i + 69 + nb o, none⟩))) _
  obtain ⟨a12, e12⟩ : ∃ act, act = a11.put (some 36) (.pointer (some ⟨g, 73 * i + 69 + nb o, none⟩)) := ⟨_, rfl⟩
  rw [← e12] at h ⊢
  have z12 := pz e12 z11
  replace t24 := pk e12 t24
  replace t25 := pk e12 t25
  replace t27 := pk e12 t27
  clear t33 t35
  have t36 := pq e12 z11
  clear e12 z11
  refine wpAnyH_take (i := 13) (oi := even5_o13) (v := .int .i64 (dn (gt L i) o : Int)) rfl (by kernel_rfl) (by kernel_rfl) (by kernel_rfl) (fun _ _ _ h => h) (Or.inl ⟨by rfl, fun w1 hw => exec_load rfl t36 (R_dn hw.1 hi o)⟩) hHeld ?_
  change wpAnyH _ _ _ _ _ _ _ (a12.put (some 37) (.int .i64 (dn (gt L i) o : Int))) _
  obtain ⟨a13, e13⟩ : ∃ act, act = a12.put (some 37) (.int .i64 (dn (gt L i) o : Int)) := ⟨_, rfl⟩
  rw [← e13] at h ⊢
  have z13 := pz e13 z12
  replace t24 := pk e13 t24
  replace t25 := pk e13 t25
  replace t27 := pk e13 t27
  clear t36
  have t37 := pq e13 z12
  clear e13 z12
  refine wpAnyH_ready (rs := [2]) (by kernel_rfl) (by simp) ?_
  refine AllReadyH.cons (o := even5_o2) rfl (fun K hK => ?_) AllReadyH.nil
  rw [if_pos (by rfl)]
  unfold even5_o2 at hK ⊢
  go_simp
  refine (C1).mono ?_
  rintro e x2 ⟨rfl, S1, C2⟩
  try go_wp2_with fail
  refine hK.out _ _ (S1) (fun hHeld => ?_)
  clear hK K
  change wpAnyH _ _ _ _ _ _ _ (a13.put (some 26) (.int .i64 (x : Int))) _
  obtain ⟨a2, e2⟩ : ∃ act, act = a13.put (some 26) (.int .i64 (x : Int)) := ⟨_, rfl⟩
  rw [← e2] at h ⊢
  have z2 := pz e2 z13
  replace t27 := pk e2 t27
  replace t37 := pk e2 t37
  clear t24 t25
  have t26 := pq e2 z13
  clear e2 z13
  refine wpAnyH_ready (rs := [14]) (by kernel_rfl) (by simp) ?_
  refine AllReadyH.cons (o := even5_o14) rfl (fun K hK => ?_) AllReadyH.nil
  rw [if_pos (by rfl)]
  unfold even5_o14 at hK ⊢
  go_simp
  refine (C2).mono ?_
  rintro e x14 ⟨rfl, S2⟩
  try go_wp2_with fail
  refine hK.out _ _ (S2) (fun hHeld => ?_)
  clear hK K
  change wpAnyH _ _ _ _ _ _ _ (a2.put (some 38) (.int .i64 (y : Int))) _
  obtain ⟨a14, e14⟩ : ∃ act, act = a2.put (some 38) (.int .i64 (y : Int)) := ⟨_, rfl⟩
  rw [← e14] at h ⊢
  have z14 := pz e14 z2
  replace t26 := pk e14 t26
  clear t27 t37
  have t38 := pq e14 z2
  clear e14 z2
  refine wpAnyH_take (i := 15) (oi := even5_o15) (v := .int .i64 ((3 * y : Nat) : Int)) rfl (by kernel_rfl) (by kernel_rfl) (by kernel_rfl) (fun _ _ _ h => h) (Or.inl ⟨by rfl, fun w1 hw => ex_mulN (p := 3) rfl rfl t38 hm⟩) hHeld ?_
  change wpAnyH _ _ _ _ _ _ _ (a14.put (some 39) (.int .i64 ((3 * y : Nat) : Int))) _
  obtain ⟨a15, e15⟩ : ∃ act, act = a14.put (some 39) (.int .i64 ((3 * y : Nat) : Int)) := ⟨_, rfl⟩
  rw [← e15] at h ⊢
  have z15 := pz e15 z14
  replace t26 := pk e15 t26
  clear t38
  have t39 := pq e15 z14
  clear e15 z14
  refine wpAnyH_take (i := 16) (oi := even5_o16) (v := .bool r) rfl (by kernel_rfl) (by kernel_rfl) (by kernel_rfl) (fun _ _ _ h => h) (Or.inl ⟨by rfl, fun w1 hw => ex_leq rfl t26 t39 hr⟩) hHeld ?_
  change wpAnyH _ _ _ _ _ _ _ (a15.put (some 40) (.bool r)) _
  obtain ⟨a16, e16⟩ : ∃ act, act = a15.put (some 40) (.bool r) := ⟨_, rfl⟩
  rw [← e16] at h ⊢
  have z16 := pz e16 z15
  clear t26 t39
  clear e16 z15
  exact wpAnyH_done (by kernel_rfl) (NoPanic.normal (h _ _ (hHeld) rfl)) _
def even6_o0 : Oper := { dst := some 41, op := Op.move (Operand.tmp 0), type := 90, pos := "row.go:197", after := #[], guard := none }
def even6_o1 : Oper := { dst := some 42, op := Op.nilCheck (Operand.tmp 41), type := 0, pos := "row.go:197", after := #[{ on := 0, ground := Ground.data }], guard := none }
def even6_o2 : Oper := { dst := some 43, op := Op.fieldAddr 65 (Operand.tmp 42) 0, type := 0, pos := "row.go:197", after := #[{ on := 1, ground := Ground.data }], guard := none }
def even6_o3 : Oper := { dst := some 44, op := Op.load 63 (Operand.tmp 43), type := 63, pos := "row.go:197", after := #[{ on := 2, ground := Ground.data }], guard := none }
def even6_o4 : Oper := { dst := some 45, op := Op.move (Operand.tmp 6), type := 3, pos := "row.go:197", after := #[], guard := none }
def even6_o5 : Oper := { dst := some 46, op := Op.move (Operand.tmp 7), type := 3, pos := "row.go:197", after := #[], guard := none }
def even6_o6 : Oper := { dst := some 47, op := Op.indexAddr 63 (Operand.tmp 44) (Operand.tmp 45), type := 0, pos := "row.go:197", after := #[{ on := 3, ground := Ground.data }, { on := 4, ground := Ground.data }], guard := none }
def even6_o7 : Oper := { dst := some 48, op := Op.fieldAddr 89 (Operand.tmp 47) 3, type := 0, pos := "row.go:197", after := #[{ on := 6, ground := Ground.data }], guard := none }
def even6_o8 : Oper := { dst := some 49, op := Op.indexAddr 87 (Operand.tmp 48) (Operand.tmp 46), type := 0, pos := "row.go:197", after := #[{ on := 7, ground := Ground.data }, { on := 5, ground := Ground.data }], guard := none }
def even6_o9 : Oper := { dst := some 50, op := Op.load 3 (Operand.tmp 49), type := 3, pos := "row.go:197", after := #[{ on := 8, ground := Ground.data }], guard := none }
def even6_o10 : Oper := { dst := some 51, op := Op.move (Operand.tmp 0), type := 90, pos := "row.go:197", after := #[{ on := 20, ground := Ground.gcOnly Departure.lateStores }], guard := none }
def even6_o11 : Oper := { dst := some 52, op := Op.nilCheck (Operand.tmp 51), type := 0, pos := "row.go:197", after := #[{ on := 10, ground := Ground.data }, { on := 20, ground := Ground.gcOnly Departure.lateStores }], guard := none }
def even6_o12 : Oper := { dst := some 53, op := Op.fieldAddr 65 (Operand.tmp 52) 0, type := 0, pos := "row.go:197", after := #[{ on := 11, ground := Ground.data }, { on := 20, ground := Ground.gcOnly Departure.lateStores }], guard := none }
def even6_o13 : Oper := { dst := some 54, op := Op.load 63 (Operand.tmp 53), type := 63, pos := "row.go:197", after := #[{ on := 12, ground := Ground.data }, { on := 20, ground := Ground.gcOnly Departure.lateStores }], guard := none }
def even6_o14 : Oper := { dst := some 55, op := Op.move (Operand.tmp 6), type := 3, pos := "row.go:197", after := #[{ on := 20, ground := Ground.gcOnly Departure.lateStores }], guard := none }
def even6_o15 : Oper := { dst := some 56, op := Op.move (Operand.tmp 5), type := 3, pos := "row.go:197", after := #[{ on := 20, ground := Ground.gcOnly Departure.lateStores }], guard := none }
def even6_o16 : Oper := { dst := some 57, op := Op.indexAddr 63 (Operand.tmp 54) (Operand.tmp 55), type := 0, pos := "row.go:197", after := #[{ on := 13, ground := Ground.data }, { on := 14, ground := Ground.data }, { on := 20, ground := Ground.gcOnly Departure.lateStores }], guard := none }
def even6_o17 : Oper := { dst := some 58, op := Op.fieldAddr 89 (Operand.tmp 57) 3, type := 0, pos := "row.go:197", after := #[{ on := 16, ground := Ground.data }, { on := 20, ground := Ground.gcOnly Departure.lateStores }], guard := none }
def even6_o18 : Oper := { dst := some 59, op := Op.indexAddr 87 (Operand.tmp 58) (Operand.tmp 56), type := 0, pos := "row.go:197", after := #[{ on := 17, ground := Ground.data }, { on := 15, ground := Ground.data }, { on := 20, ground := Ground.gcOnly Departure.lateStores }], guard := none }
def even6_o19 : Oper := { dst := some 60, op := Op.load 3 (Operand.tmp 59), type := 3, pos := "row.go:197", after := #[{ on := 18, ground := Ground.data }, { on := 20, ground := Ground.gcOnly Departure.lateStores }], guard := none }
def even6_o20 : Oper := { dst := some 8, op := Op.assign (Operand.tmp 50), type := 3, pos := "row.go:197", after := #[{ on := 9, ground := Ground.data }, { on := 0, ground := Ground.phase }, { on := 1, ground := Ground.phase }, { on := 2, ground := Ground.phase }, { on := 3, ground := Ground.phase }, { on := 4, ground := Ground.phase }, { on := 5, ground := Ground.phase }, { on := 6, ground := Ground.phase }, { on := 7, ground := Ground.phase }, { on := 8, ground := Ground.phase }, { on := 9, ground := Ground.phase }, { on := 10, ground := Ground.textOnly Departure.lateStores }, { on := 11, ground := Ground.textOnly Departure.lateStores }, { on := 12, ground := Ground.textOnly Departure.lateStores }, { on := 13, ground := Ground.textOnly Departure.lateStores }, { on := 14, ground := Ground.textOnly Departure.lateStores }, { on := 15, ground := Ground.textOnly Departure.lateStores }, { on := 16, ground := Ground.textOnly Departure.lateStores }, { on := 17, ground := Ground.textOnly Departure.lateStores }, { on := 18, ground := Ground.textOnly Departure.lateStores }, { on := 19, ground := Ground.textOnly Departure.lateStores }], guard := none }
def even6_o21 : Oper := { dst := some 9, op := Op.assign (Operand.tmp 60), type := 3, pos := "row.go:197", after := #[{ on := 19, ground := Ground.data }, { on := 20, ground := Ground.chain }, { on := 0, ground := Ground.phase }, { on := 1, ground := Ground.phase }, { on := 2, ground := Ground.phase }, { on := 3, ground := Ground.phase }, { on := 4, ground := Ground.phase }, { on := 5, ground := Ground.phase }, { on := 6, ground := Ground.phase }, { on := 7, ground := Ground.phase }, { on := 8, ground := Ground.phase }, { on := 9, ground := Ground.phase }, { on := 10, ground := Ground.phase }, { on := 11, ground := Ground.phase }, { on := 12, ground := Ground.phase }, { on := 13, ground := Ground.phase }, { on := 14, ground := Ground.phase }, { on := 15, ground := Ground.phase }, { on := 16, ground := Ground.phase }, { on := 17, ground := Ground.phase }, { on := 18, ground := Ground.phase }, { on := 19, ground := Ground.phase }, { on := 20, ground := Ground.phase }], guard := none }
def even6_ops : Array Oper := #[even6_o0, even6_o1, even6_o2, even6_o3, even6_o4, even6_o5, even6_o6, even6_o7, even6_o8, even6_o9, even6_o10, even6_o11, even6_o12, even6_o13, even6_o14, even6_o15, even6_o16, even6_o17, even6_o18, even6_o19, even6_o20, even6_o21]
set_option maxRecDepth 100000 in
set_option maxHeartbeats 4000000 in
theorem even6 {rb ro g cap : Nat} {L : List Sp} {p : Nat} {s o : Bool} (a : Act) (w : World) (Q : Exit → Act → World → Prop) (hsz : a.tmps.size = 79)
    (t0 : a.tmps.getD 0 undef = .pointer (some ⟨rb, ro, none⟩))
    (t5 : a.tmps.getD 5 undef = .int .i64 (nb s : Int))
    (t6 : a.tmps.getD 6 undef = .int .i64 (p : Int))
    (t7 : a.tmps.getD 7 undef = .int .i64 (nb o : Int))
    (hR : SqAt w rb ro g cap L) (hp : p < L.length)
    (h : ∀ (a' : Act) (w' : World), w' = w.drew → a' = ((((((((((((((((((((((a).put (some 41) (.pointer (some ⟨rb, ro, none⟩))).put (some 42) (.pointer (some ⟨rb, ro, none⟩))).put (some 43) (.pointer (some ⟨rb, ro + 0, none⟩))).put (some 44) (.slice (some ⟨g, 0, none⟩) (L).length cap)).put (some 45) (.int .i64 (p : Int))).put (some 46) (.int .i64 (nb o : Int))).put (some 47) (.pointer (some ⟨g, 73 * p, none⟩))).put (some 48) (.pointer (some ⟨g, 73 * p + 69, none⟩))).put (some 49) (.pointer (some ⟨g, 73 * p + 69 + nb o, none⟩))).put (some 50) (.int .i64 (dn (gt L p) o : Int))).put (some 51) (.pointer (some ⟨rb, ro, none⟩))).put (some 52) (.pointer (some ⟨rb, ro, none⟩))).put (some 53) (.pointer (some ⟨rb, ro + 0, none⟩))).put (some 54) (.slice (some ⟨g, 0, none⟩) (L).length cap)).put (some 55) (.int .i64 (p : Int))).put (some 56) (.int .i64 (nb s : Int))).put (some 57) (.pointer (some ⟨g, 73 * p, none⟩))).put (some 58) (.pointer (some ⟨g, 73 * p + 69, none⟩))).put (some 59) (.pointer (some ⟨g, 73 * p + 69 + nb s, none⟩))).put (some 60) (.int .i64 (dn (gt L p) s : Int))).put (some 8) (.int .i64 (dn (gt L p) o : Int))).put (some 9) (.int .i64 (dn (gt L p) s : Int)) → Q .normal a' w') :
    (Code.region 6 even6_ops true).wp Try.prog Q a w := by
  refine wp_region_noPanic ?_
  refine wp_region_held_drew (S := fun w' => w' = w.drew) (by kernel_rfl) (rfl) (fun hHeld => ?_)
  refine wpAnyH_take (i := 0) (oi := even6_o0) (v := .pointer (some ⟨rb, ro, none⟩)) rfl (by kernel_rfl) (by kernel_rfl) (by kernel_rfl) (fun _ _ _ h => h) (Or.inl ⟨by rfl, fun w1 hw => exec_move rfl t0⟩) hHeld ?_
  change wpAnyH _ _ _ _ _ _ _ (a.put (some 41) (.pointer (some ⟨rb, ro, none⟩))) _
  obtain ⟨a0, e0⟩ : ∃ act, act = a.put (some 41) (.pointer (some ⟨rb, ro, none⟩)) := ⟨_, rfl⟩
  rw [← e0] at h ⊢
  have z0 := pz e0 hsz
  replace t0 := pk e0 t0
  replace t5 := pk e0 t5
  replace t6 := pk e0 t6
  replace t7 := pk e0 t7
  have t41 := pq e0 hsz
  clear e0 hsz
  refine wpAnyH_take (i := 1) (oi := even6_o1) (v := .pointer (some ⟨rb, ro, none⟩)) rfl (by kernel_rfl) (by kernel_rfl) (by kernel_rfl) (fun _ _ _ h => h) (Or.inl ⟨by rfl, fun w1 hw => exec_nilCheck rfl t41⟩) hHeld ?_
  change wpAnyH _ _ _ _ _ _ _ (a0.put (some 42) (.pointer (some ⟨rb, ro, none⟩))) _
  obtain ⟨a1, e1⟩ : ∃ act, act = a0.put (some 42) (.pointer (some ⟨rb, ro, none⟩)) := ⟨_, rfl⟩
  rw [← e1] at h ⊢
  have z1 := pz e1 z0
  replace t0 := pk e1 t0
  replace t5 := pk e1 t5
  replace t6 := pk e1 t6
  replace t7 := pk e1 t7
  clear t41
  have t42 := pq e1 z0
  clear e1 z0
  refine wpAnyH_take (i := 2) (oi := even6_o2) (v := .pointer (some ⟨rb, ro + 0, none⟩)) rfl (by kernel_rfl) (by kernel_rfl) (by kernel_rfl) (fun _ _ _ h => h) (Or.inl ⟨by rfl, fun w1 hw => exec_fieldAt rfl t42 (fg_65_0 _ _ _)⟩) hHeld ?_
  change wpAnyH _ _ _ _ _ _ _ (a1.put (some 43) (.pointer (some ⟨rb, ro + 0, none⟩))) _
  obtain ⟨a2, e2⟩ : ∃ act, act = a1.put (some 43) (.pointer (some ⟨rb, ro + 0, none⟩)) := ⟨_, rfl⟩
  rw [← e2] at h ⊢
  have z2 := pz e2 z1
  replace t0 := pk e2 t0
  replace t5 := pk e2 t5
  replace t6 := pk e2 t6
  replace t7 := pk e2 t7
  clear t42
  have t43 := pq e2 z1
  clear e2 z1
  refine wpAnyH_take (i := 3) (oi := even6_o3) (v := .slice (some ⟨g, 0, none⟩) (L).length cap) rfl (by kernel_rfl) (by kernel_rfl) (by kernel_rfl) (fun _ _ _ h => h) (Or.inl ⟨by rfl, fun w1 hw => exec_load rfl t43 (R_sl (hw ▸ hR.drew))⟩) hHeld ?_
  change wpAnyH _ _ _ _ _ _ _ (a2.put (some 44) (.slice (some ⟨g, 0, none⟩) (L).length cap)) _
  obtain ⟨a3, e3⟩ : ∃ act, act = a2.put (some 44) (.slice (some ⟨g, 0, none⟩) (L).length cap) := ⟨_, rfl⟩
  rw [← e3] at h ⊢
  have z3 := pz e3 z2
  replace t0 := pk e3 t0
  replace t5 := pk e3 t5
  replace t6 := pk e3 t6
  replace t7 := pk e3 t7
  clear t43
  have t44 := pq e3 z2
  clear e3 z2
  refine wpAnyH_take (i := 4) (oi := even6_o4) (v := .int .i64 (p : Int)) rfl (by kernel_rfl) (by kernel_rfl) (by kernel_rfl) (fun _ _ _ h => h) (Or.inl ⟨by rfl, fun w1 hw => exec_move rfl t6⟩) hHeld ?_
  change wpAnyH _ _ _ _ _ _ _ (a3.put (some 45) (.int .i64 (p : Int))) _
  obtain ⟨a4, e4⟩ : ∃ act, act = a3.put (some 45) (.int .i64 (p : Int)) := ⟨_, rfl⟩
  rw [← e4] at h ⊢
  have z4 := pz e4 z3
  replace t0 := pk e4 t0
  replace t5 := pk e4 t5
  replace t6 := pk e4 t6
  replace t7 := pk e4 t7
  replace t44 := pk e4 t44
  have t45 := pq e4 z3
  clear e4 z3
  refine wpAnyH_take (i := 5) (oi := even6_o5) (v := .int .i64 (nb o : Int)) rfl (by kernel_rfl) (by kernel_rfl) (by kernel_rfl) (fun _ _ _ h => h) (Or.inl ⟨by rfl, fun w1 hw => exec_move rfl t7⟩) hHeld ?_
  change wpAnyH _ _ _ _ _ _ _ (a4.put (some 46) (.int .i64 (nb o : Int))) _
  obtain ⟨a5, e5⟩ : ∃ act, act = a4.put (some 46) (.int .i64 (nb o : Int)) := ⟨_, rfl⟩
  rw [← e5] at h ⊢
  have z5 := pz e5 z4
  replace t0 := pk e5 t0
  replace t5 := pk e5 t5
  replace t6 := pk e5 t6
  replace t44 := pk e5 t44
  replace t45 := pk e5 t45
  clear t7
  have t46 := pq e5 z4
  clear e5 z4
  refine wpAnyH_take (i := 6) (oi := even6_o6) (v := .pointer (some ⟨g, 73 * p, none⟩)) rfl (by kernel_rfl) (by kernel_rfl) (by kernel_rfl) (fun _ _ _ h => h) (Or.inl ⟨by rfl, fun w1 hw => exec_indexAt rfl t44 t45 (R_ix hp hR.len _)⟩) hHeld ?_
  change wpAnyH _ _ _ _ _ _ _ (a5.put (some 47) (.pointer (some ⟨g, 73 * p, none⟩))) _
  obtain ⟨a6, e6⟩ : ∃ act, act = a5.put (some 47) (.pointer (some ⟨g, 73 * p, none⟩)) := ⟨_, rfl⟩
  rw [← e6] at h ⊢
  have z6 := pz e6 z5
  replace t0 := pk e6 t0
  replace t5 := pk e6 t5
  replace t6 := pk e6 t6
  replace t46 := pk e6 t46
  clear t44 t45
  have t47 := pq e6 z5
  clear e6 z5
  refine wpAnyH_take (i := 7) (oi := even6_o7) (v := .pointer (some ⟨g, 73 * p + 69, none⟩)) rfl (by kernel_rfl) (by kernel_rfl) (by kernel_rfl) (fun _ _ _ h => h) (Or.inl ⟨by rfl, fun w1 hw => exec_fieldAt rfl t47 (fg_89_3 _ _ _)⟩) hHeld ?_
  change wpAnyH _ _ _ _ _ _ _ (a6.put (some 48) (.pointer (some ⟨g, 73 * p + 69, none⟩))) _
  obtain ⟨a7, e7⟩ : ∃ act, act = a6.put (some 48) (.pointer (some ⟨g, 73 * p + 69, none⟩)) := ⟨_, rfl⟩
  rw [← e7] at h ⊢
  have z7 := pz e7 z6
  replace t0 := pk e7 t0
  replace t5 := pk e7 t5
  replace t6 := pk e7 t6
  replace t46 := pk e7 t46
  clear t47
  have t48 := pq e7 z6
  clear e7 z6
  refine wpAnyH_take (i := 8) (oi := even6_o8) (v := .pointer (some ⟨g, 73 * p + 69 + nb o, none⟩)) rfl (by kernel_rfl) (by kernel_rfl) (by kernel_rfl) (fun _ _ _ h => h) (Or.inl ⟨by rfl, fun w1 hw => exec_indexAt rfl t48 t46 (ix_ar _ o _)⟩) hHeld ?_
  change wpAnyH _ _ _ _ _ _ _ (a7.put (some 49) (.pointer (some ⟨g, 73 * p + 69 + nb o, none⟩))) _
  obtain ⟨a8, e8⟩ : ∃ act, act = a7.put (some 49) (.pointer (some ⟨g, 73 * p + 69 + nb o, none⟩)) := ⟨_, rfl⟩
  rw [← e8] at h ⊢
  have z8 := pz e8 z7
  replace t0 := pk e8 t0
  replace t5 := pk e8 t5
  replace t6 := pk e8 t6
  clear t46 t48
  have t49 := pq e8 z7
  clear e8 z7
  refine wpAnyH_take (i := 9) (oi := even6_o9) (v := .int .i64 (dn (gt L p) o : Int)) rfl (by kernel_rfl) (by kernel_rfl) (by kernel_rfl) (fun _ _ _ h => h) (Or.inl ⟨by rfl, fun w1 hw => exec_load rfl t49 (R_dn (hw ▸ hR.drew) hp o)⟩) hHeld ?_
  change wpAnyH _ _ _ _ _ _ _ (a8.put (some 50) (.int .i64 (dn (gt L p) o : Int))) _
  obtain ⟨a9, e9⟩ : ∃ act, act = a8.put (some 50) (.int .i64 (dn (gt L p) o : Int)) := ⟨_, rfl⟩
  rw [← e9] at h ⊢
  have z9 := pz e9 z8
  replace t0 := pk e9 t0
  replace t5 := pk e9 t5
  replace t6 := pk e9 t6
  clear t49
  have t50 := pq e9 z8
  clear e9 z8
  refine wpAnyH_take (i := 10) (oi := even6_o10) (v := .pointer (some ⟨rb, ro, none⟩)) rfl (by kernel_rfl) (by kernel_rfl) (by kernel_rfl) (fun _ _ _ h => h) (Or.inl ⟨by rfl, fun w1 hw => exec_move rfl t0⟩) hHeld ?_
  change wpAnyH _ _ _ _ _ _ _ (a9.put (some 51) (.pointer (some ⟨rb, ro, none⟩))) _
  obtain ⟨a10, e10⟩ : ∃ act, act = a9.put (some 51) (.pointer (some ⟨rb, ro, none⟩)) := ⟨_, rfl⟩
  rw [← e10] at h ⊢
  have z10 := pz e10 z9
  replace t5 := pk e10 t5
  replace t6 := pk e10 t6
  replace t50 := pk e10 t50
  clear t0
  have t51 := pq e10 z9
  clear e10 z9
  refine wpAnyH_take (i := 11) (oi := even6_o11) (v := .pointer (some ⟨rb, ro, none⟩)) rfl (by kernel_rfl) (by kernel_rfl) (by kernel_rfl) (fun _ _ _ h => h) (Or.inl ⟨by rfl, fun w1 hw => exec_nilCheck rfl t51⟩) hHeld ?_
  change wpAnyH _ _ _ _ _ _ _ (a10.put (some 52) (.pointer (some ⟨rb, ro, none⟩))) _
  obtain ⟨a11, e11⟩ : ∃ act, act = a10.put (some 52) (.pointer (some ⟨rb, ro, none⟩)) := ⟨_, rfl⟩
  rw [← e11] at h ⊢
  have z11 := pz e11 z10
  replace t5 := pk e11 t5
  replace t6 := pk e11 t6
  replace t50 := pk e11 t50
  clear t51
  have t52 := pq e11 z10
  clear e11 z10
  refine wpAnyH_take (i := 12) (oi := even6_o12) (v := .pointer (some ⟨rb, ro + 0, none⟩)) rfl (by kernel_rfl) (by kernel_rfl) (by kernel_rfl) (fun _ _ _ h => h) (Or.inl ⟨by rfl, fun w1 hw => exec_fieldAt rfl t52 (fg_65_0 _ _ _)⟩) hHeld ?_
  change wpAnyH _ _ _ _ _ _ _ (a11.put (some 53) (.pointer (some ⟨rb, ro + 0, none⟩))) _
  obtain ⟨a12, e12⟩ : ∃ act, act = a11.put (some 53) (.pointer (some ⟨rb, ro + 0, none⟩)) := ⟨_, rfl⟩
  rw [← e12] at h ⊢
  have z12 := pz e12 z11
  replace t5 := pk e12 t5
  replace t6 := pk e12 t6
  replace t50 := pk e12 t50
  clear t52
  have t53 := pq e12 z11
  clear e12 z11
  refine wpAnyH_take (i := 13) (oi := even6_o13) (v := .slice (some ⟨g, 0, none⟩) (L).length cap) rfl (by kernel_rfl) (by kernel_rfl) (by kernel_rfl) (fun _ _ _ h => h) (Or.inl ⟨by rfl, fun w1 hw => exec_load rfl t53 (R_sl (hw ▸ hR.drew))⟩) hHeld ?_
  change wpAnyH _ _ _ _ _ _ _ (a12.put (some 54) (.slice (some ⟨g, 0, none⟩) (L).length cap)) _
  obtain ⟨a13, e13⟩ : ∃ act, act = a12.put (some 54) (.slice (some ⟨g, 0, none⟩) (L).length cap) := ⟨_, rfl⟩
  rw [← e13] at h ⊢
  have z13 := pz e13 z12
  replace t5 := pk e13 t5
  replace t6 := pk e13 t6
  replace t50 := pk e13 t50
  clear t53
  have t54 := pq e13 z12
  clear e13 z12
  refine wpAnyH_take (i := 14) (oi := even6_o14) (v := .int .i64 (p : Int)) rfl (by kernel_rfl) (by kernel_rfl) (by kernel_rfl) (fun _ _ _ h => h) (Or.inl ⟨by rfl, fun w1 hw => exec_move rfl t6⟩) hHeld ?_
  change wpAnyH _ _ _ _ _ _ _ (a13.put (some 55) (.int .i64 (p : Int))) _
  obtain ⟨a14, e14⟩ : ∃ act, act = a13.put (some 55) (.int .i64 (p : Int)) := ⟨_, rfl⟩
  rw [← e14] at h ⊢
  have z14 := pz e14 z13
  replace t5 := pk e14 t5
  replace t50 := pk e14 t50
  replace t54 := pk e14 t54
  clear t6
  have t55 := pq e14 z13
  clear e14 z13
  refine wpAnyH_take (i := 15) (oi := even6_o15) (v := .int .i64 (nb s : Int)) rfl (by kernel_rfl) (by kernel_rfl) (by kernel_rfl) (fun _ _ _ h => h) (Or.inl ⟨by rfl, fun w1 hw => exec_move rfl t5⟩) hHeld ?_
  change wpAnyH _ _ _ _ _ _ _ (a14.put (some 56) (.int .i64 (nb s : Int))) _
  obtain ⟨a15, e15⟩ : ∃ act, act = a14.put (some 56) (.int .i64 (nb s : Int)) := ⟨_, rfl⟩
  rw [← e15] at h ⊢
  have z15 := pz e15 z14
  replace t50 := pk e15 t50
  replace t54 := pk e15 t54
  replace t55 := pk e15 t55
  clear t5
  have t56 := pq e15 z14
  clear e15 z14
  refine wpAnyH_take (i := 16) (oi := even6_o16) (v := .pointer (some ⟨g, 73 * p, none⟩)) rfl (by kernel_rfl) (by kernel_rfl) (by kernel_rfl) (fun _ _ _ h => h) (Or.inl ⟨by rfl, fun w1 hw => exec_indexAt rfl t54 t55 (R_ix hp hR.len _)⟩) hHeld ?_
  change wpAnyH _ _ _ _ _ _ _ (a15.put (some 57) (.pointer (some ⟨g, 73 * p, none⟩))) _
  obtain ⟨a16, e16⟩ : ∃ act, act = a15.put (some 57) (.pointer (some ⟨g, 73 * p, none⟩)) := ⟨_, rfl⟩
  rw [← e16] at h ⊢
  have z16 := pz e16 z15
  replace t50 := pk e16 t50
  replace t56 := pk e16 t56
  clear t54 t55
  have t57 := pq e16 z15
  clear e16 z15
  refine wpAnyH_take (i := 17) (oi := even6_o17) (v := .pointer (some ⟨g, 73 * p + 69, none⟩)) rfl (by kernel_rfl) (by kernel_rfl) (by kernel_rfl) (fun _ _ _ h => h) (Or.inl ⟨by rfl, fun w1 hw => exec_fieldAt rfl t57 (fg_89_3 _ _ _)⟩) hHeld ?_
  change wpAnyH _ _ _ _ _ _ _ (a16.put (some 58) (.pointer (some ⟨g, 73 * p + 69, none⟩))) _
  obtain ⟨a17, e17⟩ : ∃ act, act = a16.put (some 58) (.pointer (some ⟨g, 73 * p + 69, none⟩)) := ⟨_, rfl⟩
  rw [← e17] at h ⊢
  have z17 := pz e17 z16
  replace t50 := pk e17 t50
  replace t56 := pk e17 t56
  clear t57
  have t58 := pq e17 z16
  clear e17 z16
  refine wpAnyH_take (i := 18) (oi := even6_o18) (v := .pointer (some ⟨g, 73 * p + 69 + nb s, none⟩)) rfl (by kernel_rfl) (by kernel_rfl) (by kernel_rfl) (fun _ _ _ h => h) (Or.inl ⟨by rfl, fun w1 hw => exec_indexAt rfl t58 t56 (ix_ar _ s _)⟩) hHeld ?_
  change wpAnyH _ _ _ _ _ _ _ (a17.put (some 59) (.pointer (some ⟨g, 73 * p + 69 + nb s, none⟩))) _
  obtain ⟨a18, e18⟩ : ∃ act, act = a17.put (some 59) (.pointer (some ⟨g, 73 * p + 69 + nb s, none⟩)) := ⟨_, rfl⟩
  rw [← e18] at h ⊢
  have z18 := pz e18 z17
  replace t50 := pk e18 t50
  clear t56 t58
  have t59 := pq e18 z17
  clear e18 z17
  refine wpAnyH_take (i := 19) (oi := even6_o19) (v := .int .i64 (dn (gt L p) s : Int)) rfl (by kernel_rfl) (by kernel_rfl) (by kernel_rfl) (fun _ _ _ h => h) (Or.inl ⟨by rfl, fun w1 hw => exec_load rfl t59 (R_dn (hw ▸ hR.drew) hp s)⟩) hHeld ?_
  change wpAnyH _ _ _ _ _ _ _ (a18.put (some 60) (.int .i64 (dn (gt L p) s : Int))) _
  obtain ⟨a19, e19⟩ : ∃ act, act = a18.put (some 60) (.int .i64 (dn (gt L p) s : Int)) := ⟨_, rfl⟩
  rw [← e19] at h ⊢
  have z19 := pz e19 z18
  replace t50 := pk e19 t50
  clear t59
  have t60 := pq e19 z18
  clear e19 z18
  refine wpAnyH_take (i := 20) (oi := even6_o20) (v := .int .i64 (dn (gt L p) o : Int)) rfl (by kernel_rfl) (by kernel_rfl) (by kernel_rfl) (fun _ _ _ h => h) (Or.inl ⟨by rfl, fun w1 hw => exec_assign rfl t50⟩) hHeld ?_
  change wpAnyH _ _ _ _ _ _ _ (a19.put (some 8) (.int .i64 (dn (gt L p) o : Int))) _
  obtain ⟨a20, e20⟩ : ∃ act, act = a19.put (some 8) (.int .i64 (dn (gt L p) o : Int)) := ⟨_, rfl⟩
  rw [← e20] at h ⊢
  have z20 := pz e20 z19
  replace t60 := pk e20 t60
  clear t50
  clear e20 z19
  refine wpAnyH_take (i := 21) (oi := even6_o21) (v := .int .i64 (dn (gt L p) s : Int)) rfl (by kernel_rfl) (by kernel_rfl) (by kernel_rfl) (fun _ _ _ h => h) (Or.inl ⟨by rfl, fun w1 hw => exec_assign rfl t60⟩) hHeld ?_
  change wpAnyH _ _ _ _ _ _ _ (a20.put (some 9) (.int .i64 (dn (gt L p) s : Int))) _
  obtain ⟨a21, e21⟩ : ∃ act, act = a20.put (some 9) (.int .i64 (dn (gt L p) s : Int)) := ⟨_, rfl⟩
  rw [← e21] at h ⊢
  have z21 := pz e21 z20
  clear t60
  clear e21 z20
  exact wpAnyH_done (by kernel_rfl) (NoPanic.normal (h _ _ (hHeld) rfl)) _
def even7_o0 : Oper := { dst := some 61, op := Op.move (Operand.tmp 0), type := 90, pos := "row.go:198", after := #[], guard := none }
def even7_o1 : Oper := { dst := some 62, op := Op.move (Operand.tmp 8), type := 3, pos := "row.go:198", after := #[], guard := none }
def even7_o2 : Oper := { dst := some 63, op := Op.call { callee := Callee.value (Operand.func 81), args := #[Operand.tmp 61, Operand.tmp 62], argTypes := #[90, 3] }, type := 3, pos := "row.go:198", after := #[{ on := 0, ground := Ground.data }, { on := 1, ground := Ground.data }], guard := none }
def even7_o3 : Oper := { dst := some 64, op := Op.move (Operand.tmp 0), type := 90, pos := "row.go:198", after := #[], guard := none }
def even7_o4 : Oper := { dst := some 65, op := Op.move (Operand.tmp 9), type := 3, pos := "row.go:198", after := #[], guard := none }
def even7_o5 : Oper := { dst := some 66, op := Op.call { callee := Callee.value (Operand.func 81), args := #[Operand.tmp 64, Operand.tmp 65], argTypes := #[90, 3] }, type := 3, pos := "row.go:198", after := #[{ on := 3, ground := Ground.data }, { on := 4, ground := Ground.data }, { on := 2, ground := Ground.chain }], guard := none }
def even7_o6 : Oper := { dst := some 67, op := Op.binOp BinOp.mul 3 (Operand.const (Value.int IntKind.i64 2)) (Operand.tmp 66) 3, type := 3, pos := "row.go:198", after := #[{ on := 5, ground := Ground.data }], guard := none }
def even7_o7 : Oper := { dst := some 68, op := Op.binOp BinOp.geq 3 (Operand.tmp 63) (Operand.tmp 67) 3, type := 4, pos := "row.go:198", after := #[{ on := 2, ground := Ground.data }, { on := 6, ground := Ground.data }], guard := none }
def even7_ops : Array Oper := #[even7_o0, even7_o1, even7_o2, even7_o3, even7_o4, even7_o5, even7_o6, even7_o7]
set_option maxRecDepth 100000 in
set_option maxHeartbeats 4000000 in
theorem even7 {rb ro p q x y : Nat} {r : Bool} (Fin : World → Prop) (a : Act) (w : World) (Q : Exit → Act → World → Prop) (hsz : a.tmps.size = 79)
    (t0 : a.tmps.getD 0 undef = .pointer (some ⟨rb, ro, none⟩))
    (t8 : a.tmps.getD 8 undef = .int .i64 (p : Int))
    (t9 : a.tmps.getD 9 undef = .int .i64 (q : Int))
    (hm : 2 * y ≤ 9223372036854775807) (hr : decide ((x : Int) ≥ ((2 * y : Nat) : Int)) = r) (C1 : Calls Try.prog 81 #[.pointer (some ⟨rb, ro, none⟩), .int .i64 (p : Int)] w fun e w' => e = .returned (.int .i64 (x : Int)) ∧ Calls Try.prog 81 #[.pointer (some ⟨rb, ro, none⟩), .int .i64 (q : Int)] w' fun e2 w2 => e2 = .returned (.int .i64 (y : Int)) ∧ Fin w2)
    (h : ∀ (a' : Act) (w' : World), Fin w' → a' = ((((((((a).put (some 61) (.pointer (some ⟨rb, ro, none⟩))).put (some 62) (.int .i64 (p : Int))).put (some 63) (.int .i64 (x : Int))).put (some 64) (.pointer (some ⟨rb, ro, none⟩))).put (some 65) (.int .i64 (q : Int))).put (some 66) (.int .i64 (y : Int))).put (some 67) (.int .i64 ((2 * y : Nat) : Int))).put (some 68) (.bool r) → Q .normal a' w') :
    (Code.region 7 even7_ops false).wp Try.prog Q a w := by
  refine wp_region_list ?_
  change wpList _ _ _ [even7_o0, even7_o1, even7_o2, even7_o3, even7_o4, even7_o5, even7_o6, even7_o7] _ _
  refine qv (v := .pointer (some ⟨rb, ro, none⟩)) (by rfl) (exec_move rfl t0) (fun a0 e0 => ?_)
  rw [← e0] at h
  have z0 := pz e0 hsz
  replace t0 := pk e0 t0
  replace t8 := pk e0 t8
  replace t9 := pk e0 t9
  have t61 := pq e0 hsz
  clear e0 hsz
  refine qv (v := .int .i64 (p : Int)) (by rfl) (exec_move rfl t8) (fun a1 e1 => ?_)
  rw [← e1] at h
  have z1 := pz e1 z0
  replace t0 := pk e1 t0
  replace t9 := pk e1 t9
  replace t61 := pk e1 t61
  clear t8
  have t62 := pq e1 z0
  clear e1 z0
  refine qc (by rfl) (by unfold even7_o2; go_simp) (C1) (fun e x2 hx => ?_)
  obtain ⟨rfl, C2⟩ := hx
  refine ⟨_, rfl, fun a2 e2 => ?_⟩
  rw [← e2] at h
  have z2 := pz e2 z1
  replace t0 := pk e2 t0
  replace t9 := pk e2 t9
  clear t61 t62
  have t63 := pq e2 z1
  clear e2 z1
  refine qv (v := .pointer (some ⟨rb, ro, none⟩)) (by rfl) (exec_move rfl t0) (fun a3 e3 => ?_)
  rw [← e3] at h
  have z3 := pz e3 z2
  replace t9 := pk e3 t9
  replace t63 := pk e3 t63
  clear t0
  have t64 := pq e3 z2
  clear e3 z2
  refine qv (v := .int .i64 (q : Int)) (by rfl) (exec_move rfl t9) (fun a4 e4 => ?_)
  rw [← e4] at h
  have z4 := pz e4 z3
  replace t63 := pk e4 t63
  replace t64 := pk e4 t64
  clear t9
  have t65 := pq e4 z3
  clear e4 z3
  refine qc (by rfl) (by unfold even7_o5; go_simp) (C2) (fun e x5 hx => ?_)
  obtain ⟨rfl, HF⟩ := hx
  refine ⟨_, rfl, fun a5 e5 => ?_⟩
  rw [← e5] at h
  have z5 := pz e5 z4
  replace t63 := pk e5 t63
  clear t64 t65
  have t66 := pq e5 z4
  clear e5 z4
  refine qv (v := .int .i64 ((2 * y : Nat) : Int)) (by rfl) (ex_mulN (p := 2) rfl rfl t66 hm) (fun a6 e6 => ?_)
  rw [← e6] at h
  have z6 := pz e6 z5
  replace t63 := pk e6 t63
  clear t66
  have t67 := pq e6 z5
  clear e6 z5
  refine qv (v := .bool r) (by rfl) (ex_geq rfl t63 t67 hr) (fun a7 e7 => ?_)
  rw [← e7] at h
  have z7 := pz e7 z6
  clear t63 t67
  clear e7 z6
  exact wpList_nil (h _ _ (HF) rfl)
def mend2_o0 : Oper := { dst := some 9, op := Op.move (Operand.tmp 0), type := 90, pos := "row.go:157", after := #[], guard := none }
def mend2_o1 : Oper := { dst := some 10, op := Op.nilCheck (Operand.tmp 9), type := 0, pos := "row.go:157", after := #[{ on := 0, ground := Ground.data }], guard := none }
def mend2_o2 : Oper := { dst := some 11, op := Op.fieldAddr 65 (Operand.tmp 10) 0, type := 0, pos := "row.go:157", after := #[{ on := 1, ground := Ground.data }], guard := none }
def mend2_o3 : Oper := { dst := some 12, op := Op.load 63 (Operand.tmp 11), type := 63, pos := "row.go:157", after := #[{ on := 2, ground := Ground.data }], guard := none }
def mend2_o4 : Oper := { dst := some 13, op := Op.move (Operand.tmp 0), type := 90, pos := "row.go:157", after := #[], guard := none }
def mend2_o5 : Oper := { dst := some 14, op := Op.move (Operand.tmp 1), type := 3, pos := "row.go:157", after := #[], guard := none }
def mend2_o6 : Oper := { dst := some 15, op := Op.call { callee := Callee.value (Operand.func 73), args := #[Operand.tmp 13, Operand.tmp 14], argTypes := #[90, 3] }, type := 3, pos := "row.go:157", after := #[{ on := 4, ground := Ground.data }, { on := 5, ground := Ground.data }], guard := none }
def mend2_o7 : Oper := { dst := some 16, op := Op.indexAddr 63 (Operand.tmp 12) (Operand.tmp 15), type := 0, pos := "row.go:157", after := #[{ on := 3, ground := Ground.data }, { on := 6, ground := Ground.data }], guard := none }
def mend2_o8 : Oper := { dst := some 17, op := Op.fieldAddr 89 (Operand.tmp 16) 2, type := 0, pos := "row.go:157", after := #[{ on := 7, ground := Ground.data }], guard := none }
def mend2_o9 : Oper := { dst := some 18, op := Op.load 3 (Operand.tmp 17), type := 3, pos := "row.go:157", after := #[{ on := 8, ground := Ground.data }], guard := none }
def mend2_o10 : Oper := { dst := some 1, op := Op.assign (Operand.tmp 18), type := 3, pos := "row.go:157", after := #[{ on := 9, ground := Ground.data }, { on := 6, ground := Ground.chain }, { on := 0, ground := Ground.phase }, { on := 1, ground := Ground.phase }, { on := 2, ground := Ground.phase }, { on := 3, ground := Ground.phase }, { on := 4, ground := Ground.phase }, { on := 5, ground := Ground.phase }, { on := 6, ground := Ground.phase }, { on := 7, ground := Ground.phase }, { on := 8, ground := Ground.phase }, { on := 9, ground := Ground.phase }], guard := none }
def mend2_ops : Array Oper := #[mend2_o0, mend2_o1, mend2_o2, mend2_o3, mend2_o4, mend2_o5, mend2_o6, mend2_o7, mend2_o8, mend2_o9, mend2_o10]
set_option maxRecDepth 100000 in
set_option maxHeartbeats 4000000 in
theorem mend2 {rb ro g cap N i j k : Nat} (Fin : World → Prop) (a : Act) (w : World) (Q : Exit → Act → World → Prop) (hsz : a.tmps.size = 19)
    (t0 : a.tmps.getD 0 undef = .pointer (some ⟨rb, ro, none⟩))
    (t1 : a.tmps.getD 1 undef = .int .i64 (i : Int))
    (h0 : MS rb ro g cap N w.drew) (XJ : ∀ W, (Instr.indexAt 63 (.slice (some ⟨g, 0, none⟩) N cap) (.int .i64 (j : Int))).run Try.prog W = .ok (.pointer (some ⟨g, 73 * j, none⟩)) W) (CE : Calls Try.prog 73 #[.pointer (some ⟨rb, ro, none⟩), .int .i64 (i : Int)] w.drew fun e w' => e = .returned (.int .i64 (j : Int)) ∧ MS rb ro g cap N w' ∧ (Instr.loadAt 3 (.pointer (some ⟨g, 73 * j + 68, none⟩))).run Try.prog w' = .ok (.int .i64 (k : Int)) w' ∧ Fin w')
    (h : ∀ (a' : Act) (w' : World), Fin w' → a' = (((((((((((a).put (some 9) (.pointer (some ⟨rb, ro, none⟩))).put (some 10) (.pointer (some ⟨rb, ro, none⟩))).put (some 11) (.pointer (some ⟨rb, ro + 0, none⟩))).put (some 12) (.slice (some ⟨g, 0, none⟩) N cap)).put (some 13) (.pointer (some ⟨rb, ro, none⟩))).put (some 14) (.int .i64 (i : Int))).put (some 15) (.int .i64 (j : Int))).put (some 16) (.pointer (some ⟨g, 73 * j, none⟩))).put (some 17) (.pointer (some ⟨g, 73 * j + 68, none⟩))).put (some 18) (.int .i64 (k : Int))).put (some 1) (.int .i64 (k : Int)) → Q .normal a' w') :
    (Code.region 2 mend2_ops true).wp Try.prog Q a w := by
  refine wp_region_noPanic ?_
  refine wp_region_held_drew (S := fun w' => MS rb ro g cap N w') (by kernel_rfl) (h0) (fun hHeld => ?_)
  refine wpAnyH_take (i := 0) (oi := mend2_o0) (v := .pointer (some ⟨rb, ro, none⟩)) rfl (by kernel_rfl) (by kernel_rfl) (by kernel_rfl) (fun _ _ _ h => h) (Or.inl ⟨by rfl, fun w1 hw => exec_move rfl t0⟩) hHeld ?_
  change wpAnyH _ _ _ _ _ _ _ (a.put (some 9) (.pointer (some ⟨rb, ro, none⟩))) _
  obtain ⟨a0, e0⟩ : ∃ act, act = a.put (some 9) (.pointer (some ⟨rb, ro, none⟩)) := ⟨_, rfl⟩
  rw [← e0] at h ⊢
  have z0 := pz e0 hsz
  replace t0 := pk e0 t0
  replace t1 := pk e0 t1
  have t9 := pq e0 hsz
  clear e0 hsz
  refine wpAnyH_take (i := 1) (oi := mend2_o1) (v := .pointer (some ⟨rb, ro, none⟩)) rfl (by kernel_rfl) (by kernel_rfl) (by kernel_rfl) (fun _ _ _ h => h) (Or.inl ⟨by rfl, fun w1 hw => exec_nilCheck rfl t9⟩) hHeld ?_
  change wpAnyH _ _ _ _ _ _ _ (a0.put (some 10) (.pointer (some ⟨rb, ro, none⟩))) _
  obtain ⟨a1, e1⟩ : ∃ act, act = a0.put (some 10) (.pointer (some ⟨rb, ro, none⟩)) := ⟨_, rfl⟩
  rw [← e1] at h ⊢
  have z1 := pz e1 z0
  replace t0 := pk e1 t0
  replace t1 := pk e1 t1
  clear t9
  have t10 := pq e1 z0
  clear e1 z0
  refine wpAnyH_take (i := 2) (oi := mend2_o2) (v := .pointer (some ⟨rb, ro + 0, none⟩)) rfl (by kernel_rfl) (by kernel_rfl) (by kernel_rfl) (fun _ _ _ h => h) (Or.inl ⟨by rfl, fun w1 hw => exec_fieldAt rfl t10 (fg_65_0 _ _ _)⟩) hHeld ?_
  change wpAnyH _ _ _ _ _ _ _ (a1.put (some 11) (.pointer (some ⟨rb, ro + 0, none⟩))) _
  obtain ⟨a2, e2⟩ : ∃ act, act = a1.put (some 11) (.pointer (some ⟨rb, ro + 0, none⟩)) := ⟨_, rfl⟩
  rw [← e2] at h ⊢
  have z2 := pz e2 z1
  replace t0 := pk e2 t0
  replace t1 := pk e2 t1
  clear t10
  have t11 := pq e2 z1
  clear e2 z1
  refine wpAnyH_take (i := 3) (oi := mend2_o3) (v := .slice (some ⟨g, 0, none⟩) N cap) rfl (by kernel_rfl) (by kernel_rfl) (by kernel_rfl) (fun _ _ _ h => h) (Or.inl ⟨by rfl, fun w1 hw => exec_load rfl t11 hw⟩) hHeld ?_
  change wpAnyH _ _ _ _ _ _ _ (a2.put (some 12) (.slice (some ⟨g, 0, none⟩) N cap)) _
  obtain ⟨a3, e3⟩ : ∃ act, act = a2.put (some 12) (.slice (some ⟨g, 0, none⟩) N cap) := ⟨_, rfl⟩
  rw [← e3] at h ⊢
  have z3 := pz e3 z2
  replace t0 := pk e3 t0
  replace t1 := pk e3 t1
  clear t11
  have t12 := pq e3 z2
  clear e3 z2
  refine wpAnyH_take (i := 4) (oi := mend2_o4) (v := .pointer (some ⟨rb, ro, none⟩)) rfl (by kernel_rfl) (by kernel_rfl) (by kernel_rfl) (fun _ _ _ h => h) (Or.inl ⟨by rfl, fun w1 hw => exec_move rfl t0⟩) hHeld ?_
  change wpAnyH _ _ _ _ _ _ _ (a3.put (some 13) (.pointer (some ⟨rb, ro, none⟩))) _
  obtain ⟨a4, e4⟩ : ∃ act, act = a3.put (some 13) (.pointer (some ⟨rb, ro, none⟩)) := ⟨_, rfl⟩
  rw [← e4] at h ⊢
  have z4 := pz e4 z3
  replace t1 := pk e4 t1
  replace t12 := pk e4 t12
  clear t0
  have t13 := pq e4 z3
  clear e4 z3
  refine wpAnyH_take (i := 5) (oi := mend2_o5) (v := .int .i64 (i : Int)) rfl (by kernel_rfl) (by kernel_rfl) (by kernel_rfl) (fun _ _ _ h => h) (Or.inl ⟨by rfl, fun w1 hw => exec_move rfl t1⟩) hHeld ?_
  change wpAnyH _ _ _ _ _ _ _ (a4.put (some 14) (.int .i64 (i : Int))) _
  obtain ⟨a5, e5⟩ : ∃ act, act = a4.put (some 14) (.int .i64 (i : Int)) := ⟨_, rfl⟩
  rw [← e5] at h ⊢
  have z5 := pz e5 z4
  replace t12 := pk e5 t12
  replace t13 := pk e5 t13
  clear t1
  have t14 := pq e5 z4
  clear e5 z4
  refine wpAnyH_ready (rs := [6]) (by kernel_rfl) (by simp) ?_
  refine AllReadyH.cons (o := mend2_o6) rfl (fun K hK => ?_) AllReadyH.nil
  rw [if_pos (by rfl)]
  unfold mend2_o6 at hK ⊢
  go_simp
  refine (CE).mono ?_
  rintro e x6 ⟨rfl, S1, LK, HF⟩
  try go_wp2_with fail
  refine hK.out _ _ (S1) (fun hHeld => ?_)
  clear hK K
  change wpAnyH _ _ _ _ _ _ _ (a5.put (some 15) (.int .i64 (j : Int))) _
  obtain ⟨a6, e6⟩ : ∃ act, act = a5.put (some 15) (.int .i64 (j : Int)) := ⟨_, rfl⟩
  rw [← e6] at h ⊢
  have z6 := pz e6 z5
  replace t12 := pk e6 t12
  clear t13 t14
  have t15 := pq e6 z5
  clear e6 z5
  refine wpAnyH_take (i := 7) (oi := mend2_o7) (v := .pointer (some ⟨g, 73 * j, none⟩)) rfl (by kernel_rfl) (by kernel_rfl) (by kernel_rfl) (fun _ _ _ h => h) (Or.inl ⟨by rfl, fun w1 hw => exec_indexAt rfl t12 t15 (XJ _)⟩) hHeld ?_
  change wpAnyH _ _ _ _ _ _ _ (a6.put (some 16) (.pointer (some ⟨g, 73 * j, none⟩))) _
  obtain ⟨a7, e7⟩ : ∃ act, act = a6.put (some 16) (.pointer (some ⟨g, 73 * j, none⟩)) := ⟨_, rfl⟩
  rw [← e7] at h ⊢
  have z7 := pz e7 z6
  clear t12 t15
  have t16 := pq e7 z6
  clear e7 z6
  refine wpAnyH_take (i := 8) (oi := mend2_o8) (v := .pointer (some ⟨g, 73 * j + 68, none⟩)) rfl (by kernel_rfl) (by kernel_rfl) (by kernel_rfl) (fun _ _ _ h => h) (Or.inl ⟨by rfl, fun w1 hw => exec_fieldAt rfl t16 (fg_89_2 _ _ _)⟩) hHeld ?_
  change wpAnyH _ _ _ _ _ _ _ (a7.put (some 17) (.pointer (some ⟨g, 73 * j + 68, none⟩))) _
  obtain ⟨a8, e8⟩ : ∃ act, act = a7.put (some 17) (.pointer (some ⟨g, 73 * j + 68, none⟩)) := ⟨_, rfl⟩
  rw [← e8] at h ⊢
  have z8 := pz e8 z7
  clear t16
  have t17 := pq e8 z7
  clear e8 z7
  refine wpAnyH_ready (rs := [9]) (by kernel_rfl) (by simp) ?_
  refine AllReadyH.cons (o := mend2_o9) rfl (fun K hK => ?_) AllReadyH.nil
  have XX := exec_load (P := Try.prog) (a := a8) (o := mend2_o9) rfl t17 LK
  rw [if_pos (by rfl), Oper.wp, XX]
  show K _ _
  clear XX
  refine hK.out _ _ (S1) (fun hHeld => ?_)
  clear hK K
  change wpAnyH _ _ _ _ _ _ _ (a8.put (some 18) (.int .i64 (k : Int))) _
  obtain ⟨a9, e9⟩ : ∃ act, act = a8.put (some 18) (.int .i64 (k : Int)) := ⟨_, rfl⟩
  rw [← e9] at h ⊢
  have z9 := pz e9 z8
  clear t17
  have t18 := pq e9 z8
  clear e9 z8
  refine wpAnyH_take (i := 10) (oi := mend2_o10) (v := .int .i64 (k : Int)) rfl (by kernel_rfl) (by kernel_rfl) (by kernel_rfl) (fun _ _ _ h => h) (Or.inl ⟨by rfl, fun w1 hw => exec_assign rfl t18⟩) hHeld ?_
  change wpAnyH _ _ _ _ _ _ _ (a9.put (some 1) (.int .i64 (k : Int))) _
  obtain ⟨a10, e10⟩ : ∃ act, act = a9.put (some 1) (.int .i64 (k : Int)) := ⟨_, rfl⟩
  rw [← e10] at h ⊢
  have z10 := pz e10 z9
  clear t18
  clear e10 z9
  exact wpAnyH_done (by kernel_rfl) (NoPanic.normal (h _ _ (HF) rfl)) _
end Go.Proofs.Ytpdepbakopdgpaa
