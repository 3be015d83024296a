import Derived.Test.YtpdepbakopdgpaaP0
namespace Go.Proofs.Ytpdepbakopdgpaa
open Go.RowKit Sq
set_option linter.unusedVariables false
set_option linter.unusedSimpArgs false

theorem ex_neq36 {w : World} {a : Act} {o : Oper} {x y : Operand} {p q : Int} {r : Bool} (ho : o.op = .binOp .neq 36 x y 36) (hx : a.eval x = .int .i64 p) (hy : a.eval y = .int .i64 q) (h : decide (p ≠ q) = r) : (execOp a.eval o).run Try.prog w = .ok (.value (.bool r)) w := by
  refine exec_binOp ho hx hy ?_ ?_
  · kernel_rfl
  · subst h
    go_simp
    first | rfl | (congr 2; rw [Bool.eq_iff_iff]; simp)
def btw8_o0 : Oper := { dst := some 19, op := Op.move (Operand.tmp 3), type := 23, pos := "law.go:178", after := #[], guard := none }
def btw8_o1 : Oper := { dst := some 20, op := Op.move (Operand.tmp 0), type := 43, pos := "law.go:178", after := #[], guard := none }
def btw8_o2 : Oper := { dst := some 21, op := Op.move (Operand.tmp 4), type := 3, pos := "law.go:178", after := #[], guard := none }
def btw8_o3 : Oper := { dst := some 22, op := Op.indexAddr 43 (Operand.tmp 20) (Operand.tmp 21), type := 0, pos := "law.go:178", after := #[{ on := 1, ground := Ground.data }, { on := 2, ground := Ground.data }], guard := none }
def btw8_o4 : Oper := { dst := some 23, op := Op.fieldAddr 55 (Operand.tmp 22) 0, type := 0, pos := "law.go:178", after := #[{ on := 3, ground := Ground.data }], guard := none }
def btw8_o5 : Oper := { dst := some 24, op := Op.load 32 (Operand.tmp 23), type := 32, pos := "law.go:178", after := #[{ on := 4, ground := Ground.data }], guard := none }
def btw8_o6 : Oper := { dst := some 25, op := Op.move (Operand.tmp 0), type := 43, pos := "law.go:178", after := #[], guard := none }
def btw8_o7 : Oper := { dst := some 26, op := Op.move (Operand.tmp 4), type := 3, pos := "law.go:178", after := #[], guard := none }
def btw8_o8 : Oper := { dst := some 27, op := Op.indexAddr 43 (Operand.tmp 25) (Operand.tmp 26), type := 0, pos := "law.go:178", after := #[{ on := 6, ground := Ground.data }, { on := 7, ground := Ground.data }], guard := none }
def btw8_o9 : Oper := { dst := some 28, op := Op.fieldAddr 55 (Operand.tmp 27) 1, type := 0, pos := "law.go:178", after := #[{ on := 8, ground := Ground.data }], guard := none }
def btw8_o10 : Oper := { dst := some 29, op := Op.load 32 (Operand.tmp 28), type := 32, pos := "law.go:178", after := #[{ on := 9, ground := Ground.data }], guard := none }
def btw8_o11 : Oper := { dst := some 30, op := Op.call { callee := Callee.value (Operand.func 12), args := #[Operand.tmp 19, Operand.tmp 24, Operand.tmp 29], argTypes := #[23, 32, 32] }, type := 36, pos := "law.go:178", after := #[{ on := 0, ground := Ground.data }, { on := 5, ground := Ground.data }, { on := 10, ground := Ground.data }], guard := none }
def btw8_o12 : Oper := { dst := some 31, op := Op.binOp BinOp.neq 36 (Operand.tmp 30) (Operand.const (Value.int IntKind.i64 0)) 36, type := 4, pos := "law.go:178", after := #[{ on := 11, ground := Ground.data }], guard := none }
def btw8_ops : Array Oper := #[btw8_o0, btw8_o1, btw8_o2, btw8_o3, btw8_o4, btw8_o5, btw8_o6, btw8_o7, btw8_o8, btw8_o9, btw8_o10, btw8_o11, btw8_o12]
set_option maxRecDepth 100000 in
set_option maxHeartbeats 4000000 in
theorem btw8 {pb po m pc i : Nat} {p : PutV} {sb : Nat} {c : Int} {r : Bool} (Fin : World → Prop) (a : Act) (w : World) (Q : Exit → Act → World → Prop) (hsz : a.tmps.size = 96)
    (t0 : a.tmps.getD 0 undef = .slice (some ⟨pb, po, none⟩) m pc)
    (t3 : a.tmps.getD 3 undef = .pointer (some ⟨sb, 0, none⟩))
    (t4 : a.tmps.getD 4 undef = .int .i64 (i : Int))
    (hp : p.ok) (hi : i < m) (hm : m ≤ 1400000000000) (h0 : w.drew.rangeAt pb (po + 66 * i) p.c) (hr : decide (c ≠ 0) = r) (CI : Calls Try.prog 12 #[.pointer (some ⟨sb, 0, none⟩), p.id.v, p.bh.v] w.drew fun e w' => e = .returned (.int .i64 c) ∧ w'.rangeAt pb (po + 66 * i) p.c ∧ Fin w')
    (h : ∀ (a' : Act) (w' : World), Fin w' → a' = (((((((((((((a).put (some 19) (.pointer (some ⟨sb, 0, none⟩))).put (some 20) (.slice (some ⟨pb, po, none⟩) m pc)).put (some 21) (.int .i64 (i : Int))).put (some 22) (.pointer (some ⟨pb, po + 66 * i, none⟩))).put (some 23) (.pointer (some ⟨pb, po + 66 * i + 0, none⟩))).put (some 24) (p.id.v)).put (some 25) (.slice (some ⟨pb, po, none⟩) m pc)).put (some 26) (.int .i64 (i : Int))).put (some 27) (.pointer (some ⟨pb, po + 66 * i, none⟩))).put (some 28) (.pointer (some ⟨pb, po + 66 * i + 33, none⟩))).put (some 29) (p.bh.v)).put (some 30) (.int .i64 c)).put (some 31) (.bool r) → Q .normal a' w') :
    (Code.region 8 btw8_ops true).wp Try.prog Q a w := by
  refine wp_region_noPanic ?_
  refine wp_region_held_drew (S := fun w' => w'.rangeAt pb (po + 66 * i) p.c) (by kernel_rfl) (h0) (fun hHeld => ?_)
  refine wpAnyH_take (i := 0) (oi := btw8_o0) (v := .pointer (some ⟨sb, 0, none⟩)) rfl (by kernel_rfl) (by kernel_rfl) (by kernel_rfl) (fun _ _ _ h => h) (Or.inl ⟨by rfl, fun w1 hw => exec_move rfl t3⟩) hHeld ?_
  change wpAnyH _ _ _ _ _ _ _ (a.put (some 19) (.pointer (some ⟨sb, 0, none⟩))) _
  obtain ⟨a0, e0⟩ : ∃ act, act = a.put (some 19) (.pointer (some ⟨sb, 0, none⟩)) := ⟨_, rfl⟩
  rw [← e0] at h ⊢
  have z0 := pz e0 hsz
  replace t0 := pk e0 t0
  replace t4 := pk e0 t4
  clear t3
  have t19 := pq e0 hsz
  clear e0 hsz
  refine wpAnyH_take (i := 1) (oi := btw8_o1) (v := .slice (some ⟨pb, po, none⟩) m pc) rfl (by kernel_rfl) (by kernel_rfl) (by kernel_rfl) (fun _ _ _ h => h) (Or.inl ⟨by rfl, fun w1 hw => exec_move rfl t0⟩) hHeld ?_
  change wpAnyH _ _ _ _ _ _ _ (a0.put (some 20) (.slice (some ⟨pb, po, none⟩) m pc)) _
  obtain ⟨a1, e1⟩ : ∃ act, act = a0.put (some 20) (.slice (some ⟨pb, po, none⟩) m pc) := ⟨_, rfl⟩
  rw [← e1] at h ⊢
  have z1 := pz e1 z0
  replace t0 := pk e1 t0
  replace t4 := pk e1 t4
  replace t19 := pk e1 t19
  have t20 := pq e1 z0
  clear e1 z0
  refine wpAnyH_take (i := 2) (oi := btw8_o2) (v := .int .i64 (i : Int)) rfl (by kernel_rfl) (by kernel_rfl) (by kernel_rfl) (fun _ _ _ h => h) (Or.inl ⟨by rfl, fun w1 hw => exec_move rfl t4⟩) hHeld ?_
  change wpAnyH _ _ _ _ _ _ _ (a1.put (some 21) (.int .i64 (i : Int))) _
  obtain ⟨a2, e2⟩ : ∃ act, act = a1.put (some 21) (.int .i64 (i : Int)) := ⟨_, rfl⟩
  rw [← e2] at h ⊢
  have z2 := pz e2 z1
  replace t0 := pk e2 t0
  replace t4 := pk e2 t4
  replace t19 := pk e2 t19
  replace t20 := pk e2 t20
  have t21 := pq e2 z1
  clear e2 z1
  refine wpAnyH_take (i := 3) (oi := btw8_o3) (v := .pointer (some ⟨pb, po + 66 * i, none⟩)) rfl (by kernel_rfl) (by kernel_rfl) (by kernel_rfl) (fun _ _ _ h => h) (Or.inl ⟨by rfl, fun w1 hw => exec_indexAt rfl t20 t21 (ix_put hi hm _)⟩) hHeld ?_
  change wpAnyH _ _ _ _ _ _ _ (a2.put (some 22) (.pointer (some ⟨pb, po + 66 * i, none⟩))) _
  obtain ⟨a3, e3⟩ : ∃ act, act = a2.put (some 22) (.pointer (some ⟨pb, po + 66 * i, none⟩)) := ⟨_, rfl⟩
  rw [← e3] at h ⊢
  have z3 := pz e3 z2
  replace t0 := pk e3 t0
  replace t4 := pk e3 t4
  replace t19 := pk e3 t19
  clear t20 t21
  have t22 := pq e3 z2
  clear e3 z2
  refine wpAnyH_take (i := 4) (oi := btw8_o4) (v := .pointer (some ⟨pb, po + 66 * i + 0, none⟩)) rfl (by kernel_rfl) (by kernel_rfl) (by kernel_rfl) (fun _ _ _ h => h) (Or.inl ⟨by rfl, fun w1 hw => exec_fieldAt rfl t22 (fg_55_0 _ _ _)⟩) hHeld ?_
  change wpAnyH _ _ _ _ _ _ _ (a3.put (some 23) (.pointer (some ⟨pb, po + 66 * i + 0, none⟩))) _
  obtain ⟨a4, e4⟩ : ∃ act, act = a3.put (some 23) (.pointer (some ⟨pb, po + 66 * i + 0, none⟩)) := ⟨_, rfl⟩
  rw [← e4] at h ⊢
  have z4 := pz e4 z3
  replace t0 := pk e4 t0
  replace t4 := pk e4 t4
  replace t19 := pk e4 t19
  clear t22
  have t23 := pq e4 z3
  clear e4 z3
  refine wpAnyH_take (i := 5) (oi := btw8_o5) (v := p.id.v) rfl (by kernel_rfl) (by kernel_rfl) (by kernel_rfl) (fun _ _ _ h => h) (Or.inl ⟨by rfl, fun w1 hw => exec_load rfl t23 (ld_pid hp hw)⟩) hHeld ?_
  change wpAnyH _ _ _ _ _ _ _ (a4.put (some 24) (p.id.v)) _
  obtain ⟨a5, e5⟩ : ∃ act, act = a4.put (some 24) (p.id.v) := ⟨_, rfl⟩
  rw [← e5] at h ⊢
  have z5 := pz e5 z4
  replace t0 := pk e5 t0
  replace t4 := pk e5 t4
  replace t19 := pk e5 t19
  clear t23
  have t24 := pq e5 z4
  clear e5 z4
  refine wpAnyH_take (i := 6) (oi := btw8_o6) (v := .slice (some ⟨pb, po, none⟩) m pc) rfl (by kernel_rfl) (by kernel_rfl) (by kernel_rfl) (fun _ _ _ h => h) (Or.inl ⟨by rfl, fun w1 hw => exec_move rfl t0⟩) hHeld ?_
  change wpAnyH _ _ _ _ _ _ _ (a5.put (some 25) (.slice (some ⟨pb, po, none⟩) m pc)) _
  obtain ⟨a6, e6⟩ : ∃ act, act = a5.put (some 25) (.slice (some ⟨pb, po, none⟩) m pc) := ⟨_, rfl⟩
  rw [← e6] at h ⊢
  have z6 := pz e6 z5
  replace t4 := pk e6 t4
  replace t19 := pk e6 t19
  replace t24 := pk e6 t24
  clear t0
  have t25 := pq e6 z5
  clear e6 z5
  refine wpAnyH_take (i := 7) (oi := btw8_o7) (v := .int .i64 (i : Int)) rfl (by kernel_rfl) (by kernel_rfl) (by kernel_rfl) (fun _ _ _ h => h) (Or.inl ⟨by rfl, fun w1 hw => exec_move rfl t4⟩) hHeld ?_
  change wpAnyH _ _ _ _ _ _ _ (a6.put (some 26) (.int .i64 (i : Int))) _
  obtain ⟨a7, e7⟩ : ∃ act, act = a6.put (some 26) (.int .i64 (i : Int)) := ⟨_, rfl⟩
  rw [← e7] at h ⊢
  have z7 := pz e7 z6
  replace t19 := pk e7 t19
  replace t24 := pk e7 t24
  replace t25 := pk e7 t25
  clear t4
  have t26 := pq e7 z6
  clear e7 z6
  refine wpAnyH_take (i := 8) (oi := btw8_o8) (v := .pointer (some ⟨pb, po + 66 * i, none⟩)) rfl (by kernel_rfl) (by kernel_rfl) (by kernel_rfl) (fun _ _ _ h => h) (Or.inl ⟨by rfl, fun w1 hw => exec_indexAt rfl t25 t26 (ix_put hi hm _)⟩) hHeld ?_
  change wpAnyH _ _ _ _ _ _ _ (a7.put (some 27) (.pointer (some ⟨pb, po + 66 * i, none⟩))) _
  obtain ⟨a8, e8⟩ : ∃ act, act = a7.put (some 27) (.pointer (some ⟨pb, po + 66 * i, none⟩)) := ⟨_, rfl⟩
  rw [← e8] at h ⊢
  have z8 := pz e8 z7
  replace t19 := pk e8 t19
  replace t24 := pk e8 t24
  clear t25 t26
  have t27 := pq e8 z7
  clear e8 z7
  refine wpAnyH_take (i := 9) (oi := btw8_o9) (v := .pointer (some ⟨pb, po + 66 * i + 33, none⟩)) rfl (by kernel_rfl) (by kernel_rfl) (by kernel_rfl) (fun _ _ _ h => h) (Or.inl ⟨by rfl, fun w1 hw => exec_fieldAt rfl t27 (fg_55_1 _ _ _)⟩) hHeld ?_
  change wpAnyH _ _ _ _ _ _ _ (a8.put (some 28) (.pointer (some ⟨pb, po + 66 * i + 33, none⟩))) _
  obtain ⟨a9, e9⟩ : ∃ act, act = a8.put (some 28) (.pointer (some ⟨pb, po + 66 * i + 33, none⟩)) := ⟨_, rfl⟩
  rw [← e9] at h ⊢
  have z9 := pz e9 z8
  replace t19 := pk e9 t19
  replace t24 := pk e9 t24
  clear t27
  have t28 := pq e9 z8
  clear e9 z8
  refine wpAnyH_take (i := 10) (oi := btw8_o10) (v := p.bh.v) rfl (by kernel_rfl) (by kernel_rfl) (by kernel_rfl) (fun _ _ _ h => h) (Or.inl ⟨by rfl, fun w1 hw => exec_load rfl t28 (ld_pbh hp hw)⟩) hHeld ?_
  change wpAnyH _ _ _ _ _ _ _ (a9.put (some 29) (p.bh.v)) _
  obtain ⟨a10, e10⟩ : ∃ act, act = a9.put (some 29) (p.bh.v) := ⟨_, rfl⟩
  rw [← e10] at h ⊢
  have z10 := pz e10 z9
  replace t19 := pk e10 t19
  replace t24 := pk e10 t24
  clear t28
  have t29 := pq e10 z9
  clear e10 z9
  refine wpAnyH_ready (rs := [11]) (by kernel_rfl) (by simp) ?_
  refine AllReadyH.cons (o := btw8_o11) rfl (fun K hK => ?_) AllReadyH.nil
  rw [if_pos (by rfl)]
  unfold btw8_o11 at hK ⊢
  go_simp
  refine (CI).mono ?_
  rintro e x11 ⟨rfl, S1, HF⟩
  try go_wp2_with fail
  refine hK.out _ _ (S1) (fun hHeld => ?_)
  clear hK K
  change wpAnyH _ _ _ _ _ _ _ (a10.put (some 30) (.int .i64 c)) _
  obtain ⟨a11, e11⟩ : ∃ act, act = a10.put (some 30) (.int .i64 c) := ⟨_, rfl⟩
  rw [← e11] at h ⊢
  have z11 := pz e11 z10
  clear t19 t24 t29
  have t30 := pq e11 z10
  clear e11 z10
  refine wpAnyH_take (i := 12) (oi := btw8_o12) (v := .bool r) rfl (by kernel_rfl) (by kernel_rfl) (by kernel_rfl) (fun _ _ _ h => h) (Or.inl ⟨by rfl, fun w1 hw => ex_neq36 rfl t30 rfl hr⟩) hHeld ?_
  change wpAnyH _ _ _ _ _ _ _ (a11.put (some 31) (.bool r)) _
  obtain ⟨a12, e12⟩ : ∃ act, act = a11.put (some 31) (.bool r) := ⟨_, rfl⟩
  rw [← e12] at h ⊢
  have z12 := pz e12 z11
  clear t30
  clear e12 z11
  exact wpAnyH_done (by kernel_rfl) (NoPanic.normal (h _ _ (HF) rfl)) _
def btw9_o0 : Oper := { dst := some 32, op := Op.move (Operand.tmp 3), type := 23, pos := "law.go:181", after := #[], guard := none }
def btw9_o1 : Oper := { dst := some 33, op := Op.move (Operand.tmp 0), type := 43, pos := "law.go:181", after := #[], guard := none }
def btw9_o2 : Oper := { dst := some 34, op := Op.move (Operand.tmp 4), type := 3, pos := "law.go:181", after := #[], guard := none }
def btw9_o3 : Oper := { dst := some 35, op := Op.indexAddr 43 (Operand.tmp 33) (Operand.tmp 34), type := 0, pos := "law.go:181", after := #[{ on := 1, ground := Ground.data }, { on := 2, ground := Ground.data }], guard := none }
def btw9_o4 : Oper := { dst := some 36, op := Op.fieldAddr 55 (Operand.tmp 35) 0, type := 0, pos := "law.go:181", after := #[{ on := 3, ground := Ground.data }], guard := none }
def btw9_o5 : Oper := { dst := some 37, op := Op.load 32 (Operand.tmp 36), type := 32, pos := "law.go:181", after := #[{ on := 4, ground := Ground.data }], guard := none }
def btw9_o6 : Oper := { dst := some 38, op := Op.call { callee := Callee.value (Operand.func 27), args := #[Operand.tmp 32, Operand.tmp 37], argTypes := #[23, 32] }, type := 3, pos := "law.go:181", after := #[{ on := 0, ground := Ground.data }, { on := 5, ground := Ground.data }], guard := none }
def btw9_o7 : Oper := { dst := some 6, op := Op.assign (Operand.tmp 38), type := 3, pos := "law.go:181", after := #[{ on := 6, ground := Ground.data }, { on := 6, ground := Ground.chain }, { on := 0, ground := Ground.phase }, { on := 1, ground := Ground.phase }, { on := 2, ground := Ground.phase }, { on := 3, ground := Ground.phase }, { on := 4, ground := Ground.phase }, { on := 5, ground := Ground.phase }, { on := 6, ground := Ground.phase }], guard := none }
def btw9_ops : Array Oper := #[btw9_o0, btw9_o1, btw9_o2, btw9_o3, btw9_o4, btw9_o5, btw9_o6, btw9_o7]
set_option maxRecDepth 100000 in
set_option maxHeartbeats 4000000 in
theorem btw9 {pb po m pc i : Nat} {p : PutV} {sb n : Nat} (Fin : World → Prop) (a : Act) (w : World) (Q : Exit → Act → World → Prop) (hsz : a.tmps.size = 96)
    (t0 : a.tmps.getD 0 undef = .slice (some ⟨pb, po, none⟩) m pc)
    (t3 : a.tmps.getD 3 undef = .pointer (some ⟨sb, 0, none⟩))
    (t4 : a.tmps.getD 4 undef = .int .i64 (i : Int))
    (hp : p.ok) (hi : i < m) (hm : m ≤ 1400000000000) (h0 : w.rangeAt pb (po + 66 * i) p.c) (CR : Calls Try.prog 27 #[.pointer (some ⟨sb, 0, none⟩), p.id.v] w fun e w' => e = .returned (.int .i64 (n : Int)) ∧ Fin w')
    (h : ∀ (a' : Act) (w' : World), Fin w' → a' = ((((((((a).put (some 32) (.pointer (some ⟨sb, 0, none⟩))).put (some 33) (.slice (some ⟨pb, po, none⟩) m pc)).put (some 34) (.int .i64 (i : Int))).put (some 35) (.pointer (some ⟨pb, po + 66 * i, none⟩))).put (some 36) (.pointer (some ⟨pb, po + 66 * i + 0, none⟩))).put (some 37) (p.id.v)).put (some 38) (.int .i64 (n : Int))).put (some 6) (.int .i64 (n : Int)) → Q .normal a' w') :
    (Code.region 9 btw9_ops false).wp Try.prog Q a w := by
  refine wp_region_list ?_
  change wpList _ _ _ [btw9_o0, btw9_o1, btw9_o2, btw9_o3, btw9_o4, btw9_o5, btw9_o6, btw9_o7] _ _
  refine qv (v := .pointer (some ⟨sb, 0, none⟩)) (by rfl) (exec_move rfl t3) (fun a0 e0 => ?_)
  rw [← e0] at h
  have z0 := pz e0 hsz
  replace t0 := pk e0 t0
  replace t4 := pk e0 t4
  clear t3
  have t32 := pq e0 hsz
  clear e0 hsz
  refine qv (v := .slice (some ⟨pb, po, none⟩) m pc) (by rfl) (exec_move rfl t0) (fun a1 e1 => ?_)
  rw [← e1] at h
  have z1 := pz e1 z0
  replace t4 := pk e1 t4
  replace t32 := pk e1 t32
  clear t0
  have t33 := pq e1 z0
  clear e1 z0
  refine qv (v := .int .i64 (i : Int)) (by rfl) (exec_move rfl t4) (fun a2 e2 => ?_)
  rw [← e2] at h
  have z2 := pz e2 z1
  replace t32 := pk e2 t32
  replace t33 := pk e2 t33
  clear t4
  have t34 := pq e2 z1
  clear e2 z1
  refine qv (v := .pointer (some ⟨pb, po + 66 * i, none⟩)) (by rfl) (exec_indexAt rfl t33 t34 (ix_put hi hm _)) (fun a3 e3 => ?_)
  rw [← e3] at h
  have z3 := pz e3 z2
  replace t32 := pk e3 t32
  clear t33 t34
  have t35 := pq e3 z2
  clear e3 z2
  refine qv (v := .pointer (some ⟨pb, po + 66 * i + 0, none⟩)) (by rfl) (exec_fieldAt rfl t35 (fg_55_0 _ _ _)) (fun a4 e4 => ?_)
  rw [← e4] at h
  have z4 := pz e4 z3
  replace t32 := pk e4 t32
  clear t35
  have t36 := pq e4 z3
  clear e4 z3
  refine qv (v := p.id.v) (by rfl) (exec_load rfl t36 (ld_pid hp h0)) (fun a5 e5 => ?_)
  rw [← e5] at h
  have z5 := pz e5 z4
  replace t32 := pk e5 t32
  clear t36
  have t37 := pq e5 z4
  clear e5 z4
  refine qc (by rfl) (by unfold btw9_o6; go_simp) (CR) (fun e x6 hx => ?_)
  obtain ⟨rfl, HF⟩ := hx
  refine ⟨_, rfl, fun a6 e6 => ?_⟩
  rw [← e6] at h
  have z6 := pz e6 z5
  clear t32 t37
  have t38 := pq e6 z5
  clear e6 z5
  refine qv (v := .int .i64 (n : Int)) (by rfl) (exec_assign rfl t38) (fun a7 e7 => ?_)
  rw [← e7] at h
  have z7 := pz e7 z6
  clear t38
  clear e7 z6
  exact wpList_nil (h _ _ (HF) rfl)
def btw10_o0 : Oper := { dst := some 39, op := Op.move (Operand.tmp 6), type := 3, pos := "law.go:182", after := #[], guard := none }
def btw10_o1 : Oper := { dst := some 40, op := Op.move (Operand.tmp 3), type := 23, pos := "law.go:182", after := #[], guard := none }
def btw10_o2 : Oper := { dst := some 41, op := Op.move (Operand.tmp 0), type := 43, pos := "law.go:182", after := #[], guard := none }
def btw10_o3 : Oper := { dst := some 42, op := Op.move (Operand.tmp 4), type := 3, pos := "law.go:182", after := #[], guard := none }
def btw10_o4 : Oper := { dst := some 43, op := Op.indexAddr 43 (Operand.tmp 41) (Operand.tmp 42), type := 0, pos := "law.go:182", after := #[{ on := 2, ground := Ground.data }, { on := 3, ground := Ground.data }], guard := none }
def btw10_o5 : Oper := { dst := some 44, op := Op.fieldAddr 55 (Operand.tmp 43) 1, type := 0, pos := "law.go:182", after := #[{ on := 4, ground := Ground.data }], guard := none }
def btw10_o6 : Oper := { dst := some 45, op := Op.load 32 (Operand.tmp 44), type := 32, pos := "law.go:182", after := #[{ on := 5, ground := Ground.data }], guard := none }
def btw10_o7 : Oper := { dst := some 46, op := Op.call { callee := Callee.value (Operand.func 27), args := #[Operand.tmp 40, Operand.tmp 45], argTypes := #[23, 32] }, type := 3, pos := "law.go:182", after := #[{ on := 1, ground := Ground.data }, { on := 6, ground := Ground.data }], guard := none }
def btw10_o8 : Oper := { dst := some 47, op := Op.binOp BinOp.add 3 (Operand.tmp 46) (Operand.const (Value.int IntKind.i64 1)) 3, type := 3, pos := "law.go:182", after := #[{ on := 7, ground := Ground.data }], guard := none }
def btw10_o9 : Oper := { dst := some 48, op := Op.binOp BinOp.neq 3 (Operand.tmp 39) (Operand.tmp 47) 3, type := 4, pos := "law.go:182", after := #[{ on := 0, ground := Ground.data }, { on := 8, ground := Ground.data }], guard := none }
def btw10_o10 : Oper := { dst := some 49, op := Op.move (Operand.tmp 48), type := 4, pos := "law.go:182", after := #[{ on := 9, ground := Ground.data }, { on := 7, ground := Ground.chain }], guard := none }
def btw10_o11 : Oper := { dst := some 50, op := Op.move (Operand.tmp 0), type := 43, pos := "law.go:182", after := #[{ on := 10, ground := Ground.guard }], guard := some (10, false) }
def btw10_o12 : Oper := { dst := some 51, op := Op.move (Operand.tmp 4), type := 3, pos := "law.go:182", after := #[{ on := 10, ground := Ground.guard }], guard := some (10, false) }
def btw10_o13 : Oper := { dst := some 52, op := Op.indexAddr 43 (Operand.tmp 50) (Operand.tmp 51), type := 0, pos := "law.go:182", after := #[{ on := 11, ground := Ground.data }, { on := 12, ground := Ground.data }, { on := 10, ground := Ground.guard }], guard := some (10, false) }
def btw10_o14 : Oper := { dst := some 53, op := Op.fieldAddr 55 (Operand.tmp 52) 1, type := 0, pos := "law.go:182", after := #[{ on := 13, ground := Ground.data }, { on := 10, ground := Ground.guard }], guard := some (10, false) }
def btw10_o15 : Oper := { dst := some 54, op := Op.load 32 (Operand.tmp 53), type := 32, pos := "law.go:182", after := #[{ on := 14, ground := Ground.data }, { on := 10, ground := Ground.guard }], guard := some (10, false) }
def btw10_o16 : Oper := { dst := some 55, op := Op.build 32 #[], type := 32, pos := "law.go:182", after := #[{ on := 10, ground := Ground.guard }], guard := some (10, false) }
def btw10_o17 : Oper := { dst := some 56, op := Op.binOp BinOp.eql 32 (Operand.tmp 54) (Operand.tmp 55) 32, type := 4, pos := "law.go:182", after := #[{ on := 15, ground := Ground.data }, { on := 16, ground := Ground.data }, { on := 10, ground := Ground.guard }], guard := some (10, false) }
def btw10_o18 : Oper := { dst := some 57, op := Op.move (Operand.tmp 56), type := 4, pos := "law.go:182", after := #[{ on := 17, ground := Ground.data }, { on := 10, ground := Ground.chain }, { on := 10, ground := Ground.guard }], guard := some (10, false) }
def btw10_o19 : Oper := { dst := some 58, op := Op.move (Operand.tmp 6), type := 3, pos := "law.go:182", after := #[{ on := 18, ground := Ground.guard }], guard := some (18, true) }
def btw10_o20 : Oper := { dst := some 59, op := Op.binOp BinOp.neq 3 (Operand.tmp 58) (Operand.const (Value.int IntKind.i64 0)) 3, type := 4, pos := "law.go:182", after := #[{ on := 19, ground := Ground.data }, { on := 18, ground := Ground.guard }], guard := some (18, true) }
def btw10_o21 : Oper := { dst := some 60, op := Op.pick (Operand.tmp 57) (Operand.tmp 59) (Operand.const (Value.bool false)), type := 4, pos := "law.go:182", after := #[{ on := 18, ground := Ground.data }, { on := 20, ground := Ground.data }, { on := 10, ground := Ground.guard }], guard := some (10, false) }
def btw10_o22 : Oper := { dst := some 61, op := Op.pick (Operand.tmp 49) (Operand.const (Value.bool true)) (Operand.tmp 60), type := 4, pos := "law.go:182", after := #[{ on := 10, ground := Ground.data }, { on := 21, ground := Ground.data }], guard := none }
def btw10_ops : Array Oper := #[btw10_o0, btw10_o1, btw10_o2, btw10_o3, btw10_o4, btw10_o5, btw10_o6, btw10_o7, btw10_o8, btw10_o9, btw10_o10, btw10_o11, btw10_o12, btw10_o13, btw10_o14, btw10_o15, btw10_o16, btw10_o17, btw10_o18, btw10_o19, btw10_o20, btw10_o21, btw10_o22]
set_option maxRecDepth 100000 in
set_option maxHeartbeats 4000000 in
theorem btw10a {pb po m pc i : Nat} {p : PutV} {sb n : Nat} {r2 : Int} (Fin : World → Prop) (a : Act) (w : World) (Q : Exit → Act → World → Prop) (hsz : a.tmps.size = 96)
    (t0 : a.tmps.getD 0 undef = .slice (some ⟨pb, po, none⟩) m pc)
    (t3 : a.tmps.getD 3 undef = .pointer (some ⟨sb, 0, none⟩))
    (t4 : a.tmps.getD 4 undef = .int .i64 (i : Int))
    (t6 : a.tmps.getD 6 undef = .int .i64 (n : Int))
    (hp : p.ok) (hi : i < m) (hm : m ≤ 1400000000000) (h0 : w.rangeAt pb (po + 66 * i) p.c) (hov : -9223372036854775808 ≤ r2 + 1 ∧ r2 + 1 ≤ 9223372036854775807) (hne : decide ((n : Int) ≠ r2 + 1) = false) (hz : decide (p.bh = zId) = true) (h0n : decide ((n : Int) ≠ 0) = false) (CR : Calls Try.prog 27 #[.pointer (some ⟨sb, 0, none⟩), p.bh.v] w fun e w' => e = .returned (.int .i64 r2) ∧ w'.rangeAt pb (po + 66 * i) p.c ∧ Fin w')
    (h : ∀ (a' : Act) (w' : World), Fin w' → a' = (((((((((((((((((((((((a).put (some 39) (.int .i64 (n : Int))).put (some 40) (.pointer (some ⟨sb, 0, none⟩))).put (some 41) (.slice (some ⟨pb, po, none⟩) m pc)).put (some 42) (.int .i64 (i : Int))).put (some 43) (.pointer (some ⟨pb, po + 66 * i, none⟩))).put (some 44) (.pointer (some ⟨pb, po + 66 * i + 33, none⟩))).put (some 45) (p.bh.v)).put (some 46) (.int .i64 r2)).put (some 47) (.int .i64 (r2 + 1))).put (some 48) (.bool false)).put (some 49) (.bool false)).put (some 50) (.slice (some ⟨pb, po, none⟩) m pc)).put (some 51) (.int .i64 (i : Int))).put (some 52) (.pointer (some ⟨pb, po + 66 * i, none⟩))).put (some 53) (.pointer (some ⟨pb, po + 66 * i + 33, none⟩))).put (some 54) (p.bh.v)).put (some 55) (zId.v)).put (some 56) (.bool true)).put (some 57) (.bool true)).put (some 58) (.int .i64 (n : Int))).put (some 59) (.bool false)).put (some 60) (.bool false)).put (some 61) (.bool false) → Q .normal a' w') :
    (Code.region 10 btw10_ops false).wp Try.prog Q a w := by
  refine wp_region_list ?_
  change wpList _ _ _ [btw10_o0, btw10_o1, btw10_o2, btw10_o3, btw10_o4, btw10_o5, btw10_o6, btw10_o7, btw10_o8, btw10_o9, btw10_o10, btw10_o11, btw10_o12, btw10_o13, btw10_o14, btw10_o15, btw10_o16, btw10_o17, btw10_o18, btw10_o19, btw10_o20, btw10_o21, btw10_o22] _ _
  refine qv (v := .int .i64 (n : Int)) (by rfl) (exec_move rfl t6) (fun a0 e0 => ?_)
  rw [← e0] at h
  have z0 := pz e0 hsz
  replace t0 := pk e0 t0
  replace t3 := pk e0 t3
  replace t4 := pk e0 t4
  replace t6 := pk e0 t6
  have t39 := pq e0 hsz
  clear e0 hsz
  refine qv (v := .pointer (some ⟨sb, 0, none⟩)) (by rfl) (exec_move rfl t3) (fun a1 e1 => ?_)
  rw [← e1] at h
  have z1 := pz e1 z0
  replace t0 := pk e1 t0
  replace t4 := pk e1 t4
  replace t6 := pk e1 t6
  replace t39 := pk e1 t39
  clear t3
  have t40 := pq e1 z0
  clear e1 z0
  refine qv (v := .slice (some ⟨pb, po, none⟩) m pc) (by rfl) (exec_move rfl t0) (fun a2 e2 => ?_)
  rw [← e2] at h
  have z2 := pz e2 z1
  replace t0 := pk e2 t0
  replace t4 := pk e2 t4
  replace t6 := pk e2 t6
  replace t39 := pk e2 t39
  replace t40 := pk e2 t40
  have t41 := pq e2 z1
  clear e2 z1
  refine qv (v := .int .i64 (i : Int)) (by rfl) (exec_move rfl t4) (fun a3 e3 => ?_)
  rw [← e3] at h
  have z3 := pz e3 z2
  replace t0 := pk e3 t0
  replace t4 := pk e3 t4
  replace t6 := pk e3 t6
  replace t39 := pk e3 t39
  replace t40 := pk e3 t40
  replace t41 := pk e3 t41
  have t42 := pq e3 z2
  clear e3 z2
  refine qv (v := .pointer (some ⟨pb, po + 66 * i, none⟩)) (by rfl) (exec_indexAt rfl t41 t42 (ix_put hi hm _)) (fun a4 e4 => ?_)
  rw [← e4] at h
  have z4 := pz e4 z3
  replace t0 := pk e4 t0
  replace t4 := pk e4 t4
  replace t6 := pk e4 t6
  replace t39 := pk e4 t39
  replace t40 := pk e4 t40
  clear t41 t42
  have t43 := pq e4 z3
  clear e4 z3
  refine qv (v := .pointer (some ⟨pb, po + 66 * i + 33, none⟩)) (by rfl) (exec_fieldAt rfl t43 (fg_55_1 _ _ _)) (fun a5 e5 => ?_)
  rw [← e5] at h
  have z5 := pz e5 z4
  replace t0 := pk e5 t0
  replace t4 := pk e5 t4
  replace t6 := pk e5 t6
  replace t39 := pk e5 t39
  replace t40 := pk e5 t40
  clear t43
  have t44 := pq e5 z4
  clear e5 z4
  refine qv (v := p.bh.v) (by rfl) (exec_load rfl t44 (ld_pbh hp h0)) (fun a6 e6 => ?_)
  rw [← e6] at h
  have z6 := pz e6 z5
  replace t0 := pk e6 t0
  replace t4 := pk e6 t4
  replace t6 := pk e6 t6
  replace t39 := pk e6 t39
  replace t40 := pk e6 t40
  clear t44
  have t45 := pq e6 z5
  clear e6 z5
  refine qc (by rfl) (by unfold btw10_o7; go_simp) (CR) (fun e x7 hx => ?_)
  obtain ⟨rfl, R1, HF⟩ := hx
  refine ⟨_, rfl, fun a7 e7 => ?_⟩
  rw [← e7] at h
  have z7 := pz e7 z6
  replace t0 := pk e7 t0
  replace t4 := pk e7 t4
  replace t6 := pk e7 t6
  replace t39 := pk e7 t39
  clear t40 t45
  have t46 := pq e7 z6
  clear e7 z6
  refine qv (v := .int .i64 (r2 + 1)) (by rfl) (ex_add rfl t46 rfl hov) (fun a8 e8 => ?_)
  rw [← e8] at h
  have z8 := pz e8 z7
  replace t0 := pk e8 t0
  replace t4 := pk e8 t4
  replace t6 := pk e8 t6
  replace t39 := pk e8 t39
  clear t46
  have t47 := pq e8 z7
  clear e8 z7
  refine qv (v := .bool false) (by rfl) (ex_neq rfl t39 t47 hne) (fun a9 e9 => ?_)
  rw [← e9] at h
  have z9 := pz e9 z8
  replace t0 := pk e9 t0
  replace t4 := pk e9 t4
  replace t6 := pk e9 t6
  clear t39 t47
  have t48 := pq e9 z8
  clear e9 z8
  refine qv (v := .bool false) (by rfl) (exec_move rfl t48) (fun a10 e10 => ?_)
  rw [← e10] at h
  have z10 := pz e10 z9
  replace t0 := pk e10 t0
  replace t4 := pk e10 t4
  replace t6 := pk e10 t6
  clear t48
  have t49 := pq e10 z9
  clear e10 z9
  refine qv (v := .slice (some ⟨pb, po, none⟩) m pc) (by simp [Region.wanted, yielded, btw10_ops, btw10_o11, btw10_o10, tget z10 (by decide) t49]) (exec_move rfl t0) (fun a11 e11 => ?_)
  rw [← e11] at h
  have z11 := pz e11 z10
  replace t4 := pk e11 t4
  replace t6 := pk e11 t6
  replace t49 := pk e11 t49
  clear t0
  have t50 := pq e11 z10
  clear e11 z10
  refine qv (v := .int .i64 (i : Int)) (by simp [Region.wanted, yielded, btw10_ops, btw10_o12, btw10_o10, tget z11 (by decide) t49]) (exec_move rfl t4) (fun a12 e12 => ?_)
  rw [← e12] at h
  have z12 := pz e12 z11
  replace t6 := pk e12 t6
  replace t49 := pk e12 t49
  replace t50 := pk e12 t50
  clear t4
  have t51 := pq e12 z11
  clear e12 z11
  refine qv (v := .pointer (some ⟨pb, po + 66 * i, none⟩)) (by simp [Region.wanted, yielded, btw10_ops, btw10_o13, btw10_o10, tget z12 (by decide) t49]) (exec_indexAt rfl t50 t51 (ix_put hi hm _)) (fun a13 e13 => ?_)
  rw [← e13] at h
  have z13 := pz e13 z12
  replace t6 := pk e13 t6
  replace t49 := pk e13 t49
  clear t50 t51
  have t52 := pq e13 z12
  clear e13 z12
  refine qv (v := .pointer (some ⟨pb, po + 66 * i + 33, none⟩)) (by simp [Region.wanted, yielded, btw10_ops, btw10_o14, btw10_o10, tget z13 (by decide) t49]) (exec_fieldAt rfl t52 (fg_55_1 _ _ _)) (fun a14 e14 => ?_)
  rw [← e14] at h
  have z14 := pz e14 z13
  replace t6 := pk e14 t6
  replace t49 := pk e14 t49
  clear t52
  have t53 := pq e14 z13
  clear e14 z13
  refine qv (v := p.bh.v) (by simp [Region.wanted, yielded, btw10_ops, btw10_o15, btw10_o10, tget z14 (by decide) t49]) (exec_load rfl t53 (ld_pbh hp R1)) (fun a15 e15 => ?_)
  rw [← e15] at h
  have z15 := pz e15 z14
  replace t6 := pk e15 t6
  replace t49 := pk e15 t49
  clear t53
  have t54 := pq e15 z14
  clear e15 z14
  refine qv (v := zId.v) (by simp [Region.wanted, yielded, btw10_ops, btw10_o16, btw10_o10, tget z15 (by decide) t49]) (exec_build0 rfl (build_id _)) (fun a16 e16 => ?_)
  rw [← e16] at h
  have z16 := pz e16 z15
  replace t6 := pk e16 t6
  replace t49 := pk e16 t49
  replace t54 := pk e16 t54
  have t55 := pq e16 z15
  clear e16 z15
  refine qv (v := .bool true) (by simp [Region.wanted, yielded, btw10_ops, btw10_o17, btw10_o10, tget z16 (by decide) t49]) (ex_eqlI rfl t54 t55 hp.bh zId_ok hz) (fun a17 e17 => ?_)
  rw [← e17] at h
  have z17 := pz e17 z16
  replace t6 := pk e17 t6
  replace t49 := pk e17 t49
  clear t54 t55
  have t56 := pq e17 z16
  clear e17 z16
  refine qv (v := .bool true) (by simp [Region.wanted, yielded, btw10_ops, btw10_o18, btw10_o10, tget z17 (by decide) t49]) (exec_move rfl t56) (fun a18 e18 => ?_)
  rw [← e18] at h
  have z18 := pz e18 z17
  replace t6 := pk e18 t6
  replace t49 := pk e18 t49
  clear t56
  have t57 := pq e18 z17
  clear e18 z17
  refine qv (v := .int .i64 (n : Int)) (by simp [Region.wanted, yielded, btw10_ops, btw10_o19, btw10_o18, tget z18 (by decide) t57]) (exec_move rfl t6) (fun a19 e19 => ?_)
  rw [← e19] at h
  have z19 := pz e19 z18
  replace t49 := pk e19 t49
  replace t57 := pk e19 t57
  clear t6
  have t58 := pq e19 z18
  clear e19 z18
  refine qv (v := .bool false) (by simp [Region.wanted, yielded, btw10_ops, btw10_o20, btw10_o18, tget z19 (by decide) t57]) (ex_neq rfl t58 rfl h0n) (fun a20 e20 => ?_)
  rw [← e20] at h
  have z20 := pz e20 z19
  replace t49 := pk e20 t49
  replace t57 := pk e20 t57
  clear t58
  have t59 := pq e20 z19
  clear e20 z19
  refine qv (v := .bool false) (by simp [Region.wanted, yielded, btw10_ops, btw10_o21, btw10_o10, tget z20 (by decide) t49]) (by unfold btw10_o21; go_simp) (fun a21 e21 => ?_)
  rw [← e21] at h
  have z21 := pz e21 z20
  replace t49 := pk e21 t49
  clear t57 t59
  have t60 := pq e21 z20
  clear e21 z20
  refine qv (v := .bool false) (by rfl) (by unfold btw10_o22; go_simp) (fun a22 e22 => ?_)
  rw [← e22] at h
  have z22 := pz e22 z21
  clear t49 t60
  clear e22 z21
  exact wpList_nil (h _ _ (HF) rfl)
set_option maxRecDepth 100000 in
set_option maxHeartbeats 4000000 in
theorem btw10b {pb po m pc i : Nat} {p : PutV} {sb n : Nat} {r2 : Int} (Fin : World → Prop) (a : Act) (w : World) (Q : Exit → Act → World → Prop) (hsz : a.tmps.size = 96)
    (t0 : a.tmps.getD 0 undef = .slice (some ⟨pb, po, none⟩) m pc)
    (t3 : a.tmps.getD 3 undef = .pointer (some ⟨sb, 0, none⟩))
    (t4 : a.tmps.getD 4 undef = .int .i64 (i : Int))
    (t6 : a.tmps.getD 6 undef = .int .i64 (n : Int))
    (hp : p.ok) (hi : i < m) (hm : m ≤ 1400000000000) (h0 : w.rangeAt pb (po + 66 * i) p.c) (hov : -9223372036854775808 ≤ r2 + 1 ∧ r2 + 1 ≤ 9223372036854775807) (hne : decide ((n : Int) ≠ r2 + 1) = false) (hz : decide (p.bh = zId) = false) (CR : Calls Try.prog 27 #[.pointer (some ⟨sb, 0, none⟩), p.bh.v] w fun e w' => e = .returned (.int .i64 r2) ∧ w'.rangeAt pb (po + 66 * i) p.c ∧ Fin w')
    (h : ∀ (a' : Act) (w' : World), Fin w' → a' = (((((((((((((((((((((((a).put (some 39) (.int .i64 (n : Int))).put (some 40) (.pointer (some ⟨sb, 0, none⟩))).put (some 41) (.slice (some ⟨pb, po, none⟩) m pc)).put (some 42) (.int .i64 (i : Int))).put (some 43) (.pointer (some ⟨pb, po + 66 * i, none⟩))).put (some 44) (.pointer (some ⟨pb, po + 66 * i + 33, none⟩))).put (some 45) (p.bh.v)).put (some 46) (.int .i64 r2)).put (some 47) (.int .i64 (r2 + 1))).put (some 48) (.bool false)).put (some 49) (.bool false)).put (some 50) (.slice (some ⟨pb, po, none⟩) m pc)).put (some 51) (.int .i64 (i : Int))).put (some 52) (.pointer (some ⟨pb, po + 66 * i, none⟩))).put (some 53) (.pointer (some ⟨pb, po + 66 * i + 33, none⟩))).put (some 54) (p.bh.v)).put (some 55) (zId.v)).put (some 56) (.bool false)).put (some 57) (.bool false)).put (some 58) (undef)).put (some 59) (undef)).put (some 60) (.bool false)).put (some 61) (.bool false) → Q .normal a' w') :
    (Code.region 10 btw10_ops false).wp Try.prog Q a w := by
  refine wp_region_list ?_
  change wpList _ _ _ [btw10_o0, btw10_o1, btw10_o2, btw10_o3, btw10_o4, btw10_o5, btw10_o6, btw10_o7, btw10_o8, btw10_o9, btw10_o10, btw10_o11, btw10_o12, btw10_o13, btw10_o14, btw10_o15, btw10_o16, btw10_o17, btw10_o18, btw10_o19, btw10_o20, btw10_o21, btw10_o22] _ _
  refine qv (v := .int .i64 (n : Int)) (by rfl) (exec_move rfl t6) (fun a0 e0 => ?_)
  rw [← e0] at h
  have z0 := pz e0 hsz
  replace t0 := pk e0 t0
  replace t3 := pk e0 t3
  replace t4 := pk e0 t4
  replace t6 := pk e0 t6
  have t39 := pq e0 hsz
  clear e0 hsz
  refine qv (v := .pointer (some ⟨sb, 0, none⟩)) (by rfl) (exec_move rfl t3) (fun a1 e1 => ?_)
  rw [← e1] at h
  have z1 := pz e1 z0
  replace t0 := pk e1 t0
  replace t4 := pk e1 t4
  replace t6 := pk e1 t6
  replace t39 := pk e1 t39
  clear t3
  have t40 := pq e1 z0
  clear e1 z0
  refine qv (v := .slice (some ⟨pb, po, none⟩) m pc) (by rfl) (exec_move rfl t0) (fun a2 e2 => ?_)
  rw [← e2] at h
  have z2 := pz e2 z1
  replace t0 := pk e2 t0
  replace t4 := pk e2 t4
  replace t6 := pk e2 t6
  replace t39 := pk e2 t39
  replace t40 := pk e2 t40
  have t41 := pq e2 z1
  clear e2 z1
  refine qv (v := .int .i64 (i : Int)) (by rfl) (exec_move rfl t4) (fun a3 e3 => ?_)
  rw [← e3] at h
  have z3 := pz e3 z2
  replace t0 := pk e3 t0
  replace t4 := pk e3 t4
  replace t6 := pk e3 t6
  replace t39 := pk e3 t39
  replace t40 := pk e3 t40
  replace t41 := pk e3 t41
  have t42 := pq e3 z2
  clear e3 z2
  refine qv (v := .pointer (some ⟨pb, po + 66 * i, none⟩)) (by rfl) (exec_indexAt rfl t41 t42 (ix_put hi hm _)) (fun a4 e4 => ?_)
  rw [← e4] at h
  have z4 := pz e4 z3
  replace t0 := pk e4 t0
  replace t4 := pk e4 t4
  replace t6 := pk e4 t6
  replace t39 := pk e4 t39
  replace t40 := pk e4 t40
  clear t41 t42
  have t43 := pq e4 z3
  clear e4 z3
  refine qv (v := .pointer (some ⟨pb, po + 66 * i + 33, none⟩)) (by rfl) (exec_fieldAt rfl t43 (fg_55_1 _ _ _)) (fun a5 e5 => ?_)
  rw [← e5] at h
  have z5 := pz e5 z4
  replace t0 := pk e5 t0
  replace t4 := pk e5 t4
  replace t6 := pk e5 t6
  replace t39 := pk e5 t39
  replace t40 := pk e5 t40
  clear t43
  have t44 := pq e5 z4
  clear e5 z4
  refine qv (v := p.bh.v) (by rfl) (exec_load rfl t44 (ld_pbh hp h0)) (fun a6 e6 => ?_)
  rw [← e6] at h
  have z6 := pz e6 z5
  replace t0 := pk e6 t0
  replace t4 := pk e6 t4
  replace t6 := pk e6 t6
  replace t39 := pk e6 t39
  replace t40 := pk e6 t40
  clear t44
  have t45 := pq e6 z5
  clear e6 z5
  refine qc (by rfl) (by unfold btw10_o7; go_simp) (CR) (fun e x7 hx => ?_)
  obtain ⟨rfl, R1, HF⟩ := hx
  refine ⟨_, rfl, fun a7 e7 => ?_⟩
  rw [← e7] at h
  have z7 := pz e7 z6
  replace t0 := pk e7 t0
  replace t4 := pk e7 t4
  replace t6 := pk e7 t6
  replace t39 := pk e7 t39
  clear t40 t45
  have t46 := pq e7 z6
  clear e7 z6
  refine qv (v := .int .i64 (r2 + 1)) (by rfl) (ex_add rfl t46 rfl hov) (fun a8 e8 => ?_)
  rw [← e8] at h
  have z8 := pz e8 z7
  replace t0 := pk e8 t0
  replace t4 := pk e8 t4
  replace t6 := pk e8 t6
  replace t39 := pk e8 t39
  clear t46
  have t47 := pq e8 z7
  clear e8 z7
  refine qv (v := .bool false) (by rfl) (ex_neq rfl t39 t47 hne) (fun a9 e9 => ?_)
  rw [← e9] at h
  have z9 := pz e9 z8
  replace t0 := pk e9 t0
  replace t4 := pk e9 t4
  replace t6 := pk e9 t6
  clear t39 t47
  have t48 := pq e9 z8
  clear e9 z8
  refine qv (v := .bool false) (by rfl) (exec_move rfl t48) (fun a10 e10 => ?_)
  rw [← e10] at h
  have z10 := pz e10 z9
  replace t0 := pk e10 t0
  replace t4 := pk e10 t4
  replace t6 := pk e10 t6
  clear t48
  have t49 := pq e10 z9
  clear e10 z9
  refine qv (v := .slice (some ⟨pb, po, none⟩) m pc) (by simp [Region.wanted, yielded, btw10_ops, btw10_o11, btw10_o10, tget z10 (by decide) t49]) (exec_move rfl t0) (fun a11 e11 => ?_)
  rw [← e11] at h
  have z11 := pz e11 z10
  replace t4 := pk e11 t4
  replace t6 := pk e11 t6
  replace t49 := pk e11 t49
  clear t0
  have t50 := pq e11 z10
  clear e11 z10
  refine qv (v := .int .i64 (i : Int)) (by simp [Region.wanted, yielded, btw10_ops, btw10_o12, btw10_o10, tget z11 (by decide) t49]) (exec_move rfl t4) (fun a12 e12 => ?_)
  rw [← e12] at h
  have z12 := pz e12 z11
  replace t6 := pk e12 t6
  replace t49 := pk e12 t49
  replace t50 := pk e12 t50
  clear t4
  have t51 := pq e12 z11
  clear e12 z11
  refine qv (v := .pointer (some ⟨pb, po + 66 * i, none⟩)) (by simp [Region.wanted, yielded, btw10_ops, btw10_o13, btw10_o10, tget z12 (by decide) t49]) (exec_indexAt rfl t50 t51 (ix_put hi hm _)) (fun a13 e13 => ?_)
  rw [← e13] at h
  have z13 := pz e13 z12
  replace t6 := pk e13 t6
  replace t49 := pk e13 t49
  clear t50 t51
  have t52 := pq e13 z12
  clear e13 z12
  refine qv (v := .pointer (some ⟨pb, po + 66 * i + 33, none⟩)) (by simp [Region.wanted, yielded, btw10_ops, btw10_o14, btw10_o10, tget z13 (by decide) t49]) (exec_fieldAt rfl t52 (fg_55_1 _ _ _)) (fun a14 e14 => ?_)
  rw [← e14] at h
  have z14 := pz e14 z13
  replace t6 := pk e14 t6
  replace t49 := pk e14 t49
  clear t52
  have t53 := pq e14 z13
  clear e14 z13
  refine qv (v := p.bh.v) (by simp [Region.wanted, yielded, btw10_ops, btw10_o15, btw10_o10, tget z14 (by decide) t49]) (exec_load rfl t53 (ld_pbh hp R1)) (fun a15 e15 => ?_)
  rw [← e15] at h
  have z15 := pz e15 z14
  replace t6 := pk e15 t6
  replace t49 := pk e15 t49
  clear t53
  have t54 := pq e15 z14
  clear e15 z14
  refine qv (v := zId.v) (by simp [Region.wanted, yielded, btw10_ops, btw10_o16, btw10_o10, tget z15 (by decide) t49]) (exec_build0 rfl (build_id _)) (fun a16 e16 => ?_)
  rw [← e16] at h
  have z16 := pz e16 z15
  replace t6 := pk e16 t6
  replace t49 := pk e16 t49
  replace t54 := pk e16 t54
  have t55 := pq e16 z15
  clear e16 z15
  refine qv (v := .bool false) (by simp [Region.wanted, yielded, btw10_ops, btw10_o17, btw10_o10, tget z16 (by decide) t49]) (ex_eqlI rfl t54 t55 hp.bh zId_ok hz) (fun a17 e17 => ?_)
  rw [← e17] at h
  have z17 := pz e17 z16
  replace t6 := pk e17 t6
  replace t49 := pk e17 t49
  clear t54 t55
  have t56 := pq e17 z16
  clear e17 z16
  refine qv (v := .bool false) (by simp [Region.wanted, yielded, btw10_ops, btw10_o18, btw10_o10, tget z17 (by decide) t49]) (exec_move rfl t56) (fun a18 e18 => ?_)
  rw [← e18] at h
  have z18 := pz e18 z17
  replace t6 := pk e18 t6
  replace t49 := pk e18 t49
  clear t56
  have t57 := pq e18 z17
  clear e18 z17
  refine qn (by simp [Region.wanted, yielded, btw10_ops, btw10_o19, btw10_o18, tget z18 (by decide) t57]) (fun a19 e19 => ?_)
  rw [← e19] at h
  have z19 := pz e19 z18
  replace t49 := pk e19 t49
  replace t57 := pk e19 t57
  clear t6
  have t58 := pq e19 z18
  clear e19 z18
  refine qn (by simp [Region.wanted, yielded, btw10_ops, btw10_o20, btw10_o18, tget z19 (by decide) t57]) (fun a20 e20 => ?_)
  rw [← e20] at h
  have z20 := pz e20 z19
  replace t49 := pk e20 t49
  replace t57 := pk e20 t57
  clear t58
  have t59 := pq e20 z19
  clear e20 z19
  refine qv (v := .bool false) (by simp [Region.wanted, yielded, btw10_ops, btw10_o21, btw10_o10, tget z20 (by decide) t49]) (by unfold btw10_o21; go_simp) (fun a21 e21 => ?_)
  rw [← e21] at h
  have z21 := pz e21 z20
  replace t49 := pk e21 t49
  clear t57 t59
  have t60 := pq e21 z20
  clear e21 z20
  refine qv (v := .bool false) (by rfl) (by unfold btw10_o22; go_simp) (fun a22 e22 => ?_)
  rw [← e22] at h
  have z22 := pz e22 z21
  clear t49 t60
  clear e22 z21
  exact wpList_nil (h _ _ (HF) rfl)
def btw13_o0 : Oper := { dst := some 64, op := Op.move (Operand.tmp 7), type := 47, pos := "law.go:186", after := #[], guard := none }
def btw13_o1 : Oper := { dst := some 65, op := Op.call { callee := Callee.builtin Builtin.len, args := #[Operand.tmp 64], argTypes := #[47] }, type := 3, pos := "law.go:186", after := #[{ on := 0, ground := Ground.data }], guard := none }
def btw13_o2 : Oper := { dst := some 66, op := Op.move (Operand.tmp 5), type := 47, pos := "law.go:186", after := #[], guard := none }
def btw13_o3 : Oper := { dst := some 67, op := Op.call { callee := Callee.builtin Builtin.len, args := #[Operand.tmp 66], argTypes := #[47] }, type := 3, pos := "law.go:186", after := #[{ on := 2, ground := Ground.data }], guard := none }
def btw13_o4 : Oper := { dst := some 68, op := Op.binOp BinOp.add 3 (Operand.tmp 67) (Operand.const (Value.int IntKind.i64 1)) 3, type := 3, pos := "law.go:186", after := #[{ on := 3, ground := Ground.data }], guard := none }
def btw13_o5 : Oper := { dst := some 69, op := Op.binOp BinOp.neq 3 (Operand.tmp 65) (Operand.tmp 68) 3, type := 4, pos := "law.go:186", after := #[{ on := 1, ground := Ground.data }, { on := 4, ground := Ground.data }], guard := none }
def btw13_o6 : Oper := { dst := some 70, op := Op.move (Operand.tmp 69), type := 4, pos := "law.go:186", after := #[{ on := 5, ground := Ground.data }], guard := none }
def btw13_o7 : Oper := { dst := some 71, op := Op.move (Operand.tmp 7), type := 47, pos := "law.go:186", after := #[{ on := 6, ground := Ground.guard }], guard := some (6, false) }
def btw13_o8 : Oper := { dst := some 72, op := Op.move (Operand.tmp 6), type := 3, pos := "law.go:186", after := #[{ on := 6, ground := Ground.guard }], guard := some (6, false) }
def btw13_o9 : Oper := { dst := some 73, op := Op.slice 47 (Operand.tmp 71) none (some (Operand.tmp 72)) none, type := 47, pos := "law.go:186", after := #[{ on := 7, ground := Ground.data }, { on := 8, ground := Ground.data }, { on := 6, ground := Ground.guard }], guard := some (6, false) }
def btw13_o10 : Oper := { dst := some 74, op := Op.move (Operand.tmp 5), type := 47, pos := "law.go:186", after := #[{ on := 6, ground := Ground.guard }], guard := some (6, false) }
def btw13_o11 : Oper := { dst := some 75, op := Op.move (Operand.tmp 6), type := 3, pos := "law.go:186", after := #[{ on := 6, ground := Ground.guard }], guard := some (6, false) }
def btw13_o12 : Oper := { dst := some 76, op := Op.slice 47 (Operand.tmp 74) none (some (Operand.tmp 75)) none, type := 47, pos := "law.go:186", after := #[{ on := 10, ground := Ground.data }, { on := 11, ground := Ground.data }, { on := 6, ground := Ground.guard }], guard := some (6, false) }
def btw13_o13 : Oper := { dst := some 77, op := Op.call { callee := Callee.value (Operand.func 26), args := #[Operand.tmp 73, Operand.tmp 76], argTypes := #[47, 47] }, type := 4, pos := "law.go:186", after := #[{ on := 9, ground := Ground.data }, { on := 12, ground := Ground.data }, { on := 6, ground := Ground.chain }, { on := 6, ground := Ground.guard }], guard := some (6, false) }
def btw13_o14 : Oper := { dst := some 78, op := Op.unOp UnOp.not 4 (Operand.tmp 77), type := 4, pos := "law.go:186", after := #[{ on := 13, ground := Ground.data }, { on := 6, ground := Ground.guard }], guard := some (6, false) }
def btw13_o15 : Oper := { dst := some 79, op := Op.pick (Operand.tmp 70) (Operand.const (Value.bool true)) (Operand.tmp 78), type := 4, pos := "law.go:186", after := #[{ on := 6, ground := Ground.data }, { on := 14, ground := Ground.data }], guard := none }
def btw13_o16 : Oper := { dst := some 80, op := Op.move (Operand.tmp 79), type := 4, pos := "law.go:186", after := #[{ on := 15, ground := Ground.data }, { on := 13, ground := Ground.chain }], guard := none }
def btw13_o17 : Oper := { dst := some 81, op := Op.move (Operand.tmp 7), type := 47, pos := "law.go:186", after := #[{ on := 16, ground := Ground.guard }], guard := some (16, false) }
def btw13_o18 : Oper := { dst := some 82, op := Op.move (Operand.tmp 6), type := 3, pos := "law.go:186", after := #[{ on := 16, ground := Ground.guard }], guard := some (16, false) }
def btw13_o19 : Oper := { dst := some 83, op := Op.binOp BinOp.add 3 (Operand.tmp 82) (Operand.const (Value.int IntKind.i64 1)) 3, type := 3, pos := "law.go:186", after := #[{ on := 18, ground := Ground.data }, { on := 16, ground := Ground.guard }], guard := some (16, false) }
def btw13_o20 : Oper := { dst := some 84, op := Op.slice 47 (Operand.tmp 81) (some (Operand.tmp 83)) none none, type := 47, pos := "law.go:186", after := #[{ on := 17, ground := Ground.data }, { on := 19, ground := Ground.data }, { on := 16, ground := Ground.guard }], guard := some (16, false) }
def btw13_o21 : Oper := { dst := some 85, op := Op.move (Operand.tmp 5), type := 47, pos := "law.go:186", after := #[{ on := 16, ground := Ground.guard }], guard := some (16, false) }
def btw13_o22 : Oper := { dst := some 86, op := Op.move (Operand.tmp 6), type := 3, pos := "law.go:186", after := #[{ on := 16, ground := Ground.guard }], guard := some (16, false) }
def btw13_o23 : Oper := { dst := some 87, op := Op.slice 47 (Operand.tmp 85) (some (Operand.tmp 86)) none none, type := 47, pos := "law.go:186", after := #[{ on := 21, ground := Ground.data }, { on := 22, ground := Ground.data }, { on := 16, ground := Ground.guard }], guard := some (16, false) }
def btw13_o24 : Oper := { dst := some 88, op := Op.call { callee := Callee.value (Operand.func 26), args := #[Operand.tmp 84, Operand.tmp 87], argTypes := #[47, 47] }, type := 4, pos := "law.go:186", after := #[{ on := 20, ground := Ground.data }, { on := 23, ground := Ground.data }, { on := 16, ground := Ground.chain }, { on := 16, ground := Ground.guard }], guard := some (16, false) }
def btw13_o25 : Oper := { dst := some 89, op := Op.unOp UnOp.not 4 (Operand.tmp 88), type := 4, pos := "law.go:186", after := #[{ on := 24, ground := Ground.data }, { on := 16, ground := Ground.guard }], guard := some (16, false) }
def btw13_o26 : Oper := { dst := some 90, op := Op.pick (Operand.tmp 80) (Operand.const (Value.bool true)) (Operand.tmp 89), type := 4, pos := "law.go:186", after := #[{ on := 16, ground := Ground.data }, { on := 25, ground := Ground.data }], guard := none }
def btw13_ops : Array Oper := #[btw13_o0, btw13_o1, btw13_o2, btw13_o3, btw13_o4, btw13_o5, btw13_o6, btw13_o7, btw13_o8, btw13_o9, btw13_o10, btw13_o11, btw13_o12, btw13_o13, btw13_o14, btw13_o15, btw13_o16, btw13_o17, btw13_o18, btw13_o19, btw13_o20, btw13_o21, btw13_o22, btw13_o23, btw13_o24, btw13_o25, btw13_o26]
set_option maxRecDepth 100000 in
set_option maxHeartbeats 4000000 in
theorem btw13 {m n : Nat} {wa na : Option Addr} {wc nc : Nat} {u1 u2 u3 u4 : Value} (Fin : World → Prop) (a : Act) (w : World) (Q : Exit → Act → World → Prop) (hsz : a.tmps.size = 96)
    (t5 : a.tmps.getD 5 undef = .slice wa m wc)
    (t6 : a.tmps.getD 6 undef = .int .i64 (n : Int))
    (t7 : a.tmps.getD 7 undef = .slice na (m + 1) nc)
    (hm1 : m + 1 ≤ 9223372036854775807) (hn1 : n + 1 ≤ 9223372036854775807) (E1 : ∀ W, (Instr.sliceAt 47 (.slice na (m + 1) nc) none (some (.int .i64 (n : Int))) none).run Try.prog W = .ok u1 W) (E2 : ∀ W, (Instr.sliceAt 47 (.slice wa m wc) none (some (.int .i64 (n : Int))) none).run Try.prog W = .ok u2 W) (E3 : ∀ W, (Instr.sliceAt 47 (.slice na (m + 1) nc) (some (.int .i64 ((n + 1 : Nat) : Int))) none none).run Try.prog W = .ok u3 W) (E4 : ∀ W, (Instr.sliceAt 47 (.slice wa m wc) (some (.int .i64 (n : Int))) none none).run Try.prog W = .ok u4 W) (CS : Calls Try.prog 26 #[u1, u2] w.drew fun e w' => e = .returned (.bool true) ∧ Calls Try.prog 26 #[u3, u4] w' fun e2 w2 => e2 = .returned (.bool true) ∧ Fin w2)
    (h : ∀ (a' : Act) (w' : World), Fin w' → a' = (((((((((((((((((((((((((((a).put (some 64) (.slice na (m + 1) nc)).put (some 65) (.int .i64 ((m + 1 : Nat) : Int))).put (some 66) (.slice wa m wc)).put (some 67) (.int .i64 (m : Int))).put (some 68) (.int .i64 ((m + 1 : Nat) : Int))).put (some 69) (.bool false)).put (some 70) (.bool false)).put (some 71) (.slice na (m + 1) nc)).put (some 72) (.int .i64 (n : Int))).put (some 73) (u1)).put (some 74) (.slice wa m wc)).put (some 75) (.int .i64 (n : Int))).put (some 76) (u2)).put (some 77) (.bool true)).put (some 78) (.bool false)).put (some 79) (.bool false)).put (some 80) (.bool false)).put (some 81) (.slice na (m + 1) nc)).put (some 82) (.int .i64 (n : Int))).put (some 83) (.int .i64 ((n + 1 : Nat) : Int))).put (some 84) (u3)).put (some 85) (.slice wa m wc)).put (some 86) (.int .i64 (n : Int))).put (some 87) (u4)).put (some 88) (.bool true)).put (some 89) (.bool false)).put (some 90) (.bool false) → Q .normal a' w') :
    (Code.region 13 btw13_ops true).wp Try.prog Q a w := by
  refine wp_region_noPanic ?_
  refine wp_region_held_drew (S := fun w' => True) (by kernel_rfl) (trivial) (fun hHeld => ?_)
  refine wpAnyH_take (i := 0) (oi := btw13_o0) (v := .slice na (m + 1) nc) rfl (by kernel_rfl) (by kernel_rfl) (by kernel_rfl) (fun _ _ _ h => h) (Or.inl ⟨by rfl, fun w1 hw => exec_move rfl t7⟩) hHeld ?_
  change wpAnyH _ _ _ _ _ _ _ (a.put (some 64) (.slice na (m + 1) nc)) _
  obtain ⟨a0, e0⟩ : ∃ act, act = a.put (some 64) (.slice na (m + 1) nc) := ⟨_, rfl⟩
  rw [← e0] at h ⊢
  have z0 := pz e0 hsz
  replace t5 := pk e0 t5
  replace t6 := pk e0 t6
  replace t7 := pk e0 t7
  have t64 := pq e0 hsz
  clear e0 hsz
  refine wpAnyH_take (i := 1) (oi := btw13_o1) (v := .int .i64 ((m + 1 : Nat) : Int)) rfl (by kernel_rfl) (by kernel_rfl) (by kernel_rfl) (fun _ _ _ h => h) (Or.inl ⟨by rfl, fun w1 hw => exec_len rfl t64 (len_ids _ _ _ _ _)⟩) hHeld ?_
  change wpAnyH _ _ _ _ _ _ _ (a0.put (some 65) (.int .i64 ((m + 1 : Nat) : Int))) _
  obtain ⟨a1, e1⟩ : ∃ act, act = a0.put (some 65) (.int .i64 ((m + 1 : Nat) : Int)) := ⟨_, rfl⟩
  rw [← e1] at h ⊢
  have z1 := pz e1 z0
  replace t5 := pk e1 t5
  replace t6 := pk e1 t6
  replace t7 := pk e1 t7
  clear t64
  have t65 := pq e1 z0
  clear e1 z0
  refine wpAnyH_take (i := 2) (oi := btw13_o2) (v := .slice wa m wc) rfl (by kernel_rfl) (by kernel_rfl) (by kernel_rfl) (fun _ _ _ h => h) (Or.inl ⟨by rfl, fun w1 hw => exec_move rfl t5⟩) hHeld ?_
  change wpAnyH _ _ _ _ _ _ _ (a1.put (some 66) (.slice wa m wc)) _
  obtain ⟨a2, e2⟩ : ∃ act, act = a1.put (some 66) (.slice wa m wc) := ⟨_, rfl⟩
  rw [← e2] at h ⊢
  have z2 := pz e2 z1
  replace t5 := pk e2 t5
  replace t6 := pk e2 t6
  replace t7 := pk e2 t7
  replace t65 := pk e2 t65
  have t66 := pq e2 z1
  clear e2 z1
  refine wpAnyH_take (i := 3) (oi := btw13_o3) (v := .int .i64 (m : Int)) rfl (by kernel_rfl) (by kernel_rfl) (by kernel_rfl) (fun _ _ _ h => h) (Or.inl ⟨by rfl, fun w1 hw => exec_len rfl t66 (len_ids _ _ _ _ _)⟩) hHeld ?_
  change wpAnyH _ _ _ _ _ _ _ (a2.put (some 67) (.int .i64 (m : Int))) _
  obtain ⟨a3, e3⟩ : ∃ act, act = a2.put (some 67) (.int .i64 (m : Int)) := ⟨_, rfl⟩
  rw [← e3] at h ⊢
  have z3 := pz e3 z2
  replace t5 := pk e3 t5
  replace t6 := pk e3 t6
  replace t7 := pk e3 t7
  replace t65 := pk e3 t65
  clear t66
  have t67 := pq e3 z2
  clear e3 z2
  refine wpAnyH_take (i := 4) (oi := btw13_o4) (v := .int .i64 ((m + 1 : Nat) : Int)) rfl (by kernel_rfl) (by kernel_rfl) (by kernel_rfl) (fun _ _ _ h => h) (Or.inl ⟨by rfl, fun w1 hw => ex_addN rfl t67 rfl hm1⟩) hHeld ?_
  change wpAnyH _ _ _ _ _ _ _ (a3.put (some 68) (.int .i64 ((m + 1 : Nat) : Int))) _
  obtain ⟨a4, e4⟩ : ∃ act, act = a3.put (some 68) (.int .i64 ((m + 1 : Nat) : Int)) := ⟨_, rfl⟩
  rw [← e4] at h ⊢
  have z4 := pz e4 z3
  replace t5 := pk e4 t5
  replace t6 := pk e4 t6
  replace t7 := pk e4 t7
  replace t65 := pk e4 t65
  clear t67
  have t68 := pq e4 z3
  clear e4 z3
  refine wpAnyH_take (i := 5) (oi := btw13_o5) (v := .bool false) rfl (by kernel_rfl) (by kernel_rfl) (by kernel_rfl) (fun _ _ _ h => h) (Or.inl ⟨by rfl, fun w1 hw => ex_neq rfl t65 t68 (by simp)⟩) hHeld ?_
  change wpAnyH _ _ _ _ _ _ _ (a4.put (some 69) (.bool false)) _
  obtain ⟨a5, e5⟩ : ∃ act, act = a4.put (some 69) (.bool false) := ⟨_, rfl⟩
  rw [← e5] at h ⊢
  have z5 := pz e5 z4
  replace t5 := pk e5 t5
  replace t6 := pk e5 t6
  replace t7 := pk e5 t7
  clear t65 t68
  have t69 := pq e5 z4
  clear e5 z4
  refine wpAnyH_take (i := 6) (oi := btw13_o6) (v := .bool false) rfl (by kernel_rfl) (by kernel_rfl) (by kernel_rfl) (fun _ _ _ h => h) (Or.inl ⟨by rfl, fun w1 hw => exec_move rfl t69⟩) hHeld ?_
  change wpAnyH _ _ _ _ _ _ _ (a5.put (some 70) (.bool false)) _
  obtain ⟨a6, e6⟩ : ∃ act, act = a5.put (some 70) (.bool false) := ⟨_, rfl⟩
  rw [← e6] at h ⊢
  have z6 := pz e6 z5
  replace t5 := pk e6 t5
  replace t6 := pk e6 t6
  replace t7 := pk e6 t7
  clear t69
  have t70 := pq e6 z5
  clear e6 z5
  refine wpAnyH_take (i := 7) (oi := btw13_o7) (v := .slice na (m + 1) nc) rfl (by kernel_rfl) (by kernel_rfl) (by kernel_rfl) (fun _ _ _ h => h) (Or.inl ⟨by simp [Region.wanted, yielded, btw13_ops, btw13_o7, btw13_o6, tget z6 (by decide) t70], fun w1 hw => exec_move rfl t7⟩) hHeld ?_
  change wpAnyH _ _ _ _ _ _ _ (a6.put (some 71) (.slice na (m + 1) nc)) _
  obtain ⟨a7, e7⟩ : ∃ act, act = a6.put (some 71) (.slice na (m + 1) nc) := ⟨_, rfl⟩
  rw [← e7] at h ⊢
  have z7 := pz e7 z6
  replace t5 := pk e7 t5
  replace t6 := pk e7 t6
  replace t7 := pk e7 t7
  replace t70 := pk e7 t70
  have t71 := pq e7 z6
  clear e7 z6
  refine wpAnyH_take (i := 8) (oi := btw13_o8) (v := .int .i64 (n : Int)) rfl (by kernel_rfl) (by kernel_rfl) (by kernel_rfl) (fun _ _ _ h => h) (Or.inl ⟨by simp [Region.wanted, yielded, btw13_ops, btw13_o8, btw13_o6, tget z7 (by decide) t70], fun w1 hw => exec_move rfl t6⟩) hHeld ?_
  change wpAnyH _ _ _ _ _ _ _ (a7.put (some 72) (.int .i64 (n : Int))) _
  obtain ⟨a8, e8⟩ : ∃ act, act = a7.put (some 72) (.int .i64 (n : Int)) := ⟨_, rfl⟩
  rw [← e8] at h ⊢
  have z8 := pz e8 z7
  replace t5 := pk e8 t5
  replace t6 := pk e8 t6
  replace t7 := pk e8 t7
  replace t70 := pk e8 t70
  replace t71 := pk e8 t71
  have t72 := pq e8 z7
  clear e8 z7
  refine wpAnyH_take (i := 9) (oi := btw13_o9) (v := u1) rfl (by kernel_rfl) (by kernel_rfl) (by kernel_rfl) (fun _ _ _ h => h) (Or.inl ⟨by simp [Region.wanted, yielded, btw13_ops, btw13_o9, btw13_o6, tget z8 (by decide) t70], fun w1 hw => exec_slice rfl t71 rfl (congrArg some t72) rfl (E1 _)⟩) hHeld ?_
  change wpAnyH _ _ _ _ _ _ _ (a8.put (some 73) (u1)) _
  obtain ⟨a9, e9⟩ : ∃ act, act = a8.put (some 73) (u1) := ⟨_, rfl⟩
  rw [← e9] at h ⊢
  have z9 := pz e9 z8
  replace t5 := pk e9 t5
  replace t6 := pk e9 t6
  replace t7 := pk e9 t7
  replace t70 := pk e9 t70
  clear t71 t72
  have t73 := pq e9 z8
  clear e9 z8
  refine wpAnyH_take (i := 10) (oi := btw13_o10) (v := .slice wa m wc) rfl (by kernel_rfl) (by kernel_rfl) (by kernel_rfl) (fun _ _ _ h => h) (Or.inl ⟨by simp [Region.wanted, yielded, btw13_ops, btw13_o10, btw13_o6, tget z9 (by decide) t70], fun w1 hw => exec_move rfl t5⟩) hHeld ?_
  change wpAnyH _ _ _ _ _ _ _ (a9.put (some 74) (.slice wa m wc)) _
  obtain ⟨a10, e10⟩ : ∃ act, act = a9.put (some 74) (.slice wa m wc) := ⟨_, rfl⟩
  rw [← e10] at h ⊢
  have z10 := pz e10 z9
  replace t5 := pk e10 t5
  replace t6 := pk e10 t6
  replace t7 := pk e10 t7
  replace t70 := pk e10 t70
  replace t73 := pk e10 t73
  have t74 := pq e10 z9
  clear e10 z9
  refine wpAnyH_take (i := 11) (oi := btw13_o11) (v := .int .i64 (n : Int)) rfl (by kernel_rfl) (by kernel_rfl) (by kernel_rfl) (fun _ _ _ h => h) (Or.inl ⟨by simp [Region.wanted, yielded, btw13_ops, btw13_o11, btw13_o6, tget z10 (by decide) t70], fun w1 hw => exec_move rfl t6⟩) hHeld ?_
  change wpAnyH _ _ _ _ _ _ _ (a10.put (some 75) (.int .i64 (n : Int))) _
  obtain ⟨a11, e11⟩ : ∃ act, act = a10.put (some 75) (.int .i64 (n : Int)) := ⟨_, rfl⟩
  rw [← e11] at h ⊢
  have z11 := pz e11 z10
  replace t5 := pk e11 t5
  replace t6 := pk e11 t6
  replace t7 := pk e11 t7
  replace t70 := pk e11 t70
  replace t73 := pk e11 t73
  replace t74 := pk e11 t74
  have t75 := pq e11 z10
  clear e11 z10
  refine wpAnyH_take (i := 12) (oi := btw13_o12) (v := u2) rfl (by kernel_rfl) (by kernel_rfl) (by kernel_rfl) (fun _ _ _ h => h) (Or.inl ⟨by simp [Region.wanted, yielded, btw13_ops, btw13_o12, btw13_o6, tget z11 (by decide) t70], fun w1 hw => exec_slice rfl t74 rfl (congrArg some t75) rfl (E2 _)⟩) hHeld ?_
  change wpAnyH _ _ _ _ _ _ _ (a11.put (some 76) (u2)) _
  obtain ⟨a12, e12⟩ : ∃ act, act = a11.put (some 76) (u2) := ⟨_, rfl⟩
  rw [← e12] at h ⊢
  have z12 := pz e12 z11
  replace t5 := pk e12 t5
  replace t6 := pk e12 t6
  replace t7 := pk e12 t7
  replace t70 := pk e12 t70
  replace t73 := pk e12 t73
  clear t74 t75
  have t76 := pq e12 z11
  clear e12 z11
  refine wpAnyH_ready (rs := [13]) (by kernel_rfl) (by simp) ?_
  refine AllReadyH.cons (o := btw13_o13) rfl (fun K hK => ?_) AllReadyH.nil
  rw [if_pos (by simp [Region.wanted, yielded, btw13_ops, btw13_o13, btw13_o6, tget z12 (by decide) t70])]
  unfold btw13_o13 at hK ⊢
  go_simp
  refine (CS).mono ?_
  rintro e x13 ⟨rfl, CS2⟩
  try go_wp2_with fail
  refine hK.out _ _ (trivial) (fun hHeld => ?_)
  clear hK K
  change wpAnyH _ _ _ _ _ _ _ (a12.put (some 77) (.bool true)) _
  obtain ⟨a13, e13⟩ : ∃ act, act = a12.put (some 77) (.bool true) := ⟨_, rfl⟩
  rw [← e13] at h ⊢
  have z13 := pz e13 z12
  replace t5 := pk e13 t5
  replace t6 := pk e13 t6
  replace t7 := pk e13 t7
  replace t70 := pk e13 t70
  clear t73 t76
  have t77 := pq e13 z12
  clear e13 z12
  refine wpAnyH_take (i := 14) (oi := btw13_o14) (v := .bool false) rfl (by kernel_rfl) (by kernel_rfl) (by kernel_rfl) (fun _ _ _ h => h) (Or.inl ⟨by simp [Region.wanted, yielded, btw13_ops, btw13_o14, btw13_o6, tget z13 (by decide) t70], fun w1 hw => by unfold btw13_o14; go_simp⟩) hHeld ?_
  change wpAnyH _ _ _ _ _ _ _ (a13.put (some 78) (.bool false)) _
  obtain ⟨a14, e14⟩ : ∃ act, act = a13.put (some 78) (.bool false) := ⟨_, rfl⟩
  rw [← e14] at h ⊢
  have z14 := pz e14 z13
  replace t5 := pk e14 t5
  replace t6 := pk e14 t6
  replace t7 := pk e14 t7
  replace t70 := pk e14 t70
  clear t77
  have t78 := pq e14 z13
  clear e14 z13
  refine wpAnyH_take (i := 15) (oi := btw13_o15) (v := .bool false) rfl (by kernel_rfl) (by kernel_rfl) (by kernel_rfl) (fun _ _ _ h => h) (Or.inl ⟨by rfl, fun w1 hw => by unfold btw13_o15; go_simp⟩) hHeld ?_
  change wpAnyH _ _ _ _ _ _ _ (a14.put (some 79) (.bool false)) _
  obtain ⟨a15, e15⟩ : ∃ act, act = a14.put (some 79) (.bool false) := ⟨_, rfl⟩
  rw [← e15] at h ⊢
  have z15 := pz e15 z14
  replace t5 := pk e15 t5
  replace t6 := pk e15 t6
  replace t7 := pk e15 t7
  clear t70 t78
  have t79 := pq e15 z14
  clear e15 z14
  refine wpAnyH_take (i := 16) (oi := btw13_o16) (v := .bool false) rfl (by kernel_rfl) (by kernel_rfl) (by kernel_rfl) (fun _ _ _ h => h) (Or.inl ⟨by rfl, fun w1 hw => exec_move rfl t79⟩) hHeld ?_
  change wpAnyH _ _ _ _ _ _ _ (a15.put (some 80) (.bool false)) _
  obtain ⟨a16, e16⟩ : ∃ act, act = a15.put (some 80) (.bool false) := ⟨_, rfl⟩
  rw [← e16] at h ⊢
  have z16 := pz e16 z15
  replace t5 := pk e16 t5
  replace t6 := pk e16 t6
  replace t7 := pk e16 t7
  clear t79
  have t80 := pq e16 z15
  clear e16 z15
  refine wpAnyH_take (i := 17) (oi := btw13_o17) (v := .slice na (m + 1) nc) rfl (by kernel_rfl) (by kernel_rfl) (by kernel_rfl) (fun _ _ _ h => h) (Or.inl ⟨by simp [Region.wanted, yielded, btw13_ops, btw13_o17, btw13_o16, tget z16 (by decide) t80], fun w1 hw => exec_move rfl t7⟩) hHeld ?_
  change wpAnyH _ _ _ _ _ _ _ (a16.put (some 81) (.slice na (m + 1) nc)) _
  obtain ⟨a17, e17⟩ : ∃ act, act = a16.put (some 81) (.slice na (m + 1) nc) := ⟨_, rfl⟩
  rw [← e17] at h ⊢
  have z17 := pz e17 z16
  replace t5 := pk e17 t5
  replace t6 := pk e17 t6
  replace t80 := pk e17 t80
  clear t7
  have t81 := pq e17 z16
  clear e17 z16
  refine wpAnyH_take (i := 18) (oi := btw13_o18) (v := .int .i64 (n : Int)) rfl (by kernel_rfl) (by kernel_rfl) (by kernel_rfl) (fun _ _ _ h => h) (Or.inl ⟨by simp [Region.wanted, yielded, btw13_ops, btw13_o18, btw13_o16, tget z17 (by decide) t80], fun w1 hw => exec_move rfl t6⟩) hHeld ?_
  change wpAnyH _ _ _ _ _ _ _ (a17.put (some 82) (.int .i64 (n : Int))) _
  obtain ⟨a18, e18⟩ : ∃ act, act = a17.put (some 82) (.int .i64 (n : Int)) := ⟨_, rfl⟩
  rw [← e18] at h ⊢
  have z18 := pz e18 z17
  replace t5 := pk e18 t5
  replace t6 := pk e18 t6
  replace t80 := pk e18 t80
  replace t81 := pk e18 t81
  have t82 := pq e18 z17
  clear e18 z17
  refine wpAnyH_take (i := 19) (oi := btw13_o19) (v := .int .i64 ((n + 1 : Nat) : Int)) rfl (by kernel_rfl) (by kernel_rfl) (by kernel_rfl) (fun _ _ _ h => h) (Or.inl ⟨by simp [Region.wanted, yielded, btw13_ops, btw13_o19, btw13_o16, tget z18 (by decide) t80], fun w1 hw => ex_addN rfl t82 rfl hn1⟩) hHeld ?_
  change wpAnyH _ _ _ _ _ _ _ (a18.put (some 83) (.int .i64 ((n + 1 : Nat) : Int))) _
  obtain ⟨a19, e19⟩ : ∃ act, act = a18.put (some 83) (.int .i64 ((n + 1 : Nat) : Int)) := ⟨_, rfl⟩
  rw [← e19] at h ⊢
  have z19 := pz e19 z18
  replace t5 := pk e19 t5
  replace t6 := pk e19 t6
  replace t80 := pk e19 t80
  replace t81 := pk e19 t81
  clear t82
  have t83 := pq e19 z18
  clear e19 z18
  refine wpAnyH_take (i := 20) (oi := btw13_o20) (v := u3) rfl (by kernel_rfl) (by kernel_rfl) (by kernel_rfl) (fun _ _ _ h => h) (Or.inl ⟨by simp [Region.wanted, yielded, btw13_ops, btw13_o20, btw13_o16, tget z19 (by decide) t80], fun w1 hw => exec_slice rfl t81 (congrArg some t83) rfl rfl (E3 _)⟩) hHeld ?_
  change wpAnyH _ _ _ _ _ _ _ (a19.put (some 84) (u3)) _
  obtain ⟨a20, e20⟩ : ∃ act, act = a19.put (some 84) (u3) := ⟨_, rfl⟩
  rw [← e20] at h ⊢
  have z20 := pz e20 z19
  replace t5 := pk e20 t5
  replace t6 := pk e20 t6
  replace t80 := pk e20 t80
  clear t81 t83
  have t84 := pq e20 z19
  clear e20 z19
  refine wpAnyH_take (i := 21) (oi := btw13_o21) (v := .slice wa m wc) rfl (by kernel_rfl) (by kernel_rfl) (by kernel_rfl) (fun _ _ _ h => h) (Or.inl ⟨by simp [Region.wanted, yielded, btw13_ops, btw13_o21, btw13_o16, tget z20 (by decide) t80], fun w1 hw => exec_move rfl t5⟩) hHeld ?_
  change wpAnyH _ _ _ _ _ _ _ (a20.put (some 85) (.slice wa m wc)) _
  obtain ⟨a21, e21⟩ : ∃ act, act = a20.put (some 85) (.slice wa m wc) := ⟨_, rfl⟩
  rw [← e21] at h ⊢
  have z21 := pz e21 z20
  replace t6 := pk e21 t6
  replace t80 := pk e21 t80
  replace t84 := pk e21 t84
  clear t5
  have t85 := pq e21 z20
  clear e21 z20
  refine wpAnyH_take (i := 22) (oi := btw13_o22) (v := .int .i64 (n : Int)) rfl (by kernel_rfl) (by kernel_rfl) (by kernel_rfl) (fun _ _ _ h => h) (Or.inl ⟨by simp [Region.wanted, yielded, btw13_ops, btw13_o22, btw13_o16, tget z21 (by decide) t80], fun w1 hw => exec_move rfl t6⟩) hHeld ?_
  change wpAnyH _ _ _ _ _ _ _ (a21.put (some 86) (.int .i64 (n : Int))) _
  obtain ⟨a22, e22⟩ : ∃ act, act = a21.put (some 86) (.int .i64 (n : Int)) := ⟨_, rfl⟩
  rw [← e22] at h ⊢
  have z22 := pz e22 z21
  replace t80 := pk e22 t80
  replace t84 := pk e22 t84
  replace t85 := pk e22 t85
  clear t6
  have t86 := pq e22 z21
  clear e22 z21
  refine wpAnyH_take (i := 23) (oi := btw13_o23) (v := u4) rfl (by kernel_rfl) (by kernel_rfl) (by kernel_rfl) (fun _ _ _ h => h) (Or.inl ⟨by simp [Region.wanted, yielded, btw13_ops, btw13_o23, btw13_o16, tget z22 (by decide) t80], fun w1 hw => exec_slice rfl t85 (congrArg some t86) rfl rfl (E4 _)⟩) hHeld ?_
  change wpAnyH _ _ _ _ _ _ _ (a22.put (some 87) (u4)) _
  obtain ⟨a23, e23⟩ : ∃ act, act = a22.put (some 87) (u4) := ⟨_, rfl⟩
  rw [← e23] at h ⊢
  have z23 := pz e23 z22
  replace t80 := pk e23 t80
  replace t84 := pk e23 t84
  clear t85 t86
  have t87 := pq e23 z22
  clear e23 z22
  refine wpAnyH_ready (rs := [24]) (by kernel_rfl) (by simp) ?_
  refine AllReadyH.cons (o := btw13_o24) rfl (fun K hK => ?_) AllReadyH.nil
  rw [if_pos (by simp [Region.wanted, yielded, btw13_ops, btw13_o24, btw13_o16, tget z23 (by decide) t80])]
  unfold btw13_o24 at hK ⊢
  go_simp
  refine (CS2).mono ?_
  rintro e x24 ⟨rfl, HF⟩
  try go_wp2_with fail
  refine hK.out _ _ (trivial) (fun hHeld => ?_)
  clear hK K
  change wpAnyH _ _ _ _ _ _ _ (a23.put (some 88) (.bool true)) _
  obtain ⟨a24, e24⟩ : ∃ act, act = a23.put (some 88) (.bool true) := ⟨_, rfl⟩
  rw [← e24] at h ⊢
  have z24 := pz e24 z23
  replace t80 := pk e24 t80
  clear t84 t87
  have t88 := pq e24 z23
  clear e24 z23
  refine wpAnyH_take (i := 25) (oi := btw13_o25) (v := .bool false) rfl (by kernel_rfl) (by kernel_rfl) (by kernel_rfl) (fun _ _ _ h => h) (Or.inl ⟨by simp [Region.wanted, yielded, btw13_ops, btw13_o25, btw13_o16, tget z24 (by decide) t80], fun w1 hw => by unfold btw13_o25; go_simp⟩) hHeld ?_
  change wpAnyH _ _ _ _ _ _ _ (a24.put (some 89) (.bool false)) _
  obtain ⟨a25, e25⟩ : ∃ act, act = a24.put (some 89) (.bool false) := ⟨_, rfl⟩
  rw [← e25] at h ⊢
  have z25 := pz e25 z24
  replace t80 := pk e25 t80
  clear t88
  have t89 := pq e25 z24
  clear e25 z24
  refine wpAnyH_take (i := 26) (oi := btw13_o26) (v := .bool false) rfl (by kernel_rfl) (by kernel_rfl) (by kernel_rfl) (fun _ _ _ h => h) (Or.inl ⟨by rfl, fun w1 hw => by unfold btw13_o26; go_simp⟩) hHeld ?_
  change wpAnyH _ _ _ _ _ _ _ (a25.put (some 90) (.bool false)) _
  obtain ⟨a26, e26⟩ : ∃ act, act = a25.put (some 90) (.bool false) := ⟨_, rfl⟩
  rw [← e26] at h ⊢
  have z26 := pz e26 z25
  clear t80 t89
  clear e26 z25
  exact wpAnyH_done (by kernel_rfl) (NoPanic.normal (h _ _ (HF) rfl)) _
end Go.Proofs.Ytpdepbakopdgpaa

namespace Go.Proofs.Ytpdepbakopdgpaa
open Go.RowKit Sq
set_option linter.unusedVariables false
set_option linter.unusedSimpArgs false

theorem put_split {E : List Elt} (ok : SeqOk E) {k b : IdK} (h : insC E k b = 0) : ∃ A B, E = A ++ B ∧ insR E k b = A ++ ⟨k, b, true⟩ :: B ∧ (b = zId ∧ A = [] ∨ b ≠ zId ∧ ∃ A' e, A = A' ++ [e] ∧ e.id = b ∧ ∀ y ∈ A', y.id ≠ b) := by
  obtain ⟨h1, h2, h3⟩ := insC_zero h
  unfold insR
  rw [if_pos h]
  by_cases hz : b = zId
  · exact ⟨[], E, rfl, by unfold putE; rw [if_pos hz]; rfl, .inl ⟨hz, rfl⟩⟩
  · have hb := h3.resolve_left hz
    obtain ⟨e, he, hid⟩ := hasE_iff.1 hb
    obtain ⟨A', B, rfl⟩ := List.append_of_mem he
    have hn : ∀ y ∈ A', y.id ≠ e.id := fun y hy q => by
      have nd := ok.nd
      rw [List.map_append, List.map_cons, List.nodup_append] at nd
      exact nd.2.2 y.id (List.mem_map.2 ⟨y, hy, rfl⟩) e.id (by simp) q
    refine ⟨A' ++ [e], B, by simp, ?_, .inr ⟨hz, A', e, rfl, hid, fun y hy => by rw [← hid]; exact hn y hy⟩⟩
    unfold putE
    rw [if_neg hz, ← hid, insE_mid hn]
    simp
theorem visE_all (E : List Elt) : visE E false = E := List.filter_eq_self.2 fun x _ => rfl
/-- Ranks, and the lists, behind a put. -/
theorem between_pure {E : List Elt} (ok : SeqOk E) {k b : IdK} (h : insC E k b = 0) : ∃ n : Nat, n ≤ E.length ∧ aheadE (insR E k b) false k = (n : Int) ∧ aheadE (insR E k b) false b + 1 = (n : Int) ∧ -1 ≤ aheadE (insR E k b) false b ∧ (b = zId → n = 0) ∧
    (idsE (insR E k b) false).take n = (idsE E false).take n ∧ (idsE (insR E k b) false).drop (n + 1) = (idsE E false).drop n := by
  obtain ⟨h1, h2, h3⟩ := insC_zero h
  obtain ⟨A, B, e1, e2, e3⟩ := put_split ok h
  have hA : ∀ y ∈ A, y.id ≠ k := fun y hy q => by
    have : hasE E k = true := hasE_iff.2 ⟨y, by rw [e1]; simp [hy], q⟩
    rw [h2] at this; cases this
  have hkz : k ≠ zId := fun q => by rw [q] at h1; simp [zId] at h1
  have cnt : ∀ l : List Elt, l.countP (cE false) = l.length := fun l => List.countP_eq_length.2 fun x _ => rfl
  have rk : aheadE (insR E k b) false k = (A.length : Int) := by
    unfold aheadE
    rw [e2, if_pos (hasE_iff.2 ⟨⟨k, b, true⟩, by simp, rfl⟩), takeWhile_mid (fun y hy => by simpa using hA y hy) (by simp), cnt]
  refine ⟨A.length, by rw [e1]; simp, rk, ?_⟩
  have lists : (idsE (insR E k b) false).take A.length = (idsE E false).take A.length ∧ (idsE (insR E k b) false).drop (A.length + 1) = (idsE E false).drop A.length := by
    unfold idsE
    rw [visE_all, visE_all, e2, e1]
    constructor
    · rw [List.map_append, List.map_append, List.take_append_of_le_length (by simp), List.take_append_of_le_length (by simp)]
    · rw [List.map_append, List.map_append, List.map_cons, List.drop_append, List.drop_append]
      simp
  rcases e3 with ⟨hz, hA0⟩ | ⟨hz, A', e, hA', hid, hn⟩
  · have hno : hasE (insR E k b) b = false := by
      rw [e2, hA0]
      cases q : hasE ([] ++ ⟨k, b, true⟩ :: B) b with
      | false => rfl
      | true =>
        exfalso
        obtain ⟨y, hy, hq⟩ := hasE_iff.1 q
        rw [hz] at hq
        simp only [List.nil_append, List.mem_cons] at hy
        rcases hy with rfl | hy
        · exact hkz hq
        · have := (ok.ok y (by rw [e1, hA0]; simpa using hy)).2.2
          rw [hq] at this
          simp [zId] at this
    have rb : aheadE (insR E k b) false b = -1 := by unfold aheadE; rw [hno]; rfl
    rw [rb, hA0]
    exact ⟨rfl, by omega, fun _ => rfl, by rw [hA0] at lists; exact lists.1, by rw [hA0] at lists; exact lists.2⟩
  · have rb : aheadE (insR E k b) false b = (A'.length : Int) := by
      unfold aheadE
      have hh : hasE (insR E k b) b = true := hasE_iff.2 ⟨e, by rw [e2, hA']; simp, hid⟩
      rw [if_pos hh, e2, hA', List.append_assoc, List.cons_append, List.nil_append, takeWhile_mid (fun y hy => by simpa using hn y hy) (by simpa using hid), cnt]
    rw [rb, hA']
    rw [hA'] at lists
    refine ⟨by simp, by omega, fun q => absurd q hz, lists.1, lists.2⟩
theorem szIdR (w : World) : (sizeOf 32).run Try.prog w = .ok 33 w := m_sz szId w
theorem IdsAt.take {w : World} {a : Option Addr} {L : List IdK} (h : IdsAt w a L) (n : Nat) : IdsAt w a (L.take n) := by
  rcases h with rfl | ⟨b, o, e, hl, hr⟩
  · exact .inl (by simp)
  · exact .inr ⟨b, o, e, hl, fun i x hx => hr i x (by rw [List.getElem?_take] at hx; split at hx; exact hx; cases hx)⟩
/-- The parts of a list of Ids that was handed out. -/
theorem OwnI.upto {w : World} {base : Nat} {v : Value} {L : List IdK} (h : OwnI w base v L) (ok : ∀ x ∈ L, x.ok) {n : Nat} (hn : n ≤ L.length) (hl : L.length ≤ 1400000000000) : ∃ a c, (∀ W, (Instr.sliceAt 47 v none (some (.int .i64 (n : Int))) none).run Try.prog W = .ok (.slice a n c) W) ∧ IdsAt w a (L.take n) := by
  obtain ⟨a, c, rfl, hat, hc⟩ := h.open ok
  have h1 : (0 : Int) ≤ (n : Int) ∧ (n : Int) ≤ (c : Int) := by omega
  refine ⟨a, c, fun W => ?_, hat.take n⟩
  cases a with
  | none =>
    simp only [Instr.sliceAt, Instr.slice, Instr.sliceBounds, Instr.sliceBound, run_underlying Try.underlying47, asIntOf, Sem.run_bind, Sem.run_pure, Result.andThen_ok, szIdR]
    rw [if_pos h1]
    simp only [Sem.run_bind, Sem.run_pure, Result.andThen_ok, Int.toNat_natCast]
    simp
  | some ad =>
    simp only [Instr.sliceAt, Instr.slice, Instr.sliceBounds, Instr.sliceBound, run_underlying Try.underlying47, asIntOf, Sem.run_bind, Sem.run_pure, Result.andThen_ok, szIdR]
    rw [if_pos h1]
    simp only [Sem.run_bind, Sem.run_pure, Result.andThen_ok, Int.toNat_natCast]
    obtain ⟨b, o, sp⟩ := ad
    simp [Addr.add]
theorem OwnI.from {w : World} {base : Nat} {v : Value} {L : List IdK} (h : OwnI w base v L) (ok : ∀ x ∈ L, x.ok) {n : Nat} (hn : n ≤ L.length) (hl : L.length ≤ 1400000000000) : ∃ a c, (∀ W, (Instr.sliceAt 47 v (some (.int .i64 (n : Int))) none none).run Try.prog W = .ok (.slice a (L.length - n) c) W) ∧ IdsAt w a (L.drop n) := by
  obtain ⟨a, c, rfl, hat, hc⟩ := h.open ok
  have h2 : (0 : Int) ≤ (n : Int) ∧ (n : Int) ≤ (L.length : Int) := by omega
  cases a with
  | none =>
    refine ⟨none, c - n, fun W => ?_, ?_⟩
    · simp only [Instr.sliceAt, Instr.slice, Instr.sliceBounds, Instr.sliceBound, run_underlying Try.underlying47, asIntOf, Sem.run_bind, Sem.run_pure, Result.andThen_ok, szIdR]
      rw [if_pos h2]
      simp only [Sem.run_bind, Sem.run_pure, Result.andThen_ok, Int.toNat_natCast]
      simp
    · rcases hat with q | ⟨b, o, e, _⟩
      · exact .inl (by rw [q]; simp)
      · cases e
  | some ad =>
    by_cases e : c = n
    · refine ⟨some ad, c - n, fun W => ?_, .inl (List.drop_of_length_le (by omega))⟩
      simp only [Instr.sliceAt, Instr.slice, Instr.sliceBounds, Instr.sliceBound, run_underlying Try.underlying47, asIntOf, Sem.run_bind, Sem.run_pure, Result.andThen_ok, szIdR]
      rw [if_pos h2]
      simp only [Sem.run_bind, Sem.run_pure, Result.andThen_ok, Int.toNat_natCast]
      rw [if_pos e]
    · refine ⟨some (ad.add (n * 33)), c - n, fun W => ?_, ?_⟩
      · simp only [Instr.sliceAt, Instr.slice, Instr.sliceBounds, Instr.sliceBound, run_underlying Try.underlying47, asIntOf, Sem.run_bind, Sem.run_pure, Result.andThen_ok, szIdR]
        rw [if_pos h2]
        simp only [Sem.run_bind, Sem.run_pure, Result.andThen_ok, Int.toNat_natCast]
        rw [if_neg e]
        simp
      · rcases hat with q | ⟨b, o, e2, hl2, hr⟩
        · exact .inl (by rw [q]; simp)
        · cases e2
          refine .inr ⟨b, o + n * 33, by rw [Addr.add_mid], hl2, fun i x hx => ?_⟩
          rw [List.getElem?_drop] at hx
          have := hr (n + i) x hx
          rw [show o + n * 33 + 33 * i = o + 33 * (n + i) by omega]
          exact this
end Go.Proofs.Ytpdepbakopdgpaa

namespace Go.Proofs.Ytpdepbakopdgpaa
open Go.RowKit Sq
set_option linter.unusedVariables false
set_option linter.unusedSimpArgs false

theorem laid_len_eq (l : List PutV) : (laidP l).1.length = (couldP l).length := by
  rw [(could_laid l).1, List.length_map]
  refine snoc_ind (P := fun l => (laidP l).1.length = (laidP l).2.length) rfl (fun l p ih => ?_) l
  rw [laidP_snoc]
  unfold layS
  split
  · next h =>
    unfold insR
    rw [if_pos h]
    have := (putE_perm (laidP l).1 p.bh ⟨p.id, p.bh, true⟩).length_eq
    simp at this ⊢
    omega
  · exact ih
theorem BK.bare {w W : World} {s : Sx} {E : List Elt} {Ls : List (Value × List IdK)} (h : BK w s E Ls W) : BK w s E [] W := ⟨h.sq, h.lo, h.bel, fun p hp => by cases hp⟩
theorem BK.drew {w W : World} {s : Sx} {E : List Elt} {Ls : List (Value × List IdK)} (h : BK w s E Ls W) : BK w s E Ls W.drew := h.below ((Below.refl _ _).drew)
/-- The two lists, part by part. -/
theorem BK.parts {w W : World} {s : Sx} {E : List Elt} {Ls : List (Value × List IdK)} (h : BK w s E Ls W) {u v : Value} {A B : List IdK} {n : Nat} (h1 : (u, B) ∈ Ls) (h2 : (v, A) ∈ Ls) (hn : n ≤ A.length) (hb : B.length = A.length + 1) (e1 : B.take n = A.take n) (e2 : B.drop (n + 1) = A.drop n) :
    ∃ u1 u2 u3 u4, (∀ W, (Instr.sliceAt 47 u none (some (.int .i64 (n : Int))) none).run Try.prog W = .ok u1 W) ∧ (∀ W, (Instr.sliceAt 47 v none (some (.int .i64 (n : Int))) none).run Try.prog W = .ok u2 W) ∧ (∀ W, (Instr.sliceAt 47 u (some (.int .i64 ((n + 1 : Nat) : Int))) none none).run Try.prog W = .ok u3 W) ∧ (∀ W, (Instr.sliceAt 47 v (some (.int .i64 (n : Int))) none none).run Try.prog W = .ok u4 W) ∧
    Calls Try.prog 26 #[u1, u2] W fun e w' => e = .returned (.bool true) ∧ Calls Try.prog 26 #[u3, u4] w' fun e2 w2 => e2 = .returned (.bool true) ∧ BK w s E [] w2 := by
  obtain ⟨a1, a2, a3, _⟩ := h.ls _ h1
  obtain ⟨b1, b2, b3, _⟩ := h.ls _ h2
  simp only at a1 a2 a3 b1 b2 b3
  obtain ⟨p1, q1, E1, I1⟩ := a1.upto a2 (n := n) (by omega) a3
  obtain ⟨p2, q2, E2, I2⟩ := b1.upto b2 (n := n) hn b3
  obtain ⟨p3, q3, E3, I3⟩ := a1.from a2 (n := n + 1) (by omega) a3
  obtain ⟨p4, q4, E4, I4⟩ := b1.from b2 (n := n) hn b3
  refine ⟨_, _, _, _, E1, E2, E3, E4, ?_⟩
  have l1 : (B.take n).length = n := by rw [List.length_take]; omega
  have l2 : (A.take n).length = n := by rw [List.length_take]; omega
  have l3 : (B.drop (n + 1)).length = B.length - (n + 1) := by rw [List.length_drop]
  have l4 : (A.drop n).length = A.length - n := by rw [List.length_drop]
  have s1 := same_ids p1 p2 q1 q2 (B.take n) (A.take n) W I1 I2 (fun x hx => a2 x (List.mem_of_mem_take hx)) (fun x hx => b2 x (List.mem_of_mem_take hx)) (by omega)
  rw [l1, l2, decide_eq_true e1] at s1
  refine s1.mono ?_
  rintro e w' ⟨rfl, bb⟩
  refine ⟨rfl, ?_⟩
  have s2 := same_ids p3 p4 q3 q4 (B.drop (n + 1)) (A.drop n) w' (I3.below bb) (I4.below bb) (fun x hx => a2 x (List.mem_of_mem_drop hx)) (fun x hx => b2 x (List.mem_of_mem_drop hx)) (by omega)
  rw [l3, l4, decide_eq_true e2] at s2
  refine s2.mono ?_
  rintro e w2 ⟨rfl, b2'⟩
  exact ⟨rfl, ((h.below bb).below b2').bare⟩
set_option maxRecDepth 100000 in
set_option maxHeartbeats 4000000 in
theorem between_all (a : Option Addr) (c : Nat) (l : List PutV) (w : World) (hP : PutsAt w a l) (ok : ∀ x ∈ l, x.ok) (hl : l.length ≤ 1048576) : Calls Try.prog 6 #[.slice a l.length c] w fun e w' => e = .returned (.bool true) ∧ Below w.heap.size w w' := by
  have HCO : Hid (∀ W, Below w.heap.size w W → Calls Try.prog 23 #[.slice a l.length c] W fun e w' => e = .returned (.int .i64 ((couldP l).length : Int)) ∧ Below W.heap.size W w') := fun W bW => could_any a c l W (hP.below bW) ok hl
  have HLE := hidMk (laid_len_eq l)
  obtain ⟨m, hm0⟩ : ∃ m, l.length = m := ⟨_, rfl⟩
  rw [hm0] at HCO
  have HN := hidMk hm0
  have HL := hidMk hl
  have HNW := hidMk (new_any w)
  rw [hm0]
  clear hm0 hl
  go_enter Try.func6, Try.ntmps6
  go_wp2_with (first
    | (go_at_call 9; refine HNW.out.mono ?_; rintro e w1 ⟨s0, rfl, h1, c1, b1⟩; clear HNW)
    | fail)
  have st0 : Hid (∃ s : Sx, s.sb = s0.sb ∧ BK w s (laidP (l.take 0)).1 [] w1) := ⟨s0, rfl, h1, c1, b1, fun p hp => by cases hp⟩
  generalize s0.sb = sb at *
  clear h1 c1 b1
  go_loopw [4] (fun v4 wr => ∃ (i : Nat), v4 = .int .i64 (i : Int) ∧ i ≤ m ∧ Hid (∃ s : Sx, s.sb = sb ∧ BK w s (laidP (l.take i)).1 [] wr)) (fun v4 wr => m - (match v4 with | .int _ i => i.toNat | _ => 0))
  case atStart => exact ⟨0, rfl, Nat.zero_le _, st0⟩
  case round =>
    clear st0
    obtain ⟨i, rfl, hin, hI⟩ := hrel
    have hLn := HN.out
    have hbig := HL.out
    by_cases hi : i < m
    · have hi' : i < l.length := by omega
      have hm : m ≤ 1400000000000 := by omega
      obtain ⟨pb, po, rfl, hb, hr⟩ := hP.get hi'
      have hpo := ok l[i] (List.getElem_mem hi')
      have HT := hidMk (show l.take (i + 1) = l.take i ++ [l[i]] by rw [List.take_add_one, List.getElem?_eq_getElem hi']; rfl)
      generalize l[i] = p at *
      have hln := laidP_len (l.take i)
      rw [List.length_take] at hln
      have OKE := laid_seqok (l.take i) (fun x hx => ok x (List.mem_of_mem_take hx))
      obtain ⟨st, hst⟩ : ∃ st, laidP (l.take i) = st := ⟨_, rfl⟩
      have HST := hidMk hst
      rw [hst] at hI hln OKE
      obtain ⟨s, rfl, hB⟩ := hI.out
      have HB0 := hidMk hB
      have HSL := hidMk (show st.1.length ≤ 1048576 by omega)
      clear hst hln hI hB hLn hbig
      go_upto_region 8 with (first
        | (go_at_call 24; refine HB0.out.ids.mono ?_; rintro e w3 ⟨v3, n3, c3, rfl, hn3, B3⟩; have C3 := hidMk B3; have HN3 := hidMk hn3; clear B3 HB0 hn3)
        | fail)
      have CI := insert_any (k := p.id) (b := p.bh) C3.out.drew.sq hpo.id hpo.bh (by have := HSL.out; omega)
      by_cases hc : insC st.1 p.id p.bh = 0
      · obtain ⟨n, q1, q2, q3, q4, q5, q6, q7⟩ := between_pure OKE hc
        have q8 := (back_pure OKE hc).2.2.2.1
        have HC := hidMk hc
        obtain ⟨F, hF⟩ : ∃ F, insR st.1 p.id p.bh = F := ⟨_, rfl⟩
        have HF := hidMk hF
        rw [hF] at CI q2 q3 q4 q6 q7 q8
        obtain ⟨Ls, hLs⟩ : ∃ Ls, [(Value.slice v3 n3 c3, idsE st.1 false)] = Ls := ⟨_, rfl⟩
        have HLs := hidMk hLs.symm
        have C3' : BK w s st.1 Ls w3 := by rw [← hLs]; exact C3.out
        refine btw8 (p := p) (c := (insC st.1 p.id p.bh : Int)) (r := false) (fun w' => ∃ s' : Sx, s'.sb = s.sb ∧ BK w s' F Ls w') _ _ _ rfl rfl rfl rfl hpo hi hm (rangeAt_keep hr (C3.out.drew.bel.block pb hb)) (decide_eq_false (by rw [hc]; simp)) (CI.mono fun e w' ⟨h1, s', nx⟩ => ⟨h1, rangeAt_keep hr ((C3.out.drew.nxt nx).bel.block pb hb), s', nx.sb, C3'.drew.nxt nx⟩) ?_
        rintro a' w4 ⟨s', hs', B4⟩ ha
        subst ha
        simp only [Act.put, List.setIfInBounds_toArray, List.set_cons_zero, List.set_cons_succ]
        have CR := rank_any B4.sq hpo.id
        rw [q2, hs'] at CR
        clear CI hc hF hLs C3' C3
        go_upto_region 9 with fail
        refine btw9 (p := p) (n := n) (fun w' => BK w s' F Ls w') _ _ _ rfl rfl rfl rfl hpo hi hm (rangeAt_keep hr (B4.bel.block pb hb)) (CR.mono fun e w' ⟨h1, h2⟩ => ⟨h1, B4.below h2⟩) ?_
        intro a' w5 B5 ha
        subst ha
        simp only [Act.put, List.setIfInBounds_toArray, List.set_cons_zero, List.set_cons_succ]
        have CR2 := rank_any B5.sq hpo.bh
        rw [hs'] at CR2
        clear B4 CR
        go_upto_region 10 with fail
        have hsl := HSL.out
        by_cases hz : p.bh = zId
        · skip
          refine btw10a (p := p) (n := n) (r2 := aheadE F false p.bh) (fun w' => BK w s' F Ls w') _ _ _ rfl rfl rfl rfl rfl hpo hi hm (rangeAt_keep hr (B5.bel.block pb hb)) (by omega) (decide_eq_false (by omega)) (decide_eq_true hz) (by rw [q5 hz]; rfl) (CR2.mono fun e w' ⟨h1, h2⟩ => ⟨h1, rangeAt_keep hr ((B5.below h2).bel.block pb hb), B5.below h2⟩) ?_
          intro a' w6 B6 ha
          subst ha
          simp only [Act.put, List.setIfInBounds_toArray, List.set_cons_zero, List.set_cons_succ]
          have C6 := hidMk (And.intro B6 hs')
          have HQ := hidMk (And.intro q1 (And.intro q6 (And.intro q7 q8)))
          clear B6 CR2 hr q1 q2 q3 q4 q5 q6 q7 q8 B5 hz
          go_upto_region 13 with (first
            | (go_at_call 24; refine (C6.out.1.idsAt C6.out.2).mono ?_; rintro e w7 ⟨v7, n7, c7, rfl, ⟨hn7, hb7⟩, B7⟩; have hnn : n7 = n3 + 1 := (by rw [hn7, HN3.out.1]; exact HQ.out.2.2.2); subst hnn; have C7 := hidMk B7; clear B7 C6 hn7)
            | fail)
          have hn3 : n ≤ (idsE st.1 false).length := by have := HQ.out.1; simp only [idsE, visE_all, List.length_map]; exact this
          obtain ⟨u1, u2, u3, u4, E1, E2, E3, E4, CS⟩ := C7.out.drew.parts (u := .slice v7 (n3 + 1) c7) (v := .slice v3 n3 c3) (A := idsE st.1 false) (B := idsE F false) (n := n) (by simp) (by simp [HLs.out]) hn3 HQ.out.2.2.2 HQ.out.2.1 HQ.out.2.2.1
          refine btw13 (m := n3) (n := n) (fun w' => BK w s' F [] w') _ _ _ rfl rfl rfl rfl (by omega) (by have := HQ.out.1; have := HSL.out; omega) E1 E2 E3 E4 CS ?_
          intro a' w8 B8 ha
          subst ha
          simp only [Act.put, List.setIfInBounds_toArray, List.set_cons_zero, List.set_cons_succ]
          have HI4 := hidMk (show ∃ s2 : Sx, s2.sb = s.sb ∧ BK w s2 F [] w8 from ⟨s', hs', B8⟩)
          clear B8 E1 E2 E3 E4 CS hs'
          go_wp2
          have hq : ((i : Int) + 1) = ((i + 1 : Nat) : Int) := by omega
          rw [hq]
          refine ⟨⟨i + 1, rfl, hi, ?_⟩, ?_⟩
          · rw [HT.out, laidP_snoc, HST.out]
            unfold layS
            rw [if_pos HC.out, HF.out]
            exact HI4.out
          · show m - ((i + 1 : Nat) : Int).toNat < m - (i : Int).toNat
            omega
        · skip
          refine btw10b (p := p) (n := n) (r2 := aheadE F false p.bh) (fun w' => BK w s' F Ls w') _ _ _ rfl rfl rfl rfl rfl hpo hi hm (rangeAt_keep hr (B5.bel.block pb hb)) (by omega) (decide_eq_false (by omega)) (decide_eq_false hz) (CR2.mono fun e w' ⟨h1, h2⟩ => ⟨h1, rangeAt_keep hr ((B5.below h2).bel.block pb hb), B5.below h2⟩) ?_
          intro a' w6 B6 ha
          subst ha
          simp only [Act.put, List.setIfInBounds_toArray, List.set_cons_zero, List.set_cons_succ]
          have C6 := hidMk (And.intro B6 hs')
          have HQ := hidMk (And.intro q1 (And.intro q6 (And.intro q7 q8)))
          clear B6 CR2 hr q1 q2 q3 q4 q5 q6 q7 q8 B5 hz
          go_upto_region 13 with (first
            | (go_at_call 24; refine (C6.out.1.idsAt C6.out.2).mono ?_; rintro e w7 ⟨v7, n7, c7, rfl, ⟨hn7, hb7⟩, B7⟩; have hnn : n7 = n3 + 1 := (by rw [hn7, HN3.out.1]; exact HQ.out.2.2.2); subst hnn; have C7 := hidMk B7; clear B7 C6 hn7)
            | fail)
          have hn3 : n ≤ (idsE st.1 false).length := by have := HQ.out.1; simp only [idsE, visE_all, List.length_map]; exact this
          obtain ⟨u1, u2, u3, u4, E1, E2, E3, E4, CS⟩ := C7.out.drew.parts (u := .slice v7 (n3 + 1) c7) (v := .slice v3 n3 c3) (A := idsE st.1 false) (B := idsE F false) (n := n) (by simp) (by simp [HLs.out]) hn3 HQ.out.2.2.2 HQ.out.2.1 HQ.out.2.2.1
          refine btw13 (m := n3) (n := n) (fun w' => BK w s' F [] w') _ _ _ rfl rfl rfl rfl (by omega) (by have := HQ.out.1; have := HSL.out; omega) E1 E2 E3 E4 CS ?_
          intro a' w8 B8 ha
          subst ha
          simp only [Act.put, List.setIfInBounds_toArray, List.set_cons_zero, List.set_cons_succ]
          have HI4 := hidMk (show ∃ s2 : Sx, s2.sb = s.sb ∧ BK w s2 F [] w8 from ⟨s', hs', B8⟩)
          clear B8 E1 E2 E3 E4 CS hs'
          go_wp2
          have hq : ((i : Int) + 1) = ((i + 1 : Nat) : Int) := by omega
          rw [hq]
          refine ⟨⟨i + 1, rfl, hi, ?_⟩, ?_⟩
          · rw [HT.out, laidP_snoc, HST.out]
            unfold layS
            rw [if_pos HC.out, HF.out]
            exact HI4.out
          · show m - ((i + 1 : Nat) : Int).toNat < m - (i : Int).toNat
            omega
      · have HC := hidMk hc
        have hR : insR st.1 p.id p.bh = st.1 := by unfold insR; rw [if_neg hc]
        rw [hR] at CI
        refine btw8 (p := p) (c := (insC st.1 p.id p.bh : Int)) (r := true) (fun w' => ∃ s' : Sx, s'.sb = s.sb ∧ BK w s' st.1 [] w') _ _ _ rfl rfl rfl rfl hpo hi hm (rangeAt_keep hr (C3.out.drew.bel.block pb hb)) (decide_eq_true (by omega)) (CI.mono fun e w' ⟨h1, s', nx⟩ => ⟨h1, rangeAt_keep hr ((C3.out.drew.nxt nx).bel.block pb hb), s', nx.sb, (C3.out.drew.nxt nx).bare⟩) ?_
        intro a' w2 hI2 ha
        subst ha
        simp only [Act.put, List.setIfInBounds_toArray, List.set_cons_zero, List.set_cons_succ]
        have HI4 := hidMk hI2
        clear hI2 CI hr hc hR
        go_wp2
        have hq : ((i : Int) + 1) = ((i + 1 : Nat) : Int) := by omega
        rw [hq]
        refine ⟨⟨i + 1, rfl, hi, ?_⟩, ?_⟩
        · rw [HT.out, laidP_snoc, HST.out]
          unfold layS
          rw [if_neg HC.out]
          exact HI4.out
        · show m - ((i + 1 : Nat) : Int).toNat < m - (i : Int).toNat
          omega
    · obtain rfl : i = m := by omega
      rw [List.take_of_length_le (by omega)] at hI
      obtain ⟨s, rfl, hB⟩ := hI.out
      have LE := hidMk (len_any hB.sq)
      have HB0 := hidMk hB
      have hv : (visE (laidP l).1 false).length = (couldP l).length := by rw [visE_all]; exact HLE.out
      rw [hv] at LE
      generalize (couldP l).length = cl at *
      clear hLn hbig hin hI hB hv
      go_wp2_with (first
        | (go_at_call 29; refine LE.out.mono ?_; rintro e w2 ⟨rfl, b2⟩; have C2 := hidMk (HB0.out.below b2); clear b2 HB0 LE)
        | (go_at_call 23; refine (HCO.out _ C2.out.bel).mono ?_; rintro e w3 ⟨rfl, b3⟩; have C3 := hidMk (C2.out.below b3); clear b3 C2)
        | fail)
      go_ret
      exact ⟨by simp, C3.out.bel⟩
end Go.Proofs.Ytpdepbakopdgpaa

