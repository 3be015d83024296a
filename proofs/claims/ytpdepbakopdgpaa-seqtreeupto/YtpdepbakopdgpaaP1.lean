import Derived.Test.YtpdepbakopdgpaaP0
namespace Go.Proofs.Ytpdepbakopdgpaa
open Go.RowKit Sq
set_option linter.unusedVariables false
set_option linter.unusedSimpArgs false

theorem ex_neq36 {w : World} {a : Act} {o : Oper} {x y : Operand} {p q : Int} {r : Bool} (ho : o.op = .binOp .neq 36 x y 36) (hx : a.eval x = .int .i64 p) (hy : a.eval y = .int .i64 q) (h : decide (p ≠ q) = r) : (execOp a.eval o).run Try.prog w = .ok (.value (.bool r)) w := by
  refine exec_binOp ho hx hy ?_ ?_
  · kernel_rfl
  · subst h
    go_simp
    first | rfl | (congr 2; rw [Bool.eq_iff_iff]; simp)
def btw8_o0 : Oper := { dst := some 19, op := Op.move (Operand.tmp 3), type := 23, pos := "law.go:178", after := #[], guard := none }
def btw8_o1 : Oper := { dst := some 20, op := Op.move (Operand.tmp 0), type := 43, pos := "law.go:178", after := #[], guard := none }
def btw8_o2 : Oper := { dst := some 21, op := Op.move (Operand.tmp 4), type := 3, pos := "law.go:178", after := #[], guard := none }
def btw8_o3 : Oper := { dst := some 22, op := Op.indexAddr 43 (Operand.tmp 20) (Operand.tmp 21), type := 0, pos := "law.go:178", after := #[{ on := 1, ground := Ground.data }, { on := 2, ground := Ground.data }], guard := none }
def btw8_o4 : Oper := { dst := some 23, op := Op.fieldAddr 55 (Operand.tmp 22) 0, type := 0, pos := "law.go:178", after := #[{ on := 3, ground := Ground.data }], guard := none }
def btw8_o5 : Oper := { dst := some 24, op := Op.load 32 (Operand.tmp 23), type := 32, pos := "law.go:178", after := #[{ on := 4, ground := Ground.data }], guard := none }
def btw8_o6 : Oper := { dst := some 25, op := Op.move (Operand.tmp 0), type := 43, pos := "law.go:178", after := #[], guard := none }
def btw8_o7 : Oper := { dst := some 26, op := Op.move (Operand.tmp 4), type := 3, pos := "law.go:178", after := #[], guard := none }
def btw8_o8 : Oper := { dst := some 27, op := Op.indexAddr 43 (Operand.tmp 25) (Operand.tmp 26), type := 0, pos := "law.go:178", after := #[{ on := 6, ground := Ground.data }, { on := 7, ground := Ground.data }], guard := none }
def btw8_o9 : Oper := { dst := some 28, op := Op.fieldAddr 55 (Operand.tmp 27) 1, type := 0, pos := "law.go:178", after := #[{ on := 8, ground := Ground.data }], guard := none }
def btw8_o10 : Oper := { dst := some 29, op := Op.load 32 (Operand.tmp 28), type := 32, pos := "law.go:178", after := #[{ on := 9, ground := Ground.data }], guard := none }
def btw8_o11 : Oper := { dst := some 30, op := Op.call { callee := Callee.value (Operand.func 12), args := #[Operand.tmp 19, Operand.tmp 24, Operand.tmp 29], argTypes := #[23, 32, 32] }, type := 36, pos := "law.go:178", after := #[{ on := 0, ground := Ground.data }, { on := 5, ground := Ground.data }, { on := 10, ground := Ground.data }], guard := none }
def btw8_o12 : Oper := { dst := some 31, op := Op.binOp BinOp.neq 36 (Operand.tmp 30) (Operand.const (Value.int IntKind.i64 0)) 36, type := 4, pos := "law.go:178", after := #[{ on := 11, ground := Ground.data }], guard := none }
def btw8_ops : Array Oper := #[btw8_o0, btw8_o1, btw8_o2, btw8_o3, btw8_o4, btw8_o5, btw8_o6, btw8_o7, btw8_o8, btw8_o9, btw8_o10, btw8_o11, btw8_o12]
set_option maxRecDepth 100000 in
set_option maxHeartbeats 4000000 in
theorem btw8 {pb po m pc i : Nat} {p : PutV} {sb : Nat} {c : Int} {r : Bool} (Fin : World → Prop) (a : Act) (w : World) (Q : Exit → Act → World → Prop) (hsz : a.tmps.size = 96)
    (t0 : a.tmps.getD 0 undef = .slice (some ⟨pb, po, none⟩) m pc)
    (t3 : a.tmps.getD 3 undef = .pointer (some ⟨sb, 0, none⟩))
    (t4 : a.tmps.getD 4 undef = .int .i64 (i : Int))
    (hp : p.ok) (hi : i < m) (hm : m ≤ 1400000000000) (h0 : w.drew.rangeAt pb (po + 66 * i) p.c) (hr : decide (c ≠ 0) = r) (CI : Calls Try.prog 12 #[.pointer (some ⟨sb, 0, none⟩), p.id.v, p.bh.v] w.drew fun e w' => e = .returned (.int .i64 c) ∧ w'.rangeAt pb (po + 66 * i) p.c ∧ Fin w')
    (h : ∀ (a' : Act) (w' : World), Fin w' → a' = (((((((((((((a).put (some 19) (.pointer (some ⟨sb, 0, none⟩))).put (some 20) (.slice (some ⟨pb, po, none⟩) m pc)).put (some 21) (.int .i64 (i : Int))).put (some 22) (.pointer (some ⟨pb, po + 66 * i, none⟩))).put (some 23) (.pointer (some ⟨pb, po + 66 * i + 0, none⟩))).put (some 24) (p.id.v)).put (some 25) (.slice (some ⟨pb, po, none⟩) m pc)).put (some 26) (.int .i64 (i : Int))).put (some 27) (.pointer (some ⟨pb, po + 66 * i, none⟩))).put (some 28) (.pointer (some ⟨pb, po + 66 * i + 33, none⟩))).put (some 29) (p.bh.v)).put (some 30) (.int .i64 c)).put (some 31) (.bool r) → Q .normal a' w') :
    (Code.region 8 btw8_ops true).wp Try.prog Q a w := by
  refine wp_region_noPanic ?_
  refine wp_region_held_drew (S := fun w' => w'.rangeAt pb (po + 66 * i) p.c) (by kernel_rfl) (h0) (fun hHeld => ?_)
  refine wpAnyH_take (i := 0) (oi := btw8_o0) (v := .pointer (some ⟨sb, 0, none⟩)) rfl (by kernel_rfl) (by kernel_rfl) (by kernel_rfl) (fun _ _ _ h => h) (Or.inl ⟨by rfl, fun w1 hw => exec_move rfl t3⟩) hHeld ?_
  change wpAnyH _ _ _ _ _ _ _ (a.put (some 19) (.pointer (some ⟨sb, 0, none⟩))) _
  obtain ⟨a0, e0⟩ : ∃ act, act = a.put (some 19) (.pointer (some ⟨sb, 0, none⟩)) := ⟨_, rfl⟩
  rw [← e0] at h ⊢
  have z0 := pz e0 hsz
  replace t0 := pk e0 t0
  replace t4 := pk e0 t4
  clear t3
  have t19 := pq e0 hsz
  clear e0 hsz
  refine wpAnyH_take (i := 1) (oi := btw8_o1) (v := .slice (some ⟨pb, po, none⟩) m pc) rfl (by kernel_rfl) (by kernel_rfl) (by kernel_rfl) (fun _ _ _ h => h) (Or.inl ⟨by rfl, fun w1 hw => exec_move rfl t0⟩) hHeld ?_
  change wpAnyH _ _ _ _ _ _ _ (a0.put (some 20) (.slice (some ⟨pb, po, none⟩) m pc)) _
  obtain ⟨a1, e1⟩ : ∃ act, act = a0.put (some 20) (.slice (some ⟨pb, po, none⟩) m pc) := ⟨_, rfl⟩
  rw [← e1] at h ⊢
  have z1 := pz e1 z0
  replace t0 := pk e1 t0
  replace t4 := pk e1 t4
  replace t19 := pk e1 t19
  have t20 := pq e1 z0
  clear e1 z0
  refine wpAnyH_take (i := 2) (oi := btw8_o2) (v := .int .i64 (i : Int)) rfl (by kernel_rfl) (by kernel_rfl) (by kernel_rfl) (fun _ _ _ h => h) (Or.inl ⟨by rfl, fun w1 hw => exec_move rfl t4⟩) hHeld ?_
  change wpAnyH _ _ _ _ _ _ _ (a1.put (some 21) (.int .i64 (i : Int))) _
  obtain ⟨a2, e2⟩ : ∃ act, act = a1.put (some 21) (.int .i64 (i : Int)) := ⟨_, rfl⟩
  rw [← e2] at h ⊢
  have z2 := pz e2 z1
  replace t0 := pk e2 t0
  replace t4 := pk e2 t4
  replace t19 := pk e2 t19
  replace t20 := pk e2 t20
  have t21 := pq e2 z1
  clear e2 z1
  refine wpAnyH_take (i := 3) (oi := btw8_o3) (v := .pointer (some ⟨pb, po + 66 * i, none⟩)) rfl (by kernel_rfl) (by kernel_rfl) (by kernel_rfl) (fun _ _ _ h => h) (Or.inl ⟨by rfl, fun w1 hw => exec_indexAt rfl t20 t21 (ix_put hi hm _)⟩) hHeld ?_
  change wpAnyH _ _ _ _ _ _ _ (a2.put (some 22) (.pointer (some ⟨pb, po + 66 * i, none⟩))) _
  obtain ⟨a3, e3⟩ : ∃ act, act = a2.put (some 22) (.pointer (some ⟨pb, po + 66 * i, none⟩)) := ⟨_, rfl⟩
  rw [← e3] at h ⊢
  have z3 := pz e3 z2
  replace t0 := pk e3 t0
  replace t4 := pk e3 t4
  replace t19 := pk e3 t19
  clear t20 t21
  have t22 := pq e3 z2
  clear e3 z2
  refine wpAnyH_take (i := 4) (oi := btw8_o4) (v := .pointer (some ⟨pb, po + 66 * i + 0, none⟩)) rfl (by kernel_rfl) (by kernel_rfl) (by kernel_rfl) (fun _ _ _ h => h) (Or.inl ⟨by rfl, fun w1 hw => exec_fieldAt rfl t22 (fg_55_0 _ _ _)⟩) hHeld ?_
  change wpAnyH _ _ _ _ _ _ _ (a3.put (some 23) (.pointer (some ⟨pb, po + 66 * i + 0, none⟩))) _
  obtain ⟨a4, e4⟩ : ∃ act, act = a3.put (some 23) (.pointer (some ⟨pb, po + 66 * i + 0, none⟩)) := ⟨_, rfl⟩
  rw [← e4] at h ⊢
  have z4 := pz e4 z3
  replace t0 := pk e4 t0
  replace t4 := pk e4 t4
  replace t19 := pk e4 t19
  clear t22
  have t23 := pq e4 z3
  clear e4 z3
  refine wpAnyH_take (i := 5) (oi := btw8_o5) (v := p.id.v) rfl (by kernel_rfl) (by kernel_rfl) (by kernel_rfl) (fun _ _ _ h => h) (Or.inl ⟨by rfl, fun w1 hw => exec_load rfl t23 (ld_pid hp hw)⟩) hHeld ?_
  change wpAnyH _ _ _ _ _ _ _ (a4.put (some 24) (p.id.v)) _
  obtain ⟨a5, e5⟩ : ∃ act, act = a4.put (some 24) (p.id.v) := ⟨_, rfl⟩
  rw [← e5] at h ⊢
  have z5 := pz e5 z4
  replace t0 := pk e5 t0
  replace t4 := pk e5 t4
  replace t19 := pk e5 t19
  clear t23
  have t24 := pq e5 z4
  clear e5 z4
  refine wpAnyH_take (i := 6) (oi := btw8_o6) (v := .slice (some ⟨pb, po, none⟩) m pc) rfl (by kernel_rfl) (by kernel_rfl) (by kernel_rfl) (fun _ _ _ h => h) (Or.inl ⟨by rfl, fun w1 hw => exec_move rfl t0⟩) hHeld ?_
  change wpAnyH _ _ _ _ _ _ _ (a5.put (some 25) (.slice (some ⟨pb, po, none⟩) m pc)) _
  obtain ⟨a6, e6⟩ : ∃ act, act = a5.put (some 25) (.slice (some ⟨pb, po, none⟩) m pc) := ⟨_, rfl⟩
  rw [← e6] at h ⊢
  have z6 := pz e6 z5
  replace t4 := pk e6 t4
  replace t19 := pk e6 t19
  replace t24 := pk e6 t24
  clear t0
  have t25 := pq e6 z5
  clear e6 z5
  refine wpAnyH_take (i := 7) (oi := btw8_o7) (v := .int .i64 (i : Int)) rfl (by kernel_rfl) (by kernel_rfl) (by kernel_rfl) (fun _ _ _ h => h) (Or.inl ⟨by rfl, fun w1 hw => exec_move rfl t4⟩) hHeld ?_
  change wpAnyH _ _ _ _ _ _ _ (a6.put (some 26) (.int .i64 (i : Int))) _
  obtain ⟨a7, e7⟩ : ∃ act, act = a6.put (some 26) (.int .i64 (i : Int)) := ⟨_, rfl⟩
  rw [← e7] at h ⊢
  have z7 := pz e7 z6
  replace t19 := pk e7 t19
  replace t24 := pk e7 t24
  replace t25 := pk e7 t25
  clear t4
  have t26 := pq e7 z6
  clear e7 z6
  refine wpAnyH_take (i := 8) (oi := btw8_o8) (v := .pointer (some ⟨pb, po + 66 * i, none⟩)) rfl (by kernel_rfl) (by kernel_rfl) (by kernel_rfl) (fun _ _ _ h => h) (Or.inl ⟨by rfl, fun w1 hw => exec_indexAt rfl t25 t26 (ix_put hi hm _)⟩) hHeld ?_
  change wpAnyH _ _ _ _ _ _ _ (a7.put (some 27) (.pointer (some ⟨pb, po + 66 * i, none⟩))) _
  obtain ⟨a8, e8⟩ : ∃ act, act = a7.put (some 27) (.pointer (some ⟨pb, po + 66 * i, none⟩)) := ⟨_, rfl⟩
  rw [← e8] at h ⊢
  have z8 := pz e8 z7
  replace t19 := pk e8 t19
  replace t24 := pk e8 t24
  clear t25 t26
  have t27 := pq e8 z7
  clear e8 z7
  refine wpAnyH_take (i := 9) (oi := btw8_o9) (v := .pointer (some ⟨pb, po + 66 * i + 33, none⟩)) rfl (by kernel_rfl) (by kernel_rfl) (by kernel_rfl) (fun _ _ _ h => h) (Or.inl ⟨by rfl, fun w1 hw => exec_fieldAt rfl t27 (fg_55_1 _ _ _)⟩) hHeld ?_
  change wpAnyH _ _ _ _ _ _ _ (a8.put (some 28) (.pointer (some ⟨pb, po + 66 * i + 33, none⟩))) _
  obtain ⟨a9, e9⟩ : ∃ act, act = a8.put (some 28) (.pointer (some ⟨pb, po + 66 * i + 33, none⟩)) := ⟨_, rfl⟩
  rw [← e9] at h ⊢
  have z9 := pz e9 z8
  replace t19 := pk e9 t19
  replace t24 := pk e9 t24
  clear t27
  have t28 := pq e9 z8
  clear e9 z8
  refine wpAnyH_take (i := 10) (oi := btw8_o10) (v := p.bh.v) rfl (by kernel_rfl) (by kernel_rfl) (by kernel_rfl) (fun _ _ _ h => h) (Or.inl ⟨by rfl, fun w1 hw => exec_load rfl t28 (ld_pbh hp hw)⟩) hHeld ?_
  change wpAnyH _ _ _ _ _ _ _ (a9.put (some 29) (p.bh.v)) _
  obtain ⟨a10, e10⟩ : ∃ act, act = a9.put (some 29) (p.bh.v) := ⟨_, rfl⟩
  rw [← e10] at h ⊢
  have z10 := pz e10 z9
  replace t19 := pk e10 t19
  replace t24 := pk e10 t24
  clear t28
  have t29 := pq e10 z9
  clear e10 z9
  refine wpAnyH_ready (rs := [11]) (by kernel_rfl) (by simp) ?_
  refine AllReadyH.cons (o := btw8_o11) rfl (fun K hK => ?_) AllReadyH.nil
  rw [if_pos (by rfl)]
  unfold btw8_o11 at hK ⊢
  go_simp
  refine (CI).mono ?_
  rintro e x11 ⟨rfl, S1, HF⟩
  try go_wp2_with fail
  refine hK.out _ _ (S1) (fun hHeld => ?_)
  clear hK K
  change wpAnyH _ _ _ _ _ _ _ (a10.put (some 30) (.int .i64 c)) _
  obtain ⟨a11, e11⟩ : ∃ act, act = a10.put (some 30) (.int .i64 c) := ⟨_, rfl⟩
  rw [← e11] at h ⊢
  have z11 := pz e11 z10
  clear t19 t24 t29
  have t30 := pq e11 z10
  clear e11 z10
  refine wpAnyH_take (i := 12) (oi := btw8_o12) (v := .bool r) rfl (by kernel_rfl) (by kernel_rfl) (by kernel_rfl) (fun _ _ _ h => h) (Or.inl ⟨by rfl, fun w1 hw => ex_neq36 rfl t30 rfl hr⟩) hHeld ?_
  change wpAnyH _ _ _ _ _ _ _ (a11.put (some 31) (.bool r)) _
  obtain ⟨a12, e12⟩ : ∃ act, act = a11.put (some 31) (.bool r) := ⟨_, rfl⟩
  rw [← e12] at h ⊢
  have z12 := pz e12 z11
  clear t30
  clear e12 z11
  exact wpAnyH_done (by kernel_rfl) (NoPanic.normal (h _ _ (HF) rfl)) _
def btw9_o0 : Oper := { dst := some 32, op := Op.move (Operand.tmp 3), type := 23, pos := "law.go:181", after := #[], guard := none }
def btw9_o1 : Oper := { dst := some 33, op := Op.move (Operand.tmp 0), type := 43, pos := "law.go:181", after := #[], guard := none }
def btw9_o2 : Oper := { dst := some 34, op := Op.move (Operand.tmp 4), type := 3, pos := "law.go:181", after := #[], guard := none }
def btw9_o3 : Oper := { dst := some 35, op := Op.indexAddr 43 (Operand.tmp 33) (Operand.tmp 34), type := 0, pos := "law.go:181", after := #[{ on := 1, ground := Ground.data }, { on := 2, ground := Ground.data }], guard := none }
def btw9_o4 : Oper := { dst := some 36, op := Op.fieldAddr 55 (Operand.tmp 35) 0, type := 0, pos := "law.go:181", after := #[{ on := 3, ground := Ground.data }], guard := none }
def btw9_o5 : Oper := { dst := some 37, op := Op.load 32 (Operand.tmp 36), type := 32, pos := "law.go:181", after := #[{ on := 4, ground := Ground.data }], guard := none }
def btw9_o6 : Oper := { dst := some 38, op := Op.call { callee := Callee.value (Operand.func 27), args := #[Operand.tmp 32, Operand.tmp 37], argTypes := #[23, 32] }, type := 3, pos := "law.go:181", after := #[{ on := 0, ground := Ground.data }, { on := 5, ground := Ground.data }], guard := none }
def btw9_o7 : Oper := { dst := some 6, op := Op.assign (Operand.tmp 38), type := 3, pos := "law.go:181", after := #[{ on := 6, ground := Ground.data }, { on := 6, ground := Ground.chain }, { on := 0, ground := Ground.phase }, { on := 1, ground := Ground.phase }, { on := 2, ground := Ground.phase }, { on := 3, ground := Ground.phase }, { on := 4, ground := Ground.phase }, { on := 5, ground := Ground.phase }, { on := 6, ground := Ground.phase }], guard := none }
def btw9_ops : Array Oper := #[btw9_o0, btw9_o1, btw9_o2, btw9_o3, btw9_o4, btw9_o5, btw9_o6, btw9_o7]
set_option maxRecDepth 100000 in
set_option maxHeartbeats 4000000 in
theorem btw9 {pb po m pc i : Nat} {p : PutV} {sb n : Nat} (Fin : World → Prop) (a : Act) (w : World) (Q : Exit → Act → World → Prop) (hsz : a.tmps.size = 96)
    (t0 : a.tmps.getD 0 undef = .slice (some ⟨pb, po, none⟩) m pc)
    (t3 : a.tmps.getD 3 undef = .pointer (some ⟨sb, 0, none⟩))
    (t4 : a.tmps.getD 4 undef = .int .i64 (i : Int))
    (hp : p.ok) (hi : i < m) (hm : m ≤ 1400000000000) (h0 : w.rangeAt pb (po + 66 * i) p.c) (CR : Calls Try.prog 27 #[.pointer (some ⟨sb, 0, none⟩), p.id.v] w fun e w' => e = .returned (.int .i64 (n : Int)) ∧ Fin w')
    (h : ∀ (a' : Act) (w' : World), Fin w' → a' = ((((((((a).put (some 32) (.pointer (some ⟨sb, 0, none⟩))).put (some 33) (.slice (some ⟨pb, po, none⟩) m pc)).put (some 34) (.int .i64 (i : Int))).put (some 35) (.pointer (some ⟨pb, po + 66 * i, none⟩))).put (some 36) (.pointer (some ⟨pb, po + 66 * i + 0, none⟩))).put (some 37) (p.id.v)).put (some 38) (.int .i64 (n : Int))).put (some 6) (.int .i64 (n : Int)) → Q .normal a' w') :
    (Code.region 9 btw9_ops false).wp Try.prog Q a w := by
  refine wp_region_list ?_
  change wpList _ _ _ [btw9_o0, btw9_o1, btw9_o2, btw9_o3, btw9_o4, btw9_o5, btw9_o6, btw9_o7] _ _
  refine qv (v := .pointer (some ⟨sb, 0, none⟩)) (by rfl) (exec_move rfl t3) (fun a0 e0 => ?_)
  rw [← e0] at h
  have z0 := pz e0 hsz
  replace t0 := pk e0 t0
  replace t4 := pk e0 t4
  clear t3
  have t32 := pq e0 hsz
  clear e0 hsz
  refine qv (v := .slice (some ⟨pb, po, none⟩) m pc) (by rfl) (exec_move rfl t0) (fun a1 e1 => ?_)
  rw [← e1] at h
  have z1 := pz e1 z0
  replace t4 := pk e1 t4
  replace t32 := pk e1 t32
  clear t0
  have t33 := pq e1 z0
  clear e1 z0
  refine qv (v := .int .i64 (i : Int)) (by rfl) (exec_move rfl t4) (fun a2 e2 => ?_)
  rw [← e2] at h
  have z2 := pz e2 z1
  replace t32 := pk e2 t32
  replace t33 := pk e2 t33
  clear t4
  have t34 := pq e2 z1
  clear e2 z1
  refine qv (v := .pointer (some ⟨pb, po + 66 * i, none⟩)) (by rfl) (exec_indexAt rfl t33 t34 (ix_put hi hm _)) (fun a3 e3 => ?_)
  rw [← e3] at h
  have z3 := pz e3 z2
  replace t32 := pk e3 t32
  clear t33 t34
  have t35 := pq e3 z2
  clear e3 z2
  refine qv (v := .pointer (some ⟨pb, po + 66 * i + 0, none⟩)) (by rfl) (exec_fieldAt rfl t35 (fg_55_0 _ _ _)) (fun a4 e4 => ?_)
  rw [← e4] at h
  have z4 := pz e4 z3
  replace t32 := pk e4 t32
  clear t35
  have t36 := pq e4 z3
  clear e4 z3
  refine qv (v := p.id.v) (by rfl) (exec_load rfl t36 (ld_pid hp h0)) (fun a5 e5 => ?_)
  rw [← e5] at h
  have z5 := pz e5 z4
  replace t32 := pk e5 t32
  clear t36
  have t37 := pq e5 z4
  clear e5 z4
  refine qc (by rfl) (by unfold btw9_o6; go_simp) (CR) (fun e x6 hx => ?_)
  obtain ⟨rfl, HF⟩ := hx
  refine ⟨_, rfl, fun a6 e6 => ?_⟩
  rw [← e6] at h
  have z6 := pz e6 z5
  clear t32 t37
  have t38 := pq e6 z5
  clear e6 z5
  refine qv (v := .int .i64 (n : Int)) (by rfl) (exec_assign rfl t38) (fun a7 e7 => ?_)
  rw [← e7] at h
  have z7 := pz e7 z6
  clear t38
  clear e7 z6
  exact wpList_nil (h _ _ (HF) rfl)
def btw10_o0 : Oper := { dst := some 39, op := Op.move (Operand.tmp 6), type := 3, pos := "law.go:182", after := #[], guard := none }
def btw10_o1 : Oper := { dst := some 40, op := Op.move (Operand.tmp 3), type := 23, pos := "law.go:182", after := #[], guard := none }
def btw10_o2 : Oper := { dst := some 41, op := Op.move (Operand.tmp 0), type := 43, pos := "law.go:182", after := #[], guard := none }
def btw10_o3 : Oper := { dst := some 42, op := Op.move (Operand.tmp 4), type := 3, pos := "law.go:182", after := #[], guard := none }
def btw10_o4 : Oper := { dst := some 43, op := Op.indexAddr 43 (Operand.tmp 41) (Operand.tmp 42), type := 0, pos := "law.go:182", after := #[{ on := 2, ground := Ground.data }, { on := 3, ground := Ground.data }], guard := none }
def btw10_o5 : Oper := { dst := some 44, op := Op.fieldAddr 55 (Operand.tmp 43) 1, type := 0, pos := "law.go:182", after := #[{ on := 4, ground := Ground.data }], guard := none }
def btw10_o6 : Oper := { dst := some 45, op := Op.load 32 (Operand.tmp 44), type := 32, pos := "law.go:182", after := #[{ on := 5, ground := Ground.data }], guard := none }
def btw10_o7 : Oper := { dst := some 46, op := Op.call { callee := Callee.value (Operand.func 27), args := #[Operand.tmp 40, Operand.tmp 45], argTypes := #[23, 32] }, type := 3, pos := "law.go:182", after := #[{ on := 1, ground := Ground.data }, { on := 6, ground := Ground.data }], guard := none }
def btw10_o8 : Oper := { dst := some 47, op := Op.binOp BinOp.add 3 (Operand.tmp 46) (Operand.const (Value.int IntKind.i64 1)) 3, type := 3, pos := "law.go:182", after := #[{ on := 7, ground := Ground.data }], guard := none }
def btw10_o9 : Oper := { dst := some 48, op := Op.binOp BinOp.neq 3 (Operand.tmp 39) (Operand.tmp 47) 3, type := 4, pos := "law.go:182", after := #[{ on := 0, ground := Ground.data }, { on := 8, ground := Ground.data }], guard := none }
def btw10_o10 : Oper := { dst := some 49, op := Op.move (Operand.tmp 48), type := 4, pos := "law.go:182", after := #[{ on := 9, ground := Ground.data }, { on := 7, ground := Ground.chain }], guard := none }
def btw10_o11 : Oper := { dst := some 50, op := Op.move (Operand.tmp 0), type := 43, pos := "law.go:182", after := #[{ on := 10, ground := Ground.guard }], guard := some (10, false) }
def btw10_o12 : Oper := { dst := some 51, op := Op.move (Operand.tmp 4), type := 3, pos := "law.go:182", after := #[{ on := 10, ground := Ground.guard }], guard := some (10, false) }
def btw10_o13 : Oper := { dst := some 52, op := Op.indexAddr 43 (Operand.tmp 50) (Operand.tmp 51), type := 0, pos := "law.go:182", after := #[{ on := 11, ground := Ground.data }, { on := 12, ground := Ground.data }, { on := 10, ground := Ground.guard }], guard := some (10, false) }
def btw10_o14 : Oper := { dst := some 53, op := Op.fieldAddr 55 (Operand.tmp 52) 1, type := 0, pos := "law.go:182", after := #[{ on := 13, ground := Ground.data }, { on := 10, ground := Ground.guard }], guard := some (10, false) }
def btw10_o15 : Oper := { dst := some 54, op := Op.load 32 (Operand.tmp 53), type := 32, pos := "law.go:182", after := #[{ on := 14, ground := Ground.data }, { on := 10, ground := Ground.guard }], guard := some (10, false) }
def btw10_o16 : Oper := { dst := some 55, op := Op.build 32 #[], type := 32, pos := "law.go:182", after := #[{ on := 10, ground := Ground.guard }], guard := some (10, false) }
def btw10_o17 : Oper := { dst := some 56, op := Op.binOp BinOp.eql 32 (Operand.tmp 54) (Operand.tmp 55) 32, type := 4, pos := "law.go:182", after := #[{ on := 15, ground := Ground.data }, { on := 16, ground := Ground.data }, { on := 10, ground := Ground.guard }], guard := some (10, false) }
def btw10_o18 : Oper := { dst := some 57, op := Op.move (Operand.tmp 56), type := 4, pos := "law.go:182", after := #[{ on := 17, ground := Ground.data }, { on := 10, ground := Ground.chain }, { on := 10, ground := Ground.guard }], guard := some (10, false) }
def btw10_o19 : Oper := { dst := some 58, op := Op.move (Operand.tmp 6), type := 3, pos := "law.go:182", after := #[{ on := 18, ground := Ground.guard }], guard := some (18, true) }
def btw10_o20 : Oper := { dst := some 59, op := Op.binOp BinOp.neq 3 (Operand.tmp 58) (Operand.const (Value.int IntKind.i64 0)) 3, type := 4, pos := "law.go:182", after := #[{ on := 19, ground := Ground.data }, { on := 18, ground := Ground.guard }], guard := some (18, true) }
def btw10_o21 : Oper := { dst := some 60, op := Op.pick (Operand.tmp 57) (Operand.tmp 59) (Operand.const (Value.bool false)), type := 4, pos := "law.go:182", after := #[{ on := 18, ground := Ground.data }, { on := 20, ground := Ground.data }, { on := 10, ground := Ground.guard }], guard := some (10, false) }
def btw10_o22 : Oper := { dst := some 61, op := Op.pick (Operand.tmp 49) (Operand.const (Value.bool true)) (Operand.tmp 60), type := 4, pos := "law.go:182", after := #[{ on := 10, ground := Ground.data }, { on := 21, ground := Ground.data }], guard := none }
def btw10_ops : Array Oper := #[btw10_o0, btw10_o1, btw10_o2, btw10_o3, btw10_o4, btw10_o5, btw10_o6, btw10_o7, btw10_o8, btw10_o9, btw10_o10, btw10_o11, btw10_o12, btw10_o13, btw10_o14, btw10_o15, btw10_o16, btw10_o17, btw10_o18, btw10_o19, btw10_o20, btw10_o21, btw10_o22]
set_option maxRecDepth 100000 in
set_option maxHeartbeats 4000000 in
theorem btw10a {pb po m pc i : Nat} {p : PutV} {sb n : Nat} {r2 : Int} (Fin : World → Prop) (a : Act) (w : World) (Q : Exit → Act → World → Prop) (hsz : a.tmps.size = 96)
    (t0 : a.tmps.getD 0 undef = .slice (some ⟨pb, po, none⟩) m pc)
    (t3 : a.tmps.getD 3 undef = .pointer (some ⟨sb, 0, none⟩))
    (t4 : a.tmps.getD 4 undef = .int .i64 (i : Int))
    (t6 : a.tmps.getD 6 undef = .int .i64 (n : Int))
    (hp : p.ok) (hi : i < m) (hm : m ≤ 1400000000000) (h0 : w.rangeAt pb (po + 66 * i) p.c) (hov : -9223372036854775808 ≤ r2 + 1 ∧ r2 + 1 ≤ 9223372036854775807) (hne : decide ((n : Int) ≠ r2 + 1) = false) (hz : decide (p.bh = zId) = true) (h0n : decide ((n : Int) ≠ 0) = false) (CR : Calls Try.prog 27 #[.pointer (some ⟨sb, 0, none⟩), p.bh.v] w fun e w' => e = .returned (.int .i64 r2) ∧ w'.rangeAt pb (po + 66 * i) p.c ∧ Fin w')
    (h : ∀ (a' : Act) (w' : World), Fin w' → a' = (((((((((((((((((((((((a).put (some 39) (.int .i64 (n : Int))).put (some 40) (.pointer (some ⟨sb, 0, none⟩))).put (some 41) (.slice (some ⟨pb, po, none⟩) m pc)).put (some 42) (.int .i64 (i : Int))).put (some 43) (.pointer (some ⟨pb, po + 66 * i, none⟩))).put (some 44) (.pointer (some ⟨pb, po + 66 * i + 33, none⟩))).put (some 45) (p.bh.v)).put (some 46) (.int .i64 r2)).put (some 47) (.int .i64 (r2 + 1))).put (some 48) (.bool false)).put (some 49) (.bool false)).put (some 50) (.slice (some ⟨pb, po, none⟩) m pc)).put (some 51) (.int .i64 (i : Int))).put (some 52) (.pointer (some ⟨pb, po + 66 * i, none⟩))).put (some 53) (.pointer (some ⟨pb, po + 66 * i + 33, none⟩))).put (some 54) (p.bh.v)).put (some 55) (zId.v)).put (some 56) (.bool true)).put (some 57) (.bool true)).put (some 58) (.int .i64 (n : Int))).put (some 59) (.bool false)).put (some 60) (.bool false)).put (some 61) (.bool false) → Q .normal a' w') :
    (Code.region 10 btw10_ops false).wp Try.prog Q a w := by
  refine wp_region_list ?_
  change wpList _ _ _ [btw10_o0, btw10_o1, btw10_o2, btw10_o3, btw10_o4, btw10_o5, btw10_o6, btw10_o7, btw10_o8, btw10_o9, btw10_o10, btw10_o11, btw10_o12, btw10_o13, btw10_o14, btw10_o15, btw10_o16, btw10_o17, btw10_o18, btw10_o19, btw10_o20, btw10_o21, btw10_o22] _ _
  refine qv (v := .int .i64 (n : Int)) (by rfl) (exec_move rfl t6) (fun a0 e0 => ?_)
  rw [← e0] at h
  have z0 := pz e0 hsz
  replace t0 := pk e0 t0
  replace t3 := pk e0 t3
  replace t4 := pk e0 t4
  replace t6 := pk e0 t6
  have t39 := pq e0 hsz
  clear e0 hsz
  refine qv (v := .pointer (some ⟨sb, 0, none⟩)) (by rfl) (exec_move rfl t3) (fun a1 e1 => ?_)
  rw [← e1] at h
  have z1 := pz e1 z0
  replace t0 := pk e1 t0
  replace t4 := pk e1 t4
  replace t6 := pk e1 t6
  replace t39 := pk e1 t39
  clear t3
  have t40 := pq e1 z0
  clear e1 z0
  refine qv (v := .slice (some ⟨pb, po, none⟩) m pc) (by rfl) (exec_move rfl t0) (fun a2 e2 => ?_)
  rw [← e2] at h
  have z2 := pz e2 z1
  replace t0 := pk e2 t0
  replace t4 := pk e2 t4
  replace t6 := pk e2 t6
  replace t39 := pk e2 t39
  replace t40 := pk e2 t40
  have t41 := pq e2 z1
  clear e2 z1
  refine qv (v := .int .i64 (i : Int)) (by rfl) (exec_move rfl t4) (fun a3 e3 => ?_)
  rw [← e3] at h
  have z3 := pz e3 z2
  replace t0 := pk e3 t0
  replace t4 := pk e3 t4
  replace t6 := pk e3 t6
  replace t39 := pk e3 t39
  replace t40 := pk e3 t40
  replace t41 := pk e3 t41
  have t42 := pq e3 z2
  clear e3 z2
  refine qv (v := .pointer (some ⟨pb, po + 66 * i, none⟩)) (by rfl) (exec_indexAt rfl t41 t42 (ix_put hi hm _)) (fun a4 e4 => ?_)
  rw [← e4] at h
  have z4 := pz e4 z3
  replace t0 := pk e4 t0
  replace t4 := pk e4 t4
  replace t6 := pk e4 t6
  replace t39 := pk e4 t39
  replace t40 := pk e4 t40
  clear t41 t42
  have t43 := pq e4 z3
  clear e4 z3
  refine qv (v := .pointer (some ⟨pb, po + 66 * i + 33, none⟩)) (by rfl) (exec_fieldAt rfl t43 (fg_55_1 _ _ _)) (fun a5 e5 => ?_)
  rw [← e5] at h
  have z5 := pz e5 z4
  replace t0 := pk e5 t0
  replace t4 := pk e5 t4
  replace t6 := pk e5 t6
  replace t39 := pk e5 t39
  replace t40 := pk e5 t40
  clear t43
  have t44 := pq e5 z4
  clear e5 z4
  refine qv (v := p.bh.v) (by rfl) (exec_load rfl t44 (ld_pbh hp h0)) (fun a6 e6 => ?_)
  rw [← e6] at h
  have z6 := pz e6 z5
  replace t0 := pk e6 t0
  replace t4 := pk e6 t4
  replace t6 := pk e6 t6
  replace t39 := pk e6 t39
  replace t40 := pk e6 t40
  clear t44
  have t45 := pq e6 z5
  clear e6 z5
  refine qc (by rfl) (by unfold btw10_o7; go_simp) (CR) (fun e x7 hx => ?_)
  obtain ⟨rfl, R1, HF⟩ := hx
  refine ⟨_, rfl, fun a7 e7 => ?_⟩
  rw [← e7] at h
  have z7 := pz e7 z6
  replace t0 := pk e7 t0
  replace t4 := pk e7 t4
  replace t6 := pk e7 t6
  replace t39 := pk e7 t39
  clear t40 t45
  have t46 := pq e7 z6
  clear e7 z6
  refine qv (v := .int .i64 (r2 + 1)) (by rfl) (ex_add rfl t46 rfl hov) (fun a8 e8 => ?_)
  rw [← e8] at h
  have z8 := pz e8 z7
  replace t0 := pk e8 t0
  replace t4 := pk e8 t4
  replace t6 := pk e8 t6
  replace t39 := pk e8 t39
  clear t46
  have t47 := pq e8 z7
  clear e8 z7
  refine qv (v := .bool false) (by rfl) (ex_neq rfl t39 t47 hne) (fun a9 e9 => ?_)
  rw [← e9] at h
  have z9 := pz e9 z8
  replace t0 := pk e9 t0
  replace t4 := pk e9 t4
  replace t6 := pk e9 t6
  clear t39 t47
  have t48 := pq e9 z8
  clear e9 z8
  refine qv (v := .bool false) (by rfl) (exec_move rfl t48) (fun a10 e10 => ?_)
  rw [← e10] at h
  have z10 := pz e10 z9
  replace t0 := pk e10 t0
  replace t4 := pk e10 t4
  replace t6 := pk e10 t6
  clear t48
  have t49 := pq e10 z9
  clear e10 z9
  refine qv (v := .slice (some ⟨pb, po, none⟩) m pc) (by simp [Region.wanted, yielded, btw10_ops, btw10_o11, btw10_o10, tget z10 (by decide) t49]) (exec_move rfl t0) (fun a11 e11 => ?_)
  rw [← e11] at h
  have z11 := pz e11 z10
  replace t4 := pk e11 t4
  replace t6 := pk e11 t6
  replace t49 := pk e11 t49
  clear t0
  have t50 := pq e11 z10
  clear e11 z10
  refine qv (v := .int .i64 (i : Int)) (by simp [Region.wanted, yielded, btw10_ops, btw10_o12, btw10_o10, tget z11 (by decide) t49]) (exec_move rfl t4) (fun a12 e12 => ?_)
  rw [← e12] at h
  have z12 := pz e12 z11
  replace t6 := pk e12 t6
  replace t49 := pk e12 t49
  replace t50 := pk e12 t50
  clear t4
  have t51 := pq e12 z11
  clear e12 z11
  refine qv (v := .pointer (some ⟨pb, po + 66 * i, none⟩)) (by simp [Region.wanted, yielded, btw10_ops, btw10_o13, btw10_o10, tget z12 (by decide) t49]) (exec_indexAt rfl t50 t51 (ix_put hi hm _)) (fun a13 e13 => ?_)
  rw [← e13] at h
  have z13 := pz e13 z12
  replace t6 := pk e13 t6
  replace t49 := pk e13 t49
  clear t50 t51
  have t52 := pq e13 z12
  clear e13 z12
  refine qv (v := .pointer (some ⟨pb, po + 66 * i + 33, none⟩)) (by simp [Region.wanted, yielded, btw10_ops, btw10_o14, btw10_o10, tget z13 (by decide) t49]) (exec_fieldAt rfl t52 (fg_55_1 _ _ _)) (fun a14 e14 => ?_)
  rw [← e14] at h
  have z14 := pz e14 z13
  replace t6 := pk e14 t6
  replace t49 := pk e14 t49
  clear t52
  have t53 := pq e14 z13
  clear e14 z13
  refine qv (v := p.bh.v) (by simp [Region.wanted, yielded, btw10_ops, btw10_o15, btw10_o10, tget z14 (by decide) t49]) (exec_load rfl t53 (ld_pbh hp R1)) (fun a15 e15 => ?_)
  rw [← e15] at h
  have z15 := pz e15 z14
  replace t6 := pk e15 t6
  replace t49 := pk e15 t49
  clear t53
  have t54 := pq e15 z14
  clear e15 z14
  refine qv (v := zId.v) (by simp [Region.wanted, yielded, btw10_ops, btw10_o16, btw10_o10, tget z15 (by decide) t49]) (exec_build0 rfl (build_id _)) (fun a16 e16 => ?_)
  rw [← e16] at h
  have z16 := pz e16 z15
  replace t6 := pk e16 t6
  replace t49 := pk e16 t49
  replace t54 := pk e16 t54
  have t55 := pq e16 z15
  clear e16 z15
  refine qv (v := .bool true) (by simp [Region.wanted, yielded, btw10_ops, btw10_o17, btw10_o10, tget z16 (by decide) t49]) (ex_eqlI rfl t54 t55 hp.bh zId_ok hz) (fun a17 e17 => ?_)
  rw [← e17] at h
  have z17 := pz e17 z16
  replace t6 := pk e17 t6
  replace t49 := pk e17 t49
  clear t54 t55
  have t56 := pq e17 z16
  clear e17 z16
  refine qv (v := .bool true) (by simp [Region.wanted, yielded, btw10_ops, btw10_o18, btw10_o10, tget z17 (by decide) t49]) (exec_move rfl t56) (fun a18 e18 => ?_)
  rw [← e18] at h
  have z18 := pz e18 z17
  replace t6 := pk e18 t6
  replace t49 := pk e18 t49
  clear t56
  have t57 := pq e18 z17
  clear e18 z17
  refine qv (v := .int .i64 (n : Int)) (by simp [Region.wanted, yielded, btw10_ops, btw10_o19, btw10_o18, tget z18 (by decide) t57]) (exec_move rfl t6) (fun a19 e19 => ?_)
  rw [← e19] at h
  have z19 := pz e19 z18
  replace t49 := pk e19 t49
  replace t57 := pk e19 t57
  clear t6
  have t58 := pq e19 z18
  clear e19 z18
  refine qv (v := .bool false) (by simp [Region.wanted, yielded, btw10_ops, btw10_o20, btw10_o18, tget z19 (by decide) t57]) (ex_neq rfl t58 rfl h0n) (fun a20 e20 => ?_)
  rw [← e20] at h
  have z20 := pz e20 z19
  replace t49 := pk e20 t49
  replace t57 := pk e20 t57
  clear t58
  have t59 := pq e20 z19
  clear e20 z19
  refine qv (v := .bool false) (by simp [Region.wanted, yielded, btw10_ops, btw10_o21, btw10_o10, tget z20 (by decide) t49]) (by unfold btw10_o21; go_simp) (fun a21 e21 => ?_)
  rw [← e21] at h
  have z21 := pz e21 z20
  replace t49 := pk e21 t49
  clear t57 t59
  have t60 := pq e21 z20
  clear e21 z20
  refine qv (v := .bool false) (by rfl) (by unfold btw10_o22; go_simp) (fun a22 e22 => ?_)
  rw [← e22] at h
  have z22 := pz e22 z21
  clear t49 t60
  clear e22 z21
  exact wpList_nil (h _ _ (HF) rfl)
set_option maxRecDepth 100000 in
set_option maxHeartbeats 4000000 in
theorem btw10b {pb po m pc i : Nat} {p : PutV} {sb n : Nat} {r2 : Int} (Fin : World → Prop) (a : Act) (w : World) (Q : Exit → Act → World → Prop) (hsz : a.tmps.size = 96)
    (t0 : a.tmps.getD 0 undef = .slice (some ⟨pb, po, none⟩) m pc)
    (t3 : a.tmps.getD 3 undef = .pointer (some ⟨sb, 0, none⟩))
    (t4 : a.tmps.getD 4 undef = .int .i64 (i : Int))
    (t6 : a.tmps.getD 6 undef = .int .i64 (n : Int))
    (hp : p.ok) (hi : i < m) (hm : m ≤ 1400000000000) (h0 : w.rangeAt pb (po + 66 * i) p.c) (hov : -9223372036854775808 ≤ r2 + 1 ∧ r2 + 1 ≤ 9223372036854775807) (hne : decide ((n : Int) ≠ r2 + 1) = false) (hz : decide (p.bh = zId) = false) (CR : Calls Try.prog 27 #[.pointer (some ⟨sb, 0, none⟩), p.bh.v] w fun e w' => e = .returned (.int .i64 r2) ∧ w'.rangeAt pb (po + 66 * i) p.c ∧ Fin w')
    (h : ∀ (a' : Act) (w' : World), Fin w' → a' = (((((((((((((((((((((((a).put (some 39) (.int .i64 (n : Int))).put (some 40) (.pointer (some ⟨sb, 0, none⟩))).put (some 41) (.slice (some ⟨pb, po, none⟩) m pc)).put (some 42) (.int .i64 (i : Int))).put (some 43) (.pointer (some ⟨pb, po + 66 * i, none⟩))).put (some 44) (.pointer (some ⟨pb, po + 66 * i + 33, none⟩))).put (some 45) (p.bh.v)).put (some 46) (.int .i64 r2)).put (some 47) (.int .i64 (r2 + 1))).put (some 48) (.bool false)).put (some 49) (.bool false)).put (some 50) (.slice (some ⟨pb, po, none⟩) m pc)).put (some 51) (.int .i64 (i : Int))).put (some 52) (.pointer (some ⟨pb, po + 66 * i, none⟩))).put (some 53) (.pointer (some ⟨pb, po + 66 * i + 33, none⟩))).put (some 54) (p.bh.v)).put (some 55) (zId.v)).put (some 56) (.bool false)).put (some 57) (.bool false)).put (some 58) (undef)).put (some 59) (undef)).put (some 60) (.bool false)).put (some 61) (.bool false) → Q .normal a' w') :
    (Code.region 10 btw10_ops false).wp Try.prog Q a w := by
  refine wp_region_list ?_
  change wpList _ _ _ [btw10_o0, btw10_o1, btw10_o2, btw10_o3, btw10_o4, btw10_o5, btw10_o6, btw10_o7, btw10_o8, btw10_o9, btw10_o10, btw10_o11, btw10_o12, btw10_o13, btw10_o14, btw10_o15, btw10_o16, btw10_o17, btw10_o18, btw10_o19, btw10_o20, btw10_o21, btw10_o22] _ _
  refine qv (v := .int .i64 (n : Int)) (by rfl) (exec_move rfl t6) (fun a0 e0 => ?_)
  rw [← e0] at h
  have z0 := pz e0 hsz
  replace t0 := pk e0 t0
  replace t3 := pk e0 t3
  replace t4 := pk e0 t4
  replace t6 := pk e0 t6
  have t39 := pq e0 hsz
  clear e0 hsz
  refine qv (v := .pointer (some ⟨sb, 0, none⟩)) (by rfl) (exec_move rfl t3) (fun a1 e1 => ?_)
  rw [← e1] at h
  have z1 := pz e1 z0
  replace t0 := pk e1 t0
  replace t4 := pk e1 t4
  replace t6 := pk e1 t6
  replace t39 := pk e1 t39
  clear t3
  have t40 := pq e1 z0
  clear e1 z0
  refine qv (v := .slice (some ⟨pb, po, none⟩) m pc) (by rfl) (exec_move rfl t0) (fun a2 e2 => ?_)
  rw [← e2] at h
  have z2 := pz e2 z1
  replace t0 := pk e2 t0
  replace t4 := pk e2 t4
  replace t6 := pk e2 t6
  replace t39 := pk e2 t39
  replace t40 := pk e2 t40
  have t41 := pq e2 z1
  clear e2 z1
  refine qv (v := .int .i64 (i : Int)) (by rfl) (exec_move rfl t4) (fun a3 e3 => ?_)
  rw [← e3] at h
  have z3 := pz e3 z2
  replace t0 := pk e3 t0
  replace t4 := pk e3 t4
  replace t6 := pk e3 t6
  replace t39 := pk e3 t39
  replace t40 := pk e3 t40
  replace t41 := pk e3 t41
  have t42 := pq e3 z2
  clear e3 z2
  refine qv (v := .pointer (some ⟨pb, po + 66 * i, none⟩)) (by rfl) (exec_indexAt rfl t41 t42 (ix_put hi hm _)) (fun a4 e4 => ?_)
  rw [← e4] at h
  have z4 := pz e4 z3
  replace t0 := pk e4 t0
  replace t4 := pk e4 t4
  replace t6 := pk e4 t6
  replace t39 := pk e4 t39
  replace t40 := pk e4 t40
  clear t41 t42
  have t43 := pq e4 z3
  clear e4 z3
  refine qv (v := .pointer (some ⟨pb, po + 66 * i + 33, none⟩)) (by rfl) (exec_fieldAt rfl t43 (fg_55_1 _ _ _)) (fun a5 e5 => ?_)
  rw [← e5] at h
  have z5 := pz e5 z4
  replace t0 := pk e5 t0
  replace t4 := pk e5 t4
  replace t6 := pk e5 t6
  replace t39 := pk e5 t39
  replace t40 := pk e5 t40
  clear t43
  have t44 := pq e5 z4
  clear e5 z4
  refine qv (v := p.bh.v) (by rfl) (exec_load rfl t44 (ld_pbh hp h0)) (fun a6 e6 => ?_)
  rw [← e6] at h
  have z6 := pz e6 z5
  replace t0 := pk e6 t0
  replace t4 := pk e6 t4
  replace t6 := pk e6 t6
  replace t39 := pk e6 t39
  replace t40 := pk e6 t40
  clear t44
  have t45 := pq e6 z5
  clear e6 z5
  refine qc (by rfl) (by unfold btw10_o7; go_simp) (CR) (fun e x7 hx => ?_)
  obtain ⟨rfl, R1, HF⟩ := hx
  refine ⟨_, rfl, fun a7 e7 => ?_⟩
  rw [← e7] at h
  have z7 := pz e7 z6
  replace t0 := pk e7 t0
  replace t4 := pk e7 t4
  replace t6 := pk e7 t6
  replace t39 := pk e7 t39
  clear t40 t45
  have t46 := pq e7 z6
  clear e7 z6
  refine qv (v := .int .i64 (r2 + 1)) (by rfl) (ex_add rfl t46 rfl hov) (fun a8 e8 => ?_)
  rw [← e8] at h
  have z8 := pz e8 z7
  replace t0 := pk e8 t0
  replace t4 := pk e8 t4
  replace t6 := pk e8 t6
  replace t39 := pk e8 t39
  clear t46
  have t47 := pq e8 z7
  clear e8 z7
  refine qv (v := .bool false) (by rfl) (ex_neq rfl t39 t47 hne) (fun a9 e9 => ?_)
  rw [← e9] at h
  have z9 := pz e9 z8
  replace t0 := pk e9 t0
  replace t4 := pk e9 t4
  replace t6 := pk e9 t6
  clear t39 t47
  have t48 := pq e9 z8
  clear e9 z8
  refine qv (v := .bool false) (by rfl) (exec_move rfl t48) (fun a10 e10 => ?_)
  rw [← e10] at h
  have z10 := pz e10 z9
  replace t0 := pk e10 t0
  replace t4 := pk e10 t4
  replace t6 := pk e10 t6
  clear t48
  have t49 := pq e10 z9
  clear e10 z9
  refine qv (v := .slice (some ⟨pb, po, none⟩) m pc) (by simp [Region.wanted, yielded, btw10_ops, btw10_o11, btw10_o10, tget z10 (by decide) t49]) (exec_move rfl t0) (fun a11 e11 => ?_)
  rw [← e11] at h
  have z11 := pz e11 z10
  replace t4 := pk e11 t4
  replace t6 := pk e11 t6
  replace t49 := pk e11 t49
  clear t0
  have t50 := pq e11 z10
  clear e11 z10
  refine qv (v := .int .i64 (i : Int)) (by simp [Region.wanted, yielded, btw10_ops, btw10_o12, btw10_o10, tget z11 (by decide) t49]) (exec_move rfl t4) (fun a12 e12 => ?_)
  rw [← e12] at h
  have z12 := pz e12 z11
  replace t6 := pk e12 t6
  replace t49 := pk e12 t49
  replace t50 := pk e12 t50
  clear t4
  have t51 := pq e12 z11
  clear e12 z11
  refine qv (v := .pointer (some ⟨pb, po + 66 * i, none⟩)) (by simp [Region.wanted, yielded, btw10_ops, btw10_o13, btw10_o10, tget z12 (by decide) t49]) (exec_indexAt rfl t50 t51 (ix_put hi hm _)) (fun a13 e13 => ?_)
  rw [← e13] at h
  have z13 := pz e13 z12
  replace t6 := pk e13 t6
  replace t49 := pk e13 t49
  clear t50 t51
  have t52 := pq e13 z12
  clear e13 z12
  refine qv (v := .pointer (some ⟨pb, po + 66 * i + 33, none⟩)) (by simp [Region.wanted, yielded, btw10_ops, btw10_o14, btw10_o10, tget z13 (by decide) t49]) (exec_fieldAt rfl t52 (fg_55_1 _ _ _)) (fun a14 e14 => ?_)
  rw [← e14] at h
  have z14 := pz e14 z13
  replace t6 := pk e14 t6
  replace t49 := pk e14 t49
  clear t52
  have t53 := pq e14 z13
  clear e14 z13
  refine qv (v := p.bh.v) (by simp [Region.wanted, yielded, btw10_ops, btw10_o15, btw10_o10, tget z14 (by decide) t49]) (exec_load rfl t53 (ld_pbh hp R1)) (fun a15 e15 => ?_)
  rw [← e15] at h
  have z15 := pz e15 z14
  replace t6 := pk e15 t6
  replace t49 := pk e15 t49
  clear t53
  have t54 := pq e15 z14
  clear e15 z14
  refine qv (v := zId.v) (by simp [Region.wanted, yielded, btw10_ops, btw10_o16, btw10_o10, tget z15 (by decide) t49]) (exec_build0 rfl (build_id _)) (fun a16 e16 => ?_)
  rw [← e16] at h
  have z16 := pz e16 z15
  replace t6 := pk e16 t6
  replace t49 := pk e16 t49
  replace t54 := pk e16 t54
  have t55 := pq e16 z15
  clear e16 z15
  refine qv (v := .bool false) (by simp [Region.wanted, yielded, btw10_ops, btw10_o17, btw10_o10, tget z16 (by decide) t49]) (ex_eqlI rfl t54 t55 hp.bh zId_ok hz) (fun a17 e17 => ?_)
  rw [← e17] at h
  have z17 := pz e17 z16
  replace t6 := pk e17 t6
  replace t49 := pk e17 t49
  clear t54 t55
  have t56 := pq e17 z16
  clear e17 z16
  refine qv (v := .bool false) (by simp [Region.wanted, yielded, btw10_ops, btw10_o18, btw10_o10, tget z17 (by decide) t49]) (exec_move rfl t56) (fun a18 e18 => ?_)
  rw [← e18] at h
  have z18 := pz e18 z17
  replace t6 := pk e18 t6
  replace t49 := pk e18 t49
  clear t56
  have t57 := pq e18 z17
  clear e18 z17
  refine qn (by simp [Region.wanted, yielded, btw10_ops, btw10_o19, btw10_o18, tget z18 (by decide) t57]) (fun a19 e19 => ?_)
  rw [← e19] at h
  have z19 := pz e19 z18
  replace t49 := pk e19 t49
  replace t57 := pk e19 t57
  clear t6
  have t58 := pq e19 z18
  clear e19 z18
  refine qn (by simp [Region.wanted, yielded, btw10_ops, btw10_o20, btw10_o18, tget z19 (by decide) t57]) (fun a20 e20 => ?_)
  rw [← e20] at h
  have z20 := pz e20 z19
  replace t49 := pk e20 t49
  replace t57 := pk e20 t57
  clear t58
  have t59 := pq e20 z19
  clear e20 z19
  refine qv (v := .bool false) (by simp [Region.wanted, yielded, btw10_ops, btw10_o21, btw10_o10, tget z20 (by decide) t49]) (by unfold btw10_o21; go_simp) (fun a21 e21 => ?_)
  rw [← e21] at h
  have z21 := pz e21 z20
  replace t49 := pk e21 t49
  clear t57 t59
  have t60 := pq e21 z20
  clear e21 z20
  refine qv (v := .bool false) (by rfl) (by unfold btw10_o22; go_simp) (fun a22 e22 => ?_)
  rw [← e22] at h
  have z22 := pz e22 z21
  clear t49 t60
  clear e22 z21
  exact wpList_nil (h _ _ (HF) rfl)
def btw13_o0 : Oper := { dst := some 64, op := Op.move (Operand.tmp 7), type := 47, pos := "law.go:186", after := #[], guard := none }
def btw13_o1 : Oper := { dst := some 65, op := Op.call { callee := Callee.builtin Builtin.len, args := #[Operand.tmp 64], argTypes := #[47] }, type := 3, pos := "law.go:186", after := #[{ on := 0, ground := Ground.data }], guard := none }
def btw13_o2 : Oper := { dst := some 66, op := Op.move (Operand.tmp 5), type := 47, pos := "law.go:186", after := #[], guard := none }
def btw13_o3 : Oper := { dst := some 67, op := Op.call { callee := Callee.builtin Builtin.len, args := #[Operand.tmp 66], argTypes := #[47] }, type := 3, pos := "law.go:186", after := #[{ on := 2, ground := Ground.data }], guard := none }
def btw13_o4 : Oper := { dst := some 68, op := Op.binOp BinOp.add 3 (Operand.tmp 67) (Operand.const (Value.int IntKind.i64 1)) 3, type := 3, pos := "law.go:186", after := #[{ on := 3, ground := Ground.data }], guard := none }
def btw13_o5 : Oper := { dst := some 69, op := Op.binOp BinOp.neq 3 (Operand.tmp 65) (Operand.tmp 68) 3, type := 4, pos := "law.go:186", after := #[{ on := 1, ground := Ground.data }, { on := 4, ground := Ground.data }], guard := none }
def btw13_o6 : Oper := { dst := some 70, op := Op.move (Operand.tmp 69), type := 4, pos := "law.go:186", after := #[{ on := 5, ground := Ground.data }], guard := none }
def btw13_o7 : Oper := { dst := some 71, op := Op.move (Operand.tmp 7), type := 47, pos := "law.go:186", after := #[{ on := 6, ground := Ground.guard }], guard := some (6, false) }
def btw13_o8 : Oper := { dst := some 72, op := Op.move (Operand.tmp 6), type := 3, pos := "law.go:186", after := #[{ on := 6, ground := Ground.guard }], guard := some (6, false) }
def btw13_o9 : Oper := { dst := some 73, op := Op.slice 47 (Operand.tmp 71) none (some (Operand.tmp 72)) none, type := 47, pos := "law.go:186", after := #[{ on := 7, ground := Ground.data }, { on := 8, ground := Ground.data }, { on := 6, ground := Ground.guard }], guard := some (6, false) }
def btw13_o10 : Oper := { dst := some 74, op := Op.move (Operand.tmp 5), type := 47, pos := "law.go:186", after := #[{ on := 6, ground := Ground.guard }], guard := some (6, false) }
def btw13_o11 : Oper := { dst := some 75, op := Op.move (Operand.tmp 6), type := 3, pos := "law.go:186", after := #[{ on := 6, ground := Ground.guard }], guard := some (6, false) }
def btw13_o12 : Oper := { dst := some 76, op := Op.slice 47 (Operand.tmp 74) none (some (Operand.tmp 75)) none, type := 47, pos := "law.go:186", after := #[{ on := 10, ground := Ground.data }, { on := 11, ground := Ground.data }, { on := 6, ground := Ground.guard }], guard := some (6, false) }
def btw13_o13 : Oper := { dst := some 77, op := Op.call { callee := Callee.value (Operand.func 26), args := #[Operand.tmp 73, Operand.tmp 76], argTypes := #[47, 47] }, type := 4, pos := "law.go:186", after := #[{ on := 9, ground := Ground.data }, { on := 12, ground := Ground.data }, { on := 6, ground := Ground.chain }, { on := 6, ground := Ground.guard }], guard := some (6, false) }
def btw13_o14 : Oper := { dst := some 78, op := Op.unOp UnOp.not 4 (Operand.tmp 77), type := 4, pos := "law.go:186", after := #[{ on := 13, ground := Ground.data }, { on := 6, ground := Ground.guard }], guard := some (6, false) }
def btw13_o15 : Oper := { dst := some 79, op := Op.pick (Operand.tmp 70) (Operand.const (Value.bool true)) (Operand.tmp 78), type := 4, pos := "law.go:186", after := #[{ on := 6, ground := Ground.data }, { on := 14, ground := Ground.data }], guard := none }
def btw13_o16 : Oper := { dst := some 80, op := Op.move (Operand.tmp 79), type := 4, pos := "law.go:186", after := #[{ on := 15, ground := Ground.data }, { on := 13, ground := Ground.chain }], guard := none }
def btw13_o17 : Oper := { dst := some 81, op := Op.move (Operand.tmp 7), type := 47, pos := "law.go:186", after := #[{ on := 16, ground := Ground.guard }], guard := some (16, false) }
def btw13_o18 : Oper := { dst := some 82, op := Op.move (Operand.tmp 6), type := 3, pos := "law.go:186", after := #[{ on := 16, ground := Ground.guard }], guard := some (16, false) }
def btw13_o19 : Oper := { dst := some 83, op := Op.binOp BinOp.add 3 (Operand.tmp 82) (Operand.const (Value.int IntKind.i64 1)) 3, type := 3, pos := "law.go:186", after := #[{ on := 18, ground := Ground.data }, { on := 16, ground := Ground.guard }], guard := some (16, false) }
def btw13_o20 : Oper := { dst := some 84, op := Op.slice 47 (Operand.tmp 81) (some (Operand.tmp 83)) none none, type := 47, pos := "law.go:186", after := #[{ on := 17, ground := Ground.data }, { on := 19, ground := Ground.data }, { on := 16, ground := Ground.guard }], guard := some (16, false) }
def btw13_o21 : Oper := { dst := some 85, op := Op.move (Operand.tmp 5), type := 47, pos := "law.go:186", after := #[{ on := 16, ground := Ground.guard }], guard := some (16, false) }
def btw13_o22 : Oper := { dst := some 86, op := Op.move (Operand.tmp 6), type := 3, pos := "law.go:186", after := #[{ on := 16, ground := Ground.guard }], guard := some (16, false) }
def btw13_o23 : Oper := { dst := some 87, op := Op.slice 47 (Operand.tmp 85) (some (Operand.tmp 86)) none none, type := 47, pos := "law.go:186", after := #[{ on := 21, ground := Ground.data }, { on := 22, ground := Ground.data }, { on := 16, ground := Ground.guard }], guard := some (16, false) }
def btw13_o24 : Oper := { dst := some 88, op := Op.call { callee := Callee.value (Operand.func 26), args := #[Operand.tmp 84, Operand.tmp 87], argTypes := #[47, 47] }, type := 4, pos := "law.go:186", after := #[{ on := 20, ground := Ground.data }, { on := 23, ground := Ground.data }, { on := 16, ground := Ground.chain }, { on := 16, ground := Ground.guard }], guard := some (16, false) }
def btw13_o25 : Oper := { dst := some 89, op := Op.unOp UnOp.not 4 (Operand.tmp 88), type := 4, pos := "law.go:186", after := #[{ on := 24, ground := Ground.data }, { on := 16, ground := Ground.guard }], guard := some (16, false) }
def btw13_o26 : Oper := { dst := some 90, op := Op.pick (Operand.tmp 80) (Operand.const (Value.bool true)) (Operand.tmp 89), type := 4, pos := "law.go:186", after := #[{ on := 16, ground := Ground.data }, { on := 25, ground := Ground.data }], guard := none }
def btw13_ops : Array Oper := #[btw13_o0, btw13_o1, btw13_o2, btw13_o3, btw13_o4, btw13_o5, btw13_o6, btw13_o7, btw13_o8, btw13_o9, btw13_o10, btw13_o11, btw13_o12, btw13_o13, btw13_o14, btw13_o15, btw13_o16, btw13_o17, btw13_o18, btw13_o19, btw13_o20, btw13_o21, btw13_o22, btw13_o23, btw13_o24, btw13_o25, btw13_o26]
set_option maxRecDepth 100000 in
set_option maxHeartbeats 4000000 in
theorem btw13 {m n : Nat} {wa na : Option Addr} {wc nc : Nat} {u1 u2 u3 u4 : Value} (Fin : World → Prop) (a : Act) (w : World) (Q : Exit → Act → World → Prop) (hsz : a.tmps.size = 96)
    (t5 : a.tmps.getD 5 undef = .slice wa m wc)
    (t6 : a.tmps.getD 6 undef = .int .i64 (n : Int))
    (t7 : a.tmps.getD 7 undef = .slice na (m + 1) nc)
    (hm1 : m + 1 ≤ 9223372036854775807) (hn1 : n + 1 ≤ 9223372036854775807) (E1 : ∀ W, (Instr.sliceAt 47 (.slice na (m + 1) nc) none (some (.int .i64 (n : Int))) none).run Try.prog W = .ok u1 W) (E2 : ∀ W, (Instr.sliceAt 47 (.slice wa m wc) none (some (.int .i64 (n : Int))) none).run Try.prog W = .ok u2 W) (E3 : ∀ W, (Instr.sliceAt 47 (.slice na (m + 1) nc) (some (.int .i64 ((n + 1 : Nat) : Int))) none none).run Try.prog W = .ok u3 W) (E4 : ∀ W, (Instr.sliceAt 47 (.slice wa m wc) (some (.int .i64 (n : Int))) none none).run Try.prog W = .ok u4 W) (CS : Calls Try.prog 26 #[u1, u2] w.drew fun e w' => e = .returned (.bool true) ∧ Calls Try.prog 26 #[u3, u4] w' fun e2 w2 => e2 = .returned (.bool true) ∧ Fin w2)
    (h : ∀ (a' : Act) (w' : World), Fin w' → a' = (((((((((((((((((((((((((((a).put (some 64) (.slice na (m + 1) nc)).put (some 65) (.int .i64 ((m + 1 : Nat) : Int))).put (some 66) (.slice wa m wc)).put (some 67) (.int .i64 (m : Int))).put (some 68) (.int .i64 ((m + 1 : Nat) : Int))).put (some 69) (.bool false)).put (some 70) (.bool false)).put (some 71) (.slice na (m + 1) nc)).put (some 72) (.int .i64 (n : Int))).put (some 73) (u1)).put (some 74) (.slice wa m wc)).put (some 75) (.int .i64 (n : Int))).put (some 76) (u2)).put (some 77) (.bool true)).put (some 78) (.bool false)).put (some 79) (.bool false)).put (some 80) (.bool false)).put (some 81) (.slice na (m + 1) nc)).put (some 82) (.int .i64 (n : Int))).put (some 83) (.int .i64 ((n + 1 : Nat) : Int))).put (some 84) (u3)).put (some 85) (.slice wa m wc)).put (some 86) (.int .i64 (n : Int))).put (some 87) (u4)).put (some 88) (.bool true)).put (some 89) (.bool false)).put (some 90) (.bool false) → Q .normal a' w') :
    (Code.region 13 btw13_ops true).wp Try.prog Q a w := by
  refine wp_region_noPanic ?_
  refine wp_region_held_drew (S := fun w' => True) (by kernel_rfl) (trivial) (fun hHeld => ?_)
  refine wpAnyH_take (i := 0) (oi := btw13_o0) (v := .slice na (m + 1) nc) rfl (by kernel_rfl) (by kernel_rfl) (by kernel_rfl) (fun _ _ _ h => h) (Or.inl ⟨by rfl, fun w1 hw => exec_move rfl t7⟩) hHeld ?_
  change wpAnyH _ _ _ _ _ _ _ (a.put (some 64) (.slice na (m + 1) nc)) _
  obtain ⟨a0, e0⟩ : ∃ act, act = a.put (some 64) (.slice na (m + 1) nc) := ⟨_, rfl⟩
  rw [← e0] at h ⊢
  have z0 := pz e0 hsz
  replace t5 := pk e0 t5
  replace t6 := pk e0 t6
  replace t7 := pk e0 t7
  have t64 := pq e0 hsz
  clear e0 hsz
  refine wpAnyH_take (i := 1) (oi := btw13_o1) (v := .int .i64 ((m + 1 : Nat) : Int)) rfl (by kernel_rfl) (by kernel_rfl) (by kernel_rfl) (fun _ _ _ h => h) (Or.inl ⟨by rfl, fun w1 hw => exec_len rfl t64 (len_ids _ _ _ _ _)⟩) hHeld ?_
  change wpAnyH _ _ _ _ _ _ _ (a0.put (some 65) (.int .i64 ((m + 1 : Nat) : Int))) _
  obtain ⟨a1, e1⟩ : ∃ act, act = a0.put (some 65) (.int .i64 ((m + 1 : Nat) : Int)) := ⟨_, rfl⟩
  rw [← e1] at h ⊢
  have z1 := pz e1 z0
  replace t5 := pk e1 t5
  replace t6 := pk e1 t6
  replace t7 := pk e1 t7
  clear t64
  have t65 := pq e1 z0
  clear e1 z0
  refine wpAnyH_take (i := 2) (oi := btw13_o2) (v := .slice wa m wc) rfl (by kernel_rfl) (by kernel_rfl) (by kernel_rfl) (fun _ _ _ h => h) (Or.inl ⟨by rfl, fun w1 hw => exec_move rfl t5⟩) hHeld ?_
  change wpAnyH _ _ _ _ _ _ _ (a1.put (some 66) (.slice wa m wc)) _
  obtain ⟨a2, e2⟩ : ∃ act, act = a1.put (some 66) (.slice wa m wc) := ⟨_, rfl⟩
  rw [← e2] at h ⊢
  have z2 := pz e2 z1
  replace t5 := pk e2 t5
  replace t6 := pk e2 t6
  replace t7 := pk e2 t7
  replace t65 := pk e2 t65
  have t66 := pq e2 z1
  clear e2 z1
  refine wpAnyH_take (i := 3) (oi := btw13_o3) (v := .int .i64 (m : Int)) rfl (by kernel_rfl) (by kernel_rfl) (by kernel_rfl) (fun _ _ _ h => h) (Or.inl ⟨by rfl, fun w1 hw => exec_len rfl t66 (len_ids _ _ _ _ _)⟩) hHeld ?_
  change wpAnyH _ _ _ _ _ _ _ (a2.put (some 67) (.int .i64 (m : Int))) _
  obtain ⟨a3, e3⟩ : ∃ act, act = a2.put (some 67) (.int .i64 (m : Int)) := ⟨_, rfl⟩
  rw [← e3] at h ⊢
  have z3 := pz e3 z2
  replace t5 := pk e3 t5
  replace t6 := pk e3 t6
  replace t7 := pk e3 t7
  replace t65 := pk e3 t65
  clear t66
  have t67 := pq e3 z2
  clear e3 z2
  refine wpAnyH_take (i := 4) (oi := btw13_o4) (v := .int .i64 ((m + 1 : Nat) : Int)) rfl (by kernel_rfl) (by kernel_rfl) (by kernel_rfl) (fun _ _ _ h => h) (Or.inl ⟨by rfl, fun w1 hw => ex_addN rfl t67 rfl hm1⟩) hHeld ?_
  change wpAnyH _ _ _ _ _ _ _ (a3.put (some 68) (.int .i64 ((m + 1 : Nat) : Int))) _
  obtain ⟨a4, e4⟩ : ∃ act, act = a3.put (some 68) (.int .i64 ((m + 1 : Nat) : Int)) := ⟨_, rfl⟩
  rw [← e4] at h ⊢
  have z4 := pz e4 z3
  replace t5 := pk e4 t5
  replace t6 := pk e4 t6
  replace t7 := pk e4 t7
  replace t65 := pk e4 t65
  clear t67
  have t68 := pq e4 z3
  clear e4 z3
  refine wpAnyH_take (i := 5) (oi := btw13_o5) (v := .bool false) rfl (by kernel_rfl) (by kernel_rfl) (by kernel_rfl) (fun _ _ _ h => h) (Or.inl ⟨by rfl, fun w1 hw => ex_neq rfl t65 t68 (by simp)⟩) hHeld ?_
  change wpAnyH _ _ _ _ _ _ _ (a4.put (some 69) (.bool false)) _
  obtain ⟨a5, e5⟩ : ∃ act, act = a4.put (some 69) (.bool false) := ⟨_, rfl⟩
  rw [← e5] at h ⊢
  have z5 := pz e5 z4
  replace t5 := pk e5 t5
  replace t6 := pk e5 t6
  replace t7 := pk e5 t7
  clear t65 t68
  have t69 := pq e5 z4
  clear e5 z4
  refine wpAnyH_take (i := 6) (oi := btw13_o6) (v := .bool false) rfl (by kernel_rfl) (by kernel_rfl) (by kernel_rfl) (fun _ _ _ h => h) (Or.inl ⟨by rfl, fun w1 hw => exec_move rfl t69⟩) hHeld ?_
  change wpAnyH _ _ _ _ _ _ _ (a5.put (some 70) (.bool false)) _
  obtain ⟨a6, e6⟩ : ∃ act, act = a5.put (some 70) (.bool false) := ⟨_, rfl⟩
  rw [← e6] at h ⊢
  have z6 := pz e6 z5
  replace t5 := pk e6 t5
  replace t6 := pk e6 t6
  replace t7 := pk e6 t7
  clear t69
  have t70 := pq e6 z5
  clear e6 z5
  refine wpAnyH_take (i := 7) (oi := btw13_o7) (v := .slice na (m + 1) nc) rfl (by kernel_rfl) (by kernel_rfl) (by kernel_rfl) (fun _ _ _ h => h) (Or.inl ⟨by simp [Region.wanted, yielded, btw13_ops, btw13_o7, btw13_o6, tget z6 (by decide) t70], fun w1 hw => exec_move rfl t7⟩) hHeld ?_
  change wpAnyH _ _ _ _ _ _ _ (a6.put (some 71) (.slice na (m + 1) nc)) _
  obtain ⟨a7, e7⟩ : ∃ act, act = a6.put (some 71) (.slice na (m + 1) nc) := ⟨_, rfl⟩
  rw [← e7] at h ⊢
  have z7 := pz e7 z6
  replace t5 := pk e7 t5
  replace t6 := pk e7 t6
  replace t7 := pk e7 t7
  replace t70 := pk e7 t70
  have t71 := pq e7 z6
  clear e7 z6
  refine wpAnyH_take (i := 8) (oi := btw13_o8) (v := .int .i64 (n : Int)) rfl (by kernel_rfl) (by kernel_rfl) (by kernel_rfl) (fun _ _ _ h => h) (Or.inl ⟨by simp [Region.wanted, yielded, btw13_ops, btw13_o8, btw13_o6, tget z7 (by decide) t70], fun w1 hw => exec_move rfl t6⟩) hHeld ?_
  change wpAnyH _ _ _ _ _ _ _ (a7.put (some 72) (.int .i64 (n : Int))) _
  obtain ⟨a8, e8⟩ : ∃ act, act = a7.put (some 72) (.int .i64 (n : Int)) := ⟨_, rfl⟩
  rw [← e8] at h ⊢
  have z8 := pz e8 z7
  replace t5 := pk e8 t5
  replace t6 := pk e8 t6
  replace t7 := pk e8 t7
  replace t70 := pk e8 t70
  replace t71 := pk e8 t71
  have t72 := pq e8 z7
  clear e8 z7
  refine wpAnyH_take (i := 9) (oi := btw13_o9) (v := u1) rfl (by kernel_rfl) (by kernel_rfl) (by kernel_rfl) (fun _ _ _ h => h) (Or.inl ⟨by simp [Region.wanted, yielded, btw13_ops, btw13_o9, btw13_o6, tget z8 (by decide) t70], fun w1 hw => exec_slice rfl t71 rfl (congrArg some t72) rfl (E1 _)⟩) hHeld ?_
  change wpAnyH _ _ _ _ _ _ _ (a8.put (some 73) (u1)) _
  obtain ⟨a9, e9⟩ : ∃ act, act = a8.put (some 73) (u1) := ⟨_, rfl⟩
  rw [← e9] at h ⊢
  have z9 := pz e9 z8
  replace t5 := pk e9 t5
  replace t6 := pk e9 t6
  replace t7 := pk e9 t7
  replace t70 := pk e9 t70
  clear t71 t72
  have t73 := pq e9 z8
  clear e9 z8
  refine wpAnyH_take (i := 10) (oi := btw13_o10) (v := .slice wa m wc) rfl (by kernel_rfl) (by kernel_rfl) (by kernel_rfl) (fun _ _ _ h => h) (Or.inl ⟨by simp [Region.wanted, yielded, btw13_ops, btw13_o10, btw13_o6, tget z9 (by decide) t70], fun w1 hw => exec_move rfl t5⟩) hHeld ?_
  change wpAnyH _ _ _ _ _ _ _ (a9.put (some 74) (.slice wa m wc)) _
  obtain ⟨a10, e10⟩ : ∃ act, act = a9.put (some 74) (.slice wa m wc) := ⟨_, rfl⟩
  rw [← e10] at h ⊢
  have z10 := pz e10 z9
  replace t5 := pk e10 t5
  replace t6 := pk e10 t6
  replace t7 := pk e10 t7
  replace t70 := pk e10 t70
  replace t73 := pk e10 t73
  have t74 := pq e10 z9
  clear e10 z9
  refine wpAnyH_take (i := 11) (oi := btw13_o11) (v := .int .i64 (n : Int)) rfl (by kernel_rfl) (by kernel_rfl) (by kernel_rfl) (fun _ _ _ h => h) (Or.inl ⟨by simp [Region.wanted, yielded, btw13_ops, btw13_o11, btw13_o6, tget z10 (by decide) t70], fun w1 hw => exec_move rfl t6⟩) hHeld ?_
  change wpAnyH _ _ _ _ _ _ _ (a10.put (some 75) (.int .i64 (n : Int))) _
  obtain ⟨a11, e11⟩ : ∃ act, act = a10.put (some 75) (.int .i64 (n : Int)) := ⟨_, rfl⟩
  rw [← e11] at h ⊢
  have z11 := pz e11 z10
  replace t5 := pk e11 t5
  replace t6 := pk e11 t6
  replace t7 := pk e11 t7
  replace t70 := pk e11 t70
  replace t73 := pk e11 t73
  replace t74 := pk e11 t74
  have t75 := pq e11 z10
  clear e11 z10
  refine wpAnyH_take (i := 12) (oi := btw13_o12) (v := u2) rfl (by kernel_rfl) (by kernel_rfl) (by kernel_rfl) (fun _ _ _ h => h) (Or.inl ⟨by simp [Region.wanted, yielded, btw13_ops, btw13_o12, btw13_o6, tget z11 (by decide) t70], fun w1 hw => exec_slice rfl t74 rfl (congrArg some t75) rfl (E2 _)⟩) hHeld ?_
  change wpAnyH _ _ _ _ _ _ _ (a11.put (some 76) (u2)) _
  obtain ⟨a12, e12⟩ : ∃ act, act = a11.put (some 76) (u2) := ⟨_, rfl⟩
  rw [← e12] at h ⊢
  have z12 := pz e12 z11
  replace t5 := pk e12 t5
  replace t6 := pk e12 t6
  replace t7 := pk e12 t7
  replace t70 := pk e12 t70
  replace t73 := pk e12 t73
  clear t74 t75
  have t76 := pq e12 z11
  clear e12 z11
  refine wpAnyH_ready (rs := [13]) (by kernel_rfl) (by simp) ?_
  refine AllReadyH.cons (o := btw13_o13) rfl (fun K hK => ?_) AllReadyH.nil
  rw [if_pos (by simp [Region.wanted, yielded, btw13_ops, btw13_o13, btw13_o6, tget z12 (by decide) t70])]
  unfold btw13_o13 at hK ⊢
  go_simp
  refine (CS).mono ?_
  rintro e x13 ⟨rfl, CS2⟩
  try go_wp2_with fail
  refine hK.out _ _ (trivial) (fun hHeld => ?_)
  clear hK K
  change wpAnyH _ _ _ _ _ _ _ (a12.put (some 77) (.bool true)) _
  obtain ⟨a13, e13⟩ : ∃ act, act = a12.put (some 77) (.bool true) := ⟨_, rfl⟩
  rw [← e13] at h ⊢
  have z13 := pz e13 z12
  replace t5 := pk e13 t5
  replace t6 := pk e13 t6
  replace t7 := pk e13 t7
  replace t70 := pk e13 t70
  clear t73 t76
  have t77 := pq e13 z12
  clear e13 z12
  refine wpAnyH_take (i := 14) (oi := btw13_o14) (v := .bool false) rfl (by kernel_rfl) (by kernel_rfl) (by kernel_rfl) (fun _ _ _ h => h) (Or.inl ⟨by simp [Region.wanted, yielded, btw13_ops, btw13_o14, btw13_o6, tget z13 (by decide) t70], fun w1 hw => by unfold btw13_o14; go_simp⟩) hHeld ?_
  change wpAnyH _ _ _ _ _ _ _ (a13.put (some 78) (.bool false)) _
  obtain ⟨a14, e14⟩ : ∃ act, act = a13.put (some 78) (.bool false) := ⟨_, rfl⟩
  rw [← e14] at h ⊢
  have z14 := pz e14 z13
  replace t5 := pk e14 t5
  replace t6 := pk e14 t6
  replace t7 := pk e14 t7
  replace t70 := pk e14 t70
  clear t77
  have t78 := pq e14 z13
  clear e14 z13
  refine wpAnyH_take (i := 15) (oi := btw13_o15) (v := .bool false) rfl (by kernel_rfl) (by kernel_rfl) (by kernel_rfl) (fun _ _ _ h => h) (Or.inl ⟨by rfl, fun w1 hw => by unfold btw13_o15; go_simp⟩) hHeld ?_
  change wpAnyH _ _ _ _ _ _ _ (a14.put (some 79) (.bool false)) _
  obtain ⟨a15, e15⟩ : ∃ act, act = a14.put (some 79) (.bool false) := ⟨_, rfl⟩
  rw [← e15] at h ⊢
  have z15 := pz e15 z14
  replace t5 := pk e15 t5
  replace t6 := pk e15 t6
  replace t7 := pk e15 t7
  clear t70 t78
  have t79 := pq e15 z14
  clear e15 z14
  refine wpAnyH_take (i := 16) (oi := btw13_o16) (v := .bool false) rfl (by kernel_rfl) (by kernel_rfl) (by kernel_rfl) (fun _ _ _ h => h) (Or.inl ⟨by rfl, fun w1 hw => exec_move rfl t79⟩) hHeld ?_
  change wpAnyH _ _ _ _ _ _ _ (a15.put (some 80) (.bool false)) _
  obtain ⟨a16, e16⟩ : ∃ act, act = a15.put (some 80) (.bool false) := ⟨_, rfl⟩
  rw [← e16] at h ⊢
  have z16 := pz e16 z15
  replace t5 := pk e16 t5
  replace t6 := pk e16 t6
  replace t7 := pk e16 t7
  clear t79
  have t80 := pq e16 z15
  clear e16 z15
  refine wpAnyH_take (i := 17) (oi := btw13_o17) (v := .slice na (m + 1) nc) rfl (by kernel_rfl) (by kernel_rfl) (by kernel_rfl) (fun _ _ _ h => h) (Or.inl ⟨by simp [Region.wanted, yielded, btw13_ops, btw13_o17, btw13_o16, tget z16 (by decide) t80], fun w1 hw => exec_move rfl t7⟩) hHeld ?_
  change wpAnyH _ _ _ _ _ _ _ (a16.put (some 81) (.slice na (m + 1) nc)) _
  obtain ⟨a17, e17⟩ : ∃ act, act = a16.put (some 81) (.slice na (m + 1) nc) := ⟨_, rfl⟩
  rw [← e17] at h ⊢
  have z17 := pz e17 z16
  replace t5 := pk e17 t5
  replace t6 := pk e17 t6
  replace t80 := pk e17 t80
  clear t7
  have t81 := pq e17 z16
  clear e17 z16
  refine wpAnyH_take (i := 18) (oi := btw13_o18) (v := .int .i64 (n : Int)) rfl (by kernel_rfl) (by kernel_rfl) (by kernel_rfl) (fun _ _ _ h => h) (Or.inl ⟨by simp [Region.wanted, yielded, btw13_ops, btw13_o18, btw13_o16, tget z17 (by decide) t80], fun w1 hw => exec_move rfl t6⟩) hHeld ?_
  change wpAnyH _ _ _ _ _ _ _ (a17.put (some 82) (.int .i64 (n : Int))) _
  obtain ⟨a18, e18⟩ : ∃ act, act = a17.put (some 82) (.int .i64 (n : Int)) := ⟨_, rfl⟩
  rw [← e18] at h ⊢
  have z18 := pz e18 z17
  replace t5 := pk e18 t5
  replace t6 := pk e18 t6
  replace t80 := pk e18 t80
  replace t81 := pk e18 t81
  have t82 := pq e18 z17
  clear e18 z17
  refine wpAnyH_take (i := 19) (oi := btw13_o19) (v := .int .i64 ((n + 1 : Nat) : Int)) rfl (by kernel_rfl) (by kernel_rfl) (by kernel_rfl) (fun _ _ _ h => h) (Or.inl ⟨by simp [Region.wanted, yielded, btw13_ops, btw13_o19, btw13_o16, tget z18 (by decide) t80], fun w1 hw => ex_addN rfl t82 rfl hn1⟩) hHeld ?_
  change wpAnyH _ _ _ _ _ _ _ (a18.put (some 83) (.int .i64 ((n + 1 : Nat) : Int))) _
  obtain ⟨a19, e19⟩ : ∃ act, act = a18.put (some 83) (.int .i64 ((n + 1 : Nat) : Int)) := ⟨_, rfl⟩
  rw [← e19] at h ⊢
  have z19 := pz e19 z18
  replace t5 := pk e19 t5
  replace t6 := pk e19 t6
  replace t80 := pk e19 t80
  replace t81 := pk e19 t81
  clear t82
  have t83 := pq e19 z18
  clear e19 z18
  refine wpAnyH_take (i := 20) (oi := btw13_o20) (v := u3) rfl (by kernel_rfl) (by kernel_rfl) (by kernel_rfl) (fun _ _ _ h => h) (Or.inl ⟨by simp [Region.wanted, yielded, btw13_ops, btw13_o20, btw13_o16, tget z19 (by decide) t80], fun w1 hw => exec_slice rfl t81 (congrArg some t83) rfl rfl (E3 _)⟩) hHeld ?_
  change wpAnyH _ _ _ _ _ _ _ (a19.put (some 84) (u3)) _
  obtain ⟨a20, e20⟩ : ∃ act, act = a19.put (some 84) (u3) := ⟨_, rfl⟩
  rw [← e20] at h ⊢
  have z20 := pz e20 z19
  replace t5 := pk e20 t5
  replace t6 := pk e20 t6
  replace t80 := pk e20 t80
  clear t81 t83
  have t84 := pq e20 z19
  clear e20 z19
  refine wpAnyH_take (i := 21) (oi := btw13_o21) (v := .slice wa m wc) rfl (by kernel_rfl) (by kernel_rfl) (by kernel_rfl) (fun _ _ _ h => h) (Or.inl ⟨by simp [Region.wanted, yielded, btw13_ops, btw13_o21, btw13_o16, tget z20 (by decide) t80], fun w1 hw => exec_move rfl t5⟩) hHeld ?_
  change wpAnyH _ _ _ _ _ _ _ (a20.put (some 85) (.slice wa m wc)) _
  obtain ⟨a21, e21⟩ : ∃ act, act = a20.put (some 85) (.slice wa m wc) := ⟨_, rfl⟩
  rw [← e21] at h ⊢
  have z21 := pz e21 z20
  replace t6 := pk e21 t6
  replace t80 := pk e21 t80
  replace t84 := pk e21 t84
  clear t5
  have t85 := pq e21 z20
  clear e21 z20
  refine wpAnyH_take (i := 22) (oi := btw13_o22) (v := .int .i64 (n : Int)) rfl (by kernel_rfl) (by kernel_rfl) (by kernel_rfl) (fun _ _ _ h => h) (Or.inl ⟨by simp [Region.wanted, yielded, btw13_ops, btw13_o22, btw13_o16, tget z21 (by decide) t80], fun w1 hw => exec_move rfl t6⟩) hHeld ?_
  change wpAnyH _ _ _ _ _ _ _ (a21.put (some 86) (.int .i64 (n : Int))) _
  obtain ⟨a22, e22⟩ : ∃ act, act = a21.put (some 86) (.int .i64 (n : Int)) := ⟨_, rfl⟩
  rw [← e22] at h ⊢
  have z22 := pz e22 z21
  replace t80 := pk e22 t80
  replace t84 := pk e22 t84
  replace t85 := pk e22 t85
  clear t6
  have t86 := pq e22 z21
  clear e22 z21
  refine wpAnyH_take (i := 23) (oi := btw13_o23) (v := u4) rfl (by kernel_rfl) (by kernel_rfl) (by kernel_rfl) (fun _ _ _ h => h) (Or.inl ⟨by simp [Region.wanted, yielded, btw13_ops, btw13_o23, btw13_o16, tget z22 (by decide) t80], fun w1 hw => exec_slice rfl t85 (congrArg some t86) rfl rfl (E4 _)⟩) hHeld ?_
  change wpAnyH _ _ _ _ _ _ _ (a22.put (some 87) (u4)) _
  obtain ⟨a23, e23⟩ : ∃ act, act = a22.put (some 87) (u4) := ⟨_, rfl⟩
  rw [← e23] at h ⊢
  have z23 := pz e23 z22
  replace t80 := pk e23 t80
  replace t84 := pk e23 t84
  clear t85 t86
  have t87 := pq e23 z22
  clear e23 z22
  refine wpAnyH_ready (rs := [24]) (by kernel_rfl) (by simp) ?_
  refine AllReadyH.cons (o := btw13_o24) rfl (fun K hK => ?_) AllReadyH.nil
  rw [if_pos (by simp [Region.wanted, yielded, btw13_ops, btw13_o24, btw13_o16, tget z23 (by decide) t80])]
  unfold btw13_o24 at hK ⊢
  go_simp
  refine (CS2).mono ?_
  rintro e x24 ⟨rfl, HF⟩
  try go_wp2_with fail
  refine hK.out _ _ (trivial) (fun hHeld => ?_)
  clear hK K
  change wpAnyH _ _ _ _ _ _ _ (a23.put (some 88) (.bool true)) _
  obtain ⟨a24, e24⟩ : ∃ act, act = a23.put (some 88) (.bool true) := ⟨_, rfl⟩
  rw [← e24] at h ⊢
  have z24 := pz e24 z23
  replace t80 := pk e24 t80
  clear t84 t87
  have t88 := pq e24 z23
  clear e24 z23
  refine wpAnyH_take (i := 25) (oi := btw13_o25) (v := .bool false) rfl (by kernel_rfl) (by kernel_rfl) (by kernel_rfl) (fun _ _ _ h => h) (Or.inl ⟨by simp [Region.wanted, yielded, btw13_ops, btw13_o25, btw13_o16, tget z24 (by decide) t80], fun w1 hw => by unfold btw13_o25; go_simp⟩) hHeld ?_
  change wpAnyH _ _ _ _ _ _ _ (a24.put (some 89) (.bool false)) _
  obtain ⟨a25, e25⟩ : ∃ act, act = a24.put (some 89) (.bool false) := ⟨_, rfl⟩
  rw [← e25] at h ⊢
  have z25 := pz e25 z24
  replace t80 := pk e25 t80
  clear t88
  have t89 := pq e25 z24
  clear e25 z24
  refine wpAnyH_take (i := 26) (oi := btw13_o26) (v := .bool false) rfl (by kernel_rfl) (by kernel_rfl) (by kernel_rfl) (fun _ _ _ h => h) (Or.inl ⟨by rfl, fun w1 hw => by unfold btw13_o26; go_simp⟩) hHeld ?_
  change wpAnyH _ _ _ _ _ _ _ (a25.put (some 90) (.bool false)) _
  obtain ⟨a26, e26⟩ : ∃ act, act = a25.put (some 90) (.bool false) := ⟨_, rfl⟩
  rw [← e26] at h ⊢
  have z26 := pz e26 z25
  clear t80 t89
  clear e26 z25
  exact wpAnyH_done (by kernel_rfl) (NoPanic.normal (h _ _ (HF) rfl)) _
end Go.Proofs.Ytpdepbakopdgpaa

namespace Go.Proofs.Ytpdepbakopdgpaa
open Go.RowKit Sq
set_option linter.unusedVariables false
set_option linter.unusedSimpArgs false

theorem put_split {E : List Elt} (ok : SeqOk E) {k b : IdK} (h : insC E k b = 0) : ∃ A B, E = A ++ B ∧ insR E k b = A ++ ⟨k, b, true⟩ :: B ∧ (b = zId ∧ A = [] ∨ b ≠ zId ∧ ∃ A' e, A = A' ++ [e] ∧ e.id = b ∧ ∀ y ∈ A', y.id ≠ b) := by
  obtain ⟨h1, h2, h3⟩ := insC_zero h
  unfold insR
  rw [if_pos h]
  by_cases hz : b = zId
  · exact ⟨[], E, rfl, by unfold putE; rw [if_pos hz]; rfl, .inl ⟨hz, rfl⟩⟩
  · have hb := h3.resolve_left hz
    obtain ⟨e, he, hid⟩ := hasE_iff.1 hb
    obtain ⟨A', B, rfl⟩ := List.append_of_mem he
    have hn : ∀ y ∈ A', y.id ≠ e.id := fun y hy q => by
      have nd := ok.nd
      rw [List.map_append, List.map_cons, List.nodup_append] at nd
      exact nd.2.2 y.id (List.mem_map.2 ⟨y, hy, rfl⟩) e.id (by simp) q
    refine ⟨A' ++ [e], B, by simp, ?_, .inr ⟨hz, A', e, rfl, hid, fun y hy => by rw [← hid]; exact hn y hy⟩⟩
    unfold putE
    rw [if_neg hz, ← hid, insE_mid hn]
    simp
theorem visE_all (E : List Elt) : visE E false = E := List.filter_eq_self.2 fun x _ => rfl
/-- Ranks, and the lists, behind a put. -/
theorem between_pure {E : List Elt} (ok : SeqOk E) {k b : IdK} (h : insC E k b = 0) : ∃ n : Nat, n ≤ E.length ∧ aheadE (insR E k b) false k = (n : Int) ∧ aheadE (insR E k b) false b + 1 = (n : Int) ∧ -1 ≤ aheadE (insR E k b) false b ∧ (b = zId → n = 0) ∧
    (idsE (insR E k b) false).take n = (idsE E false).take n ∧ (idsE (insR E k b) false).drop (n + 1) = (idsE E false).drop n := by
  obtain ⟨h1, h2, h3⟩ := insC_zero h
  obtain ⟨A, B, e1, e2, e3⟩ := put_split ok h
  have hA : ∀ y ∈ A, y.id ≠ k := fun y hy q => by
    have : hasE E k = true := hasE_iff.2 ⟨y, by rw [e1]; simp [hy], q⟩
    rw [h2] at this; cases this
  have hkz : k ≠ zId := fun q => by rw [q] at h1; simp [zId] at h1
  have cnt : ∀ l : List Elt, l.countP (cE false) = l.length := fun l => List.countP_eq_length.2 fun x _ => rfl
  have rk : aheadE (insR E k b) false k = (A.length : Int) := by
    unfold aheadE
    rw [e2, if_pos (hasE_iff.2 ⟨⟨k, b, true⟩, by simp, rfl⟩), takeWhile_mid (fun y hy => by simpa using hA y hy) (by simp), cnt]
  refine ⟨A.length, by rw [e1]; simp, rk, ?_⟩
  have lists : (idsE (insR E k b) false).take A.length = (idsE E false).take A.length ∧ (idsE (insR E k b) false).drop (A.length + 1) = (idsE E false).drop A.length := by
    unfold idsE
    rw [visE_all, visE_all, e2, e1]
    constructor
    · rw [List.map_append, List.map_append, List.take_append_of_le_length (by simp), List.take_append_of_le_length (by simp)]
    · rw [List.map_append, List.map_append, List.map_cons, List.drop_append, List.drop_append]
      simp
  rcases e3 with ⟨hz, hA0⟩ | ⟨hz, A', e, hA', hid, hn⟩
  · have hno : hasE (insR E k b) b = false := by
      rw [e2, hA0]
      cases q : hasE ([] ++ ⟨k, b, true⟩ :: B) b with
      | false => rfl
      | true =>
        exfalso
        obtain ⟨y, hy, hq⟩ := hasE_iff.1 q
        rw [hz] at hq
        simp only [List.nil_append, List.mem_cons] at hy
        rcases hy with rfl | hy
        · exact hkz hq
        · have := (ok.ok y (by rw [e1, hA0]; simpa using hy)).2.2
          rw [hq] at this
          simp [zId] at this
    have rb : aheadE (insR E k b) false b = -1 := by unfold aheadE; rw [hno]; rfl
    rw [rb, hA0]
    exact ⟨rfl, by omega, fun _ => rfl, by rw [hA0] at lists; exact lists.1, by rw [hA0] at lists; exact lists.2⟩
  · have rb : aheadE (insR E k b) false b = (A'.length : Int) := by
      unfold aheadE
      have hh : hasE (insR E k b) b = true := hasE_iff.2 ⟨e, by rw [e2, hA']; simp, hid⟩
      rw [if_pos hh, e2, hA', List.append_assoc, List.cons_append, List.nil_append, takeWhile_mid (fun y hy => by simpa using hn y hy) (by simpa using hid), cnt]
    rw [rb, hA']
    rw [hA'] at lists
    refine ⟨by simp, by omega, fun q => absurd q hz, lists.1, lists.2⟩
theorem szIdR (w : World) : (sizeOf 32).run Try.prog w = .ok 33 w := m_sz szId w
theorem IdsAt.take {w : World} {a : Option Addr} {L : List IdK} (h : IdsAt w a L) (n : Nat) : IdsAt w a (L.take n) := by
  rcases h with rfl | ⟨b, o, e, hl, hr⟩
  · exact .inl (by simp)
  · exact .inr ⟨b, o, e, hl, fun i x hx => hr i x (by rw [List.getElem?_take] at hx; split at hx; exact hx; cases hx)⟩
/-- The parts of a list of Ids that was handed out. -/
theorem OwnI.upto {w : World} {base : Nat} {v : Value} {L : List IdK} (h : OwnI w base v L) (ok : ∀ x ∈ L, x.ok) {n : Nat} (hn : n ≤ L.length) (hl : L.length ≤ 1400000000000) : ∃ a c, (∀ W, (Instr.sliceAt 47 v none (some (.int .i64 (n : Int))) none).run Try.prog W = .ok (.slice a n c) W) ∧ IdsAt w a (L.take n) := by
  obtain ⟨a, c, rfl, hat, hc⟩ := h.open ok
  have h1 : (0 : Int) ≤ (n : Int) ∧ (n : Int) ≤ (c : Int) := by omega
  refine ⟨a, c, fun W => ?_, hat.take n⟩
  cases a with
  | none =>
    simp only [Instr.sliceAt, Instr.slice, Instr.sliceBounds, Instr.sliceBound, run_underlying Try.underlying47, asIntOf, Sem.run_bind, Sem.run_pure, Result.andThen_ok, szIdR]
    rw [if_pos h1]
    simp only [Sem.run_bind, Sem.run_pure, Result.andThen_ok, Int.toNat_natCast]
    simp
  | some ad =>
    simp only [Instr.sliceAt, Instr.slice, Instr.sliceBounds, Instr.sliceBound, run_underlying Try.underlying47, asIntOf, Sem.run_bind, Sem.run_pure, Result.andThen_ok, szIdR]
    rw [if_pos h1]
    simp only [Sem.run_bind, Sem.run_pure, Result.andThen_ok, Int.toNat_natCast]
    obtain ⟨b, o, sp⟩ := ad
    simp [Addr.add]
theorem OwnI.from {w : World} {base : Nat} {v : Value} {L : List IdK} (h : OwnI w base v L) (ok : ∀ x ∈ L, x.ok) {n : Nat} (hn : n ≤ L.length) (hl : L.length ≤ 1400000000000) : ∃ a c, (∀ W, (Instr.sliceAt 47 v (some (.int .i64 (n : Int))) none none).run Try.prog W = .ok (.slice a (L.length - n) c) W) ∧ IdsAt w a (L.drop n) := by
  obtain ⟨a, c, rfl, hat, hc⟩ := h.open ok
  have h2 : (0 : Int) ≤ (n : Int) ∧ (n : Int) ≤ (L.length : Int) := by omega
  cases a with
  | none =>
    refine ⟨none, c - n, fun W => ?_, ?_⟩
    · simp only [Instr.sliceAt, Instr.slice, Instr.sliceBounds, Instr.sliceBound, run_underlying Try.underlying47, asIntOf, Sem.run_bind, Sem.run_pure, Result.andThen_ok, szIdR]
      rw [if_pos h2]
      simp only [Sem.run_bind, Sem.run_pure, Result.andThen_ok, Int.toNat_natCast]
      simp
    · rcases hat with q | ⟨b, o, e, _⟩
      · exact .inl (by rw [q]; simp)
      · cases e
  | some ad =>
    by_cases e : c = n
    · refine ⟨some ad, c - n, fun W => ?_, .inl (List.drop_of_length_le (by omega))⟩
      simp only [Instr.sliceAt, Instr.slice, Instr.sliceBounds, Instr.sliceBound, run_underlying Try.underlying47, asIntOf, Sem.run_bind, Sem.run_pure, Result.andThen_ok, szIdR]
      rw [if_pos h2]
      simp only [Sem.run_bind, Sem.run_pure, Result.andThen_ok, Int.toNat_natCast]
      rw [if_pos e]
    · refine ⟨some (ad.add (n * 33)), c - n, fun W => ?_, ?_⟩
      · simp only [Instr.sliceAt, Instr.slice, Instr.sliceBounds, Instr.sliceBound, run_underlying Try.underlying47, asIntOf, Sem.run_bind, Sem.run_pure, Result.andThen_ok, szIdR]
        rw [if_pos h2]
        simp only [Sem.run_bind, Sem.run_pure, Result.andThen_ok, Int.toNat_natCast]
        rw [if_neg e]
        simp
      · rcases hat with q | ⟨b, o, e2, hl2, hr⟩
        · exact .inl (by rw [q]; simp)
        · cases e2
          refine .inr ⟨b, o + n * 33, by rw [Addr.add_mid], hl2, fun i x hx => ?_⟩
          rw [List.getElem?_drop] at hx
          have := hr (n + i) x hx
          rw [show o + n * 33 + 33 * i = o + 33 * (n + i) by omega]
          exact this
end Go.Proofs.Ytpdepbakopdgpaa

namespace Go.Proofs.Ytpdepbakopdgpaa
open Go.RowKit Sq
set_option linter.unusedVariables false
set_option linter.unusedSimpArgs false

/-- Those that were put behind one, the last one first, each with what stands behind it. -/
def und : Nat → List PutV → IdK → List IdK
  | 0, _, _ => []
  | f + 1, D, b => D.reverse.flatMap (fun p => if p.bh = b then p.id :: und f D p.id else [])
/-- x behind every b. -/
def insAll (L : List IdK) (b x : IdK) : List IdK := L.flatMap (fun y => if y = b then [y, x] else [y])
theorem insAll_app (A B : List IdK) (b x : IdK) : insAll (A ++ B) b x = insAll A b x ++ insAll B b x := by simp [insAll]
theorem insAll_no {A : List IdK} {b x : IdK} (h : ∀ y ∈ A, y ≠ b) : insAll A b x = A := by
  induction A with
  | nil => rfl
  | cons a A ih =>
    have e : insAll (a :: A) b x = insAll [a] b x ++ insAll A b x := insAll_app [a] A b x
    rw [e, ih (fun y hy => h y (by simp [hy]))]
    simp [insAll, h a (by simp)]
theorem insAll_flat {α : Type} (l : List α) (g : α → List IdK) (b x : IdK) : insAll (l.flatMap g) b x = l.flatMap (fun q => insAll (g q) b x) := by
  induction l with
  | nil => rfl
  | cons a l ih => rw [List.flatMap_cons, insAll_app, ih, List.flatMap_cons]
/-- Puts that can all be done, one behind the other. -/
def Vld (D : List PutV) : Prop := (∀ (i : Nat) (p : PutV), D[i]? = some p → ∀ (j : Nat) (q : PutV), D[j]? = some q → q.bh = p.id → i < j) ∧ (∀ p ∈ D, p.id ≠ zId) ∧ ∀ q ∈ D, q.bh = zId ∨ q.bh ∈ D.map (·.id)
theorem flat_congr {α β : Type} {l : List α} {f g : α → List β} (h : ∀ x ∈ l, f x = g x) : l.flatMap f = l.flatMap g := by
  induction l with
  | nil => rfl
  | cons a l ih => rw [List.flatMap_cons, List.flatMap_cons, h a (by simp), ih (fun x hx => h x (by simp [hx]))]
theorem und_put {D : List PutV} {p : PutV} (hv : Vld (D ++ [p])) : ∀ (f j : Nat) (c : IdK), (∀ i q, (D ++ [p])[i]? = some q → q.bh = c → j ≤ i) → D.length + 1 - j ≤ f → c :: und f (D ++ [p]) c = insAll (c :: und f D c) p.bh p.id := by
  have hp : (D ++ [p])[D.length]? = some p := by simp
  intro f
  induction f with
  | zero =>
    intro j c hc hf
    have hne : c ≠ p.bh := fun q => by
      have := hc D.length p hp q.symm
      omega
    simp [und, insAll, hne]
  | succ f ih =>
    intro j c hc hf
    have nx : ∀ f', und f' (D ++ [p]) p.id = [] := fun f' => by
      cases f' with
      | zero => rfl
      | succ f' =>
        unfold und
        rw [List.flatMap_eq_nil_iff]
        intro q hq
        rw [List.mem_reverse] at hq
        obtain ⟨i, hi⟩ := List.getElem?_of_mem hq
        have : q.bh ≠ p.id := fun e => by
          have h1 := hv.1 _ p hp i q hi e
          have h2 := (List.getElem?_eq_some_iff.1 hi).1
          simp at h2
          omega
        rw [if_neg this]
    have e1 : insAll (c :: und (f + 1) D c) p.bh p.id = insAll [c] p.bh p.id ++ insAll (und (f + 1) D c) p.bh p.id := insAll_app [c] _ _ _
    have e2 : insAll (und (f + 1) D c) p.bh p.id = D.reverse.flatMap (fun q => if q.bh = c then q.id :: und f (D ++ [p]) q.id else []) := by
      rw [show und (f + 1) D c = D.reverse.flatMap (fun q => if q.bh = c then q.id :: und f D q.id else []) from rfl, insAll_flat]
      refine flat_congr fun q hq => ?_
      rw [List.mem_reverse] at hq
      by_cases hqc : q.bh = c
      · rw [if_pos hqc, if_pos hqc]
        obtain ⟨i, hi⟩ := List.getElem?_of_mem hq
        have hi' : (D ++ [p])[i]? = some q := by rw [List.getElem?_append_left (List.getElem?_eq_some_iff.1 hi).1]; exact hi
        have hji := hc i q hi' hqc
        exact (ih (i + 1) q.id (fun k r hk hr => hv.1 i q hi' k r hk hr) (by omega)).symm
      · rw [if_neg hqc, if_neg hqc]
        rfl
    rw [e1, e2]
    rw [show und (f + 1) (D ++ [p]) c = (D ++ [p]).reverse.flatMap (fun q => if q.bh = c then q.id :: und f (D ++ [p]) q.id else []) from rfl]
    rw [List.reverse_append, List.reverse_singleton, List.singleton_append, List.flatMap_cons, nx]
    by_cases hpc : p.bh = c
    · rw [if_pos hpc]
      simp [insAll, hpc]
    · rw [if_neg hpc]
      simp [insAll, Ne.symm hpc]
theorem ids_put {E : List Elt} (ok : SeqOk E) {k b : IdK} (h : insC E k b = 0) : zId :: idsE (insR E k b) false = insAll (zId :: idsE E false) b k := by
  obtain ⟨A, B, e1, e2, e3⟩ := put_split ok h
  unfold idsE
  rw [visE_all, visE_all, e2]
  have hz0 : ∀ y ∈ E, y.id ≠ zId := fun y hy q => by
    have := (ok.ok y hy).2.2
    rw [q] at this; simp [zId] at this
  rcases e3 with ⟨hz, hA⟩ | ⟨hz, A', e, hA, hid, hn⟩
  · subst hA
    rw [show (zId :: E.map (·.id)) = [zId] ++ E.map (·.id) from rfl, insAll_app, insAll_no (A := E.map (·.id)) (fun y hy => by
      obtain ⟨z, hz2, rfl⟩ := List.mem_map.1 hy
      rw [hz]; exact hz0 z hz2)]
    rw [e1]
    simp [insAll, hz]
  · have hB : ∀ y ∈ B.map (·.id), y ≠ b := fun y hy q => by
      have nd := ok.nd
      rw [e1, hA, List.map_append, List.map_append, List.append_assoc, List.nodup_append] at nd
      have nd2 := nd.2.1
      simp only [List.map_cons, List.map_nil, List.cons_append, List.nil_append, List.nodup_cons] at nd2
      exact nd2.1 (by rw [hid, ← q]; exact hy)
    rw [e1, hA]
    simp only [List.map_append, List.map_cons, List.map_nil, List.append_assoc, List.cons_append, List.nil_append]
    rw [show (zId :: (A'.map (·.id) ++ e.id :: B.map (·.id))) = [zId] ++ (A'.map (·.id) ++ ([e.id] ++ B.map (·.id))) by simp, insAll_app, insAll_app, insAll_app, insAll_no hB, insAll_no (A := A'.map (·.id)) (fun y hy => by
      obtain ⟨z, hz2, rfl⟩ := List.mem_map.1 hy
      exact hn z hz2)]
    simp [insAll, Ne.symm hz, hid]
theorem vld_snoc {D : List PutV} {p : PutV} (h : Vld D) (hz : p.id ≠ zId) (hn : p.id ∉ D.map (·.id)) (hb : p.bh = zId ∨ p.bh ∈ D.map (·.id)) : Vld (D ++ [p]) := by
  obtain ⟨h1, h2, h3⟩ := h
  have get : ∀ (i : Nat) (x : PutV), (D ++ [p])[i]? = some x → (i < D.length ∧ D[i]? = some x) ∨ (i = D.length ∧ x = p) := fun i x hx => by
    by_cases hi : i < D.length
    · rw [List.getElem?_append_left hi] at hx; exact .inl ⟨hi, hx⟩
    · rw [List.getElem?_append_right (by omega)] at hx
      have : i - D.length = 0 := by have := (List.getElem?_eq_some_iff.1 hx).1; simp at this; omega
      rw [this] at hx
      simp at hx
      exact .inr ⟨by omega, hx.symm⟩
  have hbp : p.bh ≠ p.id := fun e => by
    rcases hb with q | q
    · exact hz (e.symm.trans q)
    · exact hn (e ▸ q)
  refine ⟨fun i x hx j y hy e => ?_, fun x hx => ?_, fun x hx => ?_⟩
  · rcases get i x hx with ⟨i1, i2⟩ | ⟨i1, i2⟩ <;> rcases get j y hy with ⟨j1, j2⟩ | ⟨j1, j2⟩
    · exact h1 i x i2 j y j2 e
    · omega
    · subst i2
      exfalso
      rcases h3 y (List.mem_of_getElem? j2) with q | q
      · exact hz (e.symm.trans q)
      · exact hn (e ▸ q)
    · subst i2 j2
      exact absurd e hbp
  · rcases List.mem_append.1 hx with q | q
    · exact h2 x q
    · rw [List.mem_singleton.1 q]; exact hz
  · rw [List.map_append, List.mem_append]
    rcases List.mem_append.1 hx with q | q
    · exact (h3 x q).imp id .inl
    · rw [List.mem_singleton.1 q]; exact hb.imp id .inl
/-- The order is that of the tree of what was put behind what. -/
theorem tree_pure (l : List PutV) (ok : ∀ x ∈ l, x.ok) : Vld (laidP l).2 ∧ ∀ f, (laidP l).2.length ≤ f → idsE (laidP l).1 false = und f (laidP l).2 zId := by
  revert ok
  refine snoc_ind (P := fun l => (∀ x ∈ l, x.ok) → Vld (laidP l).2 ∧ ∀ f, (laidP l).2.length ≤ f → idsE (laidP l).1 false = und f (laidP l).2 zId) (fun _ => ⟨⟨by simp [laidP], by simp [laidP], by simp [laidP]⟩, fun f _ => by cases f <;> rfl⟩) (fun l p ih ok => ?_) l
  have ok' := fun x hx => ok x (List.mem_append.2 (.inl hx))
  obtain ⟨hv, he⟩ := ih ok'
  have oke := laid_seqok l ok'
  obtain ⟨cl1, cl2⟩ := could_laid l
  have hh : ∀ k, hasE (laidP l).1 k = decide (k ∈ (laidP l).2.map (·.id)) := fun k => by rw [hasE_mem, ← cl1]; exact decide_eq_decide.2 (cl2 k)
  rw [laidP_snoc]
  generalize laidP l = st at *
  unfold layS
  by_cases h : insC st.1 p.id p.bh = 0
  · rw [if_pos h]
    obtain ⟨h1, h2, h3⟩ := insC_zero h
    have hkz : p.id ≠ zId := fun q => by rw [q] at h1; simp [zId] at h1
    have hn : p.id ∉ st.2.map (·.id) := fun q => by rw [hh, decide_eq_true q] at h2; cases h2
    have hb : p.bh = zId ∨ p.bh ∈ st.2.map (·.id) := h3.imp id (fun q => by rw [hh] at q; exact of_decide_eq_true q)
    have hv' := vld_snoc hv hkz hn hb
    refine ⟨hv', fun f hf => ?_⟩
    have e1 := und_put hv' f 0 zId (fun i q _ _ => Nat.zero_le _) (by simp at hf ⊢; omega)
    have e2 := ids_put oke h
    rw [← he f (by simp at hf; omega), ← e2] at e1
    exact (List.cons.inj e1).2.symm
  · rw [if_neg h]
    exact ⟨hv, he⟩
end Go.Proofs.Ytpdepbakopdgpaa

namespace Go.Proofs.Ytpdepbakopdgpaa
open Go.RowKit Sq
set_option linter.unusedVariables false
set_option linter.unusedSimpArgs false

def und7_o0 : Oper := { dst := some 19, op := Op.move (Operand.tmp 0), type := 43, pos := "law.go:200", after := #[], guard := none }
def und7_o1 : Oper := { dst := some 20, op := Op.move (Operand.tmp 8), type := 3, pos := "law.go:200", after := #[], guard := none }
def und7_o2 : Oper := { dst := some 21, op := Op.indexAddr 43 (Operand.tmp 19) (Operand.tmp 20), type := 0, pos := "law.go:200", after := #[{ on := 0, ground := Ground.data }, { on := 1, ground := Ground.data }], guard := none }
def und7_o3 : Oper := { dst := some 22, op := Op.fieldAddr 55 (Operand.tmp 21) 1, type := 0, pos := "law.go:200", after := #[{ on := 2, ground := Ground.data }], guard := none }
def und7_o4 : Oper := { dst := some 23, op := Op.load 32 (Operand.tmp 22), type := 32, pos := "law.go:200", after := #[{ on := 3, ground := Ground.data }], guard := none }
def und7_o5 : Oper := { dst := some 24, op := Op.load 32 (Operand.tmp 4), type := 32, pos := "law.go:200", after := #[], guard := none }
def und7_o6 : Oper := { dst := some 25, op := Op.binOp BinOp.eql 32 (Operand.tmp 23) (Operand.tmp 24) 32, type := 4, pos := "law.go:200", after := #[{ on := 4, ground := Ground.data }, { on := 5, ground := Ground.data }], guard := none }
def und7_ops : Array Oper := #[und7_o0, und7_o1, und7_o2, und7_o3, und7_o4, und7_o5, und7_o6]
set_option maxRecDepth 100000 in
set_option maxHeartbeats 4000000 in
theorem und7 {pb po m pc i : Nat} {p : PutV} {bx : Nat} {b : IdK} {r : Bool} (a : Act) (w : World) (Q : Exit → Act → World → Prop) (hsz : a.tmps.size = 46)
    (t0 : a.tmps.getD 0 undef = .slice (some ⟨pb, po, none⟩) m pc)
    (t4 : a.tmps.getD 4 undef = .pointer (some ⟨bx, 0, none⟩))
    (t8 : a.tmps.getD 8 undef = .int .i64 (i : Int))
    (hp : p.ok) (hi : i < m) (hm : m ≤ 1400000000000) (h0 : w.rangeAt pb (po + 66 * i) p.c) (hb : b.ok) (ib : IdAt w bx b) (hr : decide (p.bh = b) = r)
    (h : ∀ (a' : Act) (w' : World), w' = w.drew → a' = (((((((a).put (some 19) (.slice (some ⟨pb, po, none⟩) m pc)).put (some 20) (.int .i64 (i : Int))).put (some 21) (.pointer (some ⟨pb, po + 66 * i, none⟩))).put (some 22) (.pointer (some ⟨pb, po + 66 * i + 33, none⟩))).put (some 23) (p.bh.v)).put (some 24) (b.v)).put (some 25) (.bool r) → Q .normal a' w') :
    (Code.region 7 und7_ops true).wp Try.prog Q a w := by
  refine wp_region_noPanic ?_
  refine wp_region_held_drew (S := fun w' => w' = w.drew) (by kernel_rfl) (rfl) (fun hHeld => ?_)
  refine wpAnyH_take (i := 0) (oi := und7_o0) (v := .slice (some ⟨pb, po, none⟩) m pc) rfl (by kernel_rfl) (by kernel_rfl) (by kernel_rfl) (fun _ _ _ h => h) (Or.inl ⟨by rfl, fun w1 hw => exec_move rfl t0⟩) hHeld ?_
  change wpAnyH _ _ _ _ _ _ _ (a.put (some 19) (.slice (some ⟨pb, po, none⟩) m pc)) _
  obtain ⟨a0, e0⟩ : ∃ act, act = a.put (some 19) (.slice (some ⟨pb, po, none⟩) m pc) := ⟨_, rfl⟩
  rw [← e0] at h ⊢
  have z0 := pz e0 hsz
  replace t4 := pk e0 t4
  replace t8 := pk e0 t8
  clear t0
  have t19 := pq e0 hsz
  clear e0 hsz
  refine wpAnyH_take (i := 1) (oi := und7_o1) (v := .int .i64 (i : Int)) rfl (by kernel_rfl) (by kernel_rfl) (by kernel_rfl) (fun _ _ _ h => h) (Or.inl ⟨by rfl, fun w1 hw => exec_move rfl t8⟩) hHeld ?_
  change wpAnyH _ _ _ _ _ _ _ (a0.put (some 20) (.int .i64 (i : Int))) _
  obtain ⟨a1, e1⟩ : ∃ act, act = a0.put (some 20) (.int .i64 (i : Int)) := ⟨_, rfl⟩
  rw [← e1] at h ⊢
  have z1 := pz e1 z0
  replace t4 := pk e1 t4
  replace t19 := pk e1 t19
  clear t8
  have t20 := pq e1 z0
  clear e1 z0
  refine wpAnyH_take (i := 2) (oi := und7_o2) (v := .pointer (some ⟨pb, po + 66 * i, none⟩)) rfl (by kernel_rfl) (by kernel_rfl) (by kernel_rfl) (fun _ _ _ h => h) (Or.inl ⟨by rfl, fun w1 hw => exec_indexAt rfl t19 t20 (ix_put hi hm _)⟩) hHeld ?_
  change wpAnyH _ _ _ _ _ _ _ (a1.put (some 21) (.pointer (some ⟨pb, po + 66 * i, none⟩))) _
  obtain ⟨a2, e2⟩ : ∃ act, act = a1.put (some 21) (.pointer (some ⟨pb, po + 66 * i, none⟩)) := ⟨_, rfl⟩
  rw [← e2] at h ⊢
  have z2 := pz e2 z1
  replace t4 := pk e2 t4
  clear t19 t20
  have t21 := pq e2 z1
  clear e2 z1
  refine wpAnyH_take (i := 3) (oi := und7_o3) (v := .pointer (some ⟨pb, po + 66 * i + 33, none⟩)) rfl (by kernel_rfl) (by kernel_rfl) (by kernel_rfl) (fun _ _ _ h => h) (Or.inl ⟨by rfl, fun w1 hw => exec_fieldAt rfl t21 (fg_55_1 _ _ _)⟩) hHeld ?_
  change wpAnyH _ _ _ _ _ _ _ (a2.put (some 22) (.pointer (some ⟨pb, po + 66 * i + 33, none⟩))) _
  obtain ⟨a3, e3⟩ : ∃ act, act = a2.put (some 22) (.pointer (some ⟨pb, po + 66 * i + 33, none⟩)) := ⟨_, rfl⟩
  rw [← e3] at h ⊢
  have z3 := pz e3 z2
  replace t4 := pk e3 t4
  clear t21
  have t22 := pq e3 z2
  clear e3 z2
  refine wpAnyH_take (i := 4) (oi := und7_o4) (v := p.bh.v) rfl (by kernel_rfl) (by kernel_rfl) (by kernel_rfl) (fun _ _ _ h => h) (Or.inl ⟨by rfl, fun w1 hw => exec_load rfl t22 (ld_pbh hp (hw ▸ h0 : World.rangeAt _ pb (po + 66 * i) p.c))⟩) hHeld ?_
  change wpAnyH _ _ _ _ _ _ _ (a3.put (some 23) (p.bh.v)) _
  obtain ⟨a4, e4⟩ : ∃ act, act = a3.put (some 23) (p.bh.v) := ⟨_, rfl⟩
  rw [← e4] at h ⊢
  have z4 := pz e4 z3
  replace t4 := pk e4 t4
  clear t22
  have t23 := pq e4 z3
  clear e4 z3
  refine wpAnyH_take (i := 5) (oi := und7_o5) (v := b.v) rfl (by kernel_rfl) (by kernel_rfl) (by kernel_rfl) (fun _ _ _ h => h) (Or.inl ⟨by rfl, fun w1 hw => exec_load rfl t4 (load_id hb (hw ▸ ib : IdAt _ bx b))⟩) hHeld ?_
  change wpAnyH _ _ _ _ _ _ _ (a4.put (some 24) (b.v)) _
  obtain ⟨a5, e5⟩ : ∃ act, act = a4.put (some 24) (b.v) := ⟨_, rfl⟩
  rw [← e5] at h ⊢
  have z5 := pz e5 z4
  replace t23 := pk e5 t23
  clear t4
  have t24 := pq e5 z4
  clear e5 z4
  refine wpAnyH_take (i := 6) (oi := und7_o6) (v := .bool r) rfl (by kernel_rfl) (by kernel_rfl) (by kernel_rfl) (fun _ _ _ h => h) (Or.inl ⟨by rfl, fun w1 hw => ex_eqlI rfl t23 t24 hp.bh hb hr⟩) hHeld ?_
  change wpAnyH _ _ _ _ _ _ _ (a5.put (some 25) (.bool r)) _
  obtain ⟨a6, e6⟩ : ∃ act, act = a5.put (some 25) (.bool r) := ⟨_, rfl⟩
  rw [← e6] at h ⊢
  have z6 := pz e6 z5
  clear t23 t24
  clear e6 z5
  exact wpAnyH_done (by kernel_rfl) (NoPanic.normal (h _ _ (hHeld) rfl)) _
def und8_o0 : Oper := { dst := some 26, op := Op.move (Operand.tmp 7), type := 47, pos := "law.go:201", after := #[], guard := none }
def und8_o1 : Oper := { dst := some 27, op := Op.move (Operand.tmp 0), type := 43, pos := "law.go:201", after := #[], guard := none }
def und8_o2 : Oper := { dst := some 28, op := Op.move (Operand.tmp 8), type := 3, pos := "law.go:201", after := #[], guard := none }
def und8_o3 : Oper := { dst := some 29, op := Op.indexAddr 43 (Operand.tmp 27) (Operand.tmp 28), type := 0, pos := "law.go:201", after := #[{ on := 1, ground := Ground.data }, { on := 2, ground := Ground.data }], guard := none }
def und8_o4 : Oper := { dst := some 30, op := Op.fieldAddr 55 (Operand.tmp 29) 0, type := 0, pos := "law.go:201", after := #[{ on := 3, ground := Ground.data }], guard := none }
def und8_o5 : Oper := { dst := some 31, op := Op.load 32 (Operand.tmp 30), type := 32, pos := "law.go:201", after := #[{ on := 4, ground := Ground.data }], guard := none }
def und8_o6 : Oper := { dst := some 32, op := Op.buildSlice 47 1 #[(0, Operand.tmp 31)], type := 47, pos := "law.go:201", after := #[{ on := 5, ground := Ground.data }], guard := none }
def und8_o7 : Oper := { dst := some 33, op := Op.call { callee := Callee.builtin Builtin.append, args := #[Operand.tmp 26, Operand.tmp 32], argTypes := #[47, 47] }, type := 47, pos := "law.go:201", after := #[{ on := 0, ground := Ground.data }, { on := 6, ground := Ground.data }], guard := none }
def und8_o8 : Oper := { dst := some 7, op := Op.assign (Operand.tmp 33), type := 47, pos := "law.go:201", after := #[{ on := 7, ground := Ground.data }, { on := 7, ground := Ground.chain }, { on := 0, ground := Ground.phase }, { on := 1, ground := Ground.phase }, { on := 2, ground := Ground.phase }, { on := 3, ground := Ground.phase }, { on := 4, ground := Ground.phase }, { on := 5, ground := Ground.phase }, { on := 6, ground := Ground.phase }, { on := 7, ground := Ground.phase }], guard := none }
def und8_ops : Array Oper := #[und8_o0, und8_o1, und8_o2, und8_o3, und8_o4, und8_o5, und8_o6, und8_o7, und8_o8]
set_option maxRecDepth 100000 in
set_option maxHeartbeats 4000000 in
theorem und8 {pb po m pc i : Nat} {p : PutV} {gb : Nat} {u u2 : Value} {w1 w2 : World} (a : Act) (w : World) (Q : Exit → Act → World → Prop) (hsz : a.tmps.size = 46)
    (t0 : a.tmps.getD 0 undef = .slice (some ⟨pb, po, none⟩) m pc)
    (t7 : a.tmps.getD 7 undef = u)
    (t8 : a.tmps.getD 8 undef = .int .i64 (i : Int))
    (hp : p.ok) (hi : i < m) (hm : m ≤ 1400000000000) (h0 : w.rangeAt pb (po + 66 * i) p.c) (EB : (Instr.buildSlice 47 1 #[(0, p.id.v)]).run Try.prog w = .ok (.slice (some ⟨gb, 0, none⟩) 1 1) w1) (EA : (Builtin.append_ #[47, 47] 47 #[u, .slice (some ⟨gb, 0, none⟩) 1 1]).run Try.prog w1 = .ok u2 w2)
    (h : ∀ (a' : Act) (w' : World), w' = w2 → a' = (((((((((a).put (some 26) (u)).put (some 27) (.slice (some ⟨pb, po, none⟩) m pc)).put (some 28) (.int .i64 (i : Int))).put (some 29) (.pointer (some ⟨pb, po + 66 * i, none⟩))).put (some 30) (.pointer (some ⟨pb, po + 66 * i + 0, none⟩))).put (some 31) (p.id.v)).put (some 32) (.slice (some ⟨gb, 0, none⟩) 1 1)).put (some 33) (u2)).put (some 7) (u2) → Q .normal a' w') :
    (Code.region 8 und8_ops false).wp Try.prog Q a w := by
  refine wp_region_list ?_
  change wpList _ _ _ [und8_o0, und8_o1, und8_o2, und8_o3, und8_o4, und8_o5, und8_o6, und8_o7, und8_o8] _ _
  refine qv (v := u) (by rfl) (exec_move rfl t7) (fun a0 e0 => ?_)
  rw [← e0] at h
  have z0 := pz e0 hsz
  replace t0 := pk e0 t0
  replace t8 := pk e0 t8
  clear t7
  have t26 := pq e0 hsz
  clear e0 hsz
  refine qv (v := .slice (some ⟨pb, po, none⟩) m pc) (by rfl) (exec_move rfl t0) (fun a1 e1 => ?_)
  rw [← e1] at h
  have z1 := pz e1 z0
  replace t8 := pk e1 t8
  replace t26 := pk e1 t26
  clear t0
  have t27 := pq e1 z0
  clear e1 z0
  refine qv (v := .int .i64 (i : Int)) (by rfl) (exec_move rfl t8) (fun a2 e2 => ?_)
  rw [← e2] at h
  have z2 := pz e2 z1
  replace t26 := pk e2 t26
  replace t27 := pk e2 t27
  clear t8
  have t28 := pq e2 z1
  clear e2 z1
  refine qv (v := .pointer (some ⟨pb, po + 66 * i, none⟩)) (by rfl) (exec_indexAt rfl t27 t28 (ix_put hi hm _)) (fun a3 e3 => ?_)
  rw [← e3] at h
  have z3 := pz e3 z2
  replace t26 := pk e3 t26
  clear t27 t28
  have t29 := pq e3 z2
  clear e3 z2
  refine qv (v := .pointer (some ⟨pb, po + 66 * i + 0, none⟩)) (by rfl) (exec_fieldAt rfl t29 (fg_55_0 _ _ _)) (fun a4 e4 => ?_)
  rw [← e4] at h
  have z4 := pz e4 z3
  replace t26 := pk e4 t26
  clear t29
  have t30 := pq e4 z3
  clear e4 z3
  refine qv (v := p.id.v) (by rfl) (exec_load rfl t30 (ld_pid hp h0)) (fun a5 e5 => ?_)
  rw [← e5] at h
  have z5 := pz e5 z4
  replace t26 := pk e5 t26
  clear t30
  have t31 := pq e5 z4
  clear e5 z4
  refine qk (v := .slice (some ⟨gb, 0, none⟩) 1 1) (by rfl) (exec_buildSlice rfl t31 EB) (fun a6 e6 => ?_)
  rw [← e6] at h
  have z6 := pz e6 z5
  replace t26 := pk e6 t26
  clear t31
  have t32 := pq e6 z5
  clear e6 z5
  refine qk (v := u2) (by rfl) (exec_append rfl t26 t32 EA) (fun a7 e7 => ?_)
  rw [← e7] at h
  have z7 := pz e7 z6
  clear t26 t32
  have t33 := pq e7 z6
  clear e7 z6
  refine qv (v := u2) (by rfl) (exec_assign rfl t33) (fun a8 e8 => ?_)
  rw [← e8] at h
  have z8 := pz e8 z7
  clear t33
  clear e8 z7
  exact wpList_nil (h _ _ (rfl) rfl)
def und9_o0 : Oper := { dst := some 34, op := Op.move (Operand.tmp 7), type := 47, pos := "law.go:202", after := #[], guard := none }
def und9_o1 : Oper := { dst := some 35, op := Op.move (Operand.tmp 0), type := 43, pos := "law.go:202", after := #[], guard := none }
def und9_o2 : Oper := { dst := some 36, op := Op.move (Operand.tmp 0), type := 43, pos := "law.go:202", after := #[], guard := none }
def und9_o3 : Oper := { dst := some 37, op := Op.move (Operand.tmp 8), type := 3, pos := "law.go:202", after := #[], guard := none }
def und9_o4 : Oper := { dst := some 38, op := Op.indexAddr 43 (Operand.tmp 36) (Operand.tmp 37), type := 0, pos := "law.go:202", after := #[{ on := 2, ground := Ground.data }, { on := 3, ground := Ground.data }], guard := none }
def und9_o5 : Oper := { dst := some 39, op := Op.fieldAddr 55 (Operand.tmp 38) 0, type := 0, pos := "law.go:202", after := #[{ on := 4, ground := Ground.data }], guard := none }
def und9_o6 : Oper := { dst := some 40, op := Op.load 32 (Operand.tmp 39), type := 32, pos := "law.go:202", after := #[{ on := 5, ground := Ground.data }], guard := none }
def und9_o7 : Oper := { dst := some 41, op := Op.move (Operand.tmp 2), type := 3, pos := "law.go:202", after := #[], guard := none }
def und9_o8 : Oper := { dst := some 42, op := Op.binOp BinOp.sub 3 (Operand.tmp 41) (Operand.const (Value.int IntKind.i64 1)) 3, type := 3, pos := "law.go:202", after := #[{ on := 7, ground := Ground.data }], guard := none }
def und9_o9 : Oper := { dst := some 43, op := Op.call { callee := Callee.value (Operand.func 30), args := #[Operand.tmp 35, Operand.tmp 40, Operand.tmp 42], argTypes := #[43, 32, 3] }, type := 47, pos := "law.go:202", after := #[{ on := 1, ground := Ground.data }, { on := 6, ground := Ground.data }, { on := 8, ground := Ground.data }], guard := none }
def und9_o10 : Oper := { dst := some 44, op := Op.call { callee := Callee.builtin Builtin.append, args := #[Operand.tmp 34, Operand.tmp 43], argTypes := #[47, 47] }, type := 47, pos := "law.go:202", after := #[{ on := 0, ground := Ground.data }, { on := 9, ground := Ground.data }, { on := 9, ground := Ground.chain }], guard := none }
def und9_o11 : Oper := { dst := some 7, op := Op.assign (Operand.tmp 44), type := 47, pos := "law.go:202", after := #[{ on := 10, ground := Ground.data }, { on := 10, ground := Ground.chain }, { on := 0, ground := Ground.phase }, { on := 1, ground := Ground.phase }, { on := 2, ground := Ground.phase }, { on := 3, ground := Ground.phase }, { on := 4, ground := Ground.phase }, { on := 5, ground := Ground.phase }, { on := 6, ground := Ground.phase }, { on := 7, ground := Ground.phase }, { on := 8, ground := Ground.phase }, { on := 9, ground := Ground.phase }, { on := 10, ground := Ground.phase }], guard := none }
def und9_ops : Array Oper := #[und9_o0, und9_o1, und9_o2, und9_o3, und9_o4, und9_o5, und9_o6, und9_o7, und9_o8, und9_o9, und9_o10, und9_o11]
set_option maxRecDepth 100000 in
set_option maxHeartbeats 4000000 in
theorem und9 {pb po m pc i : Nat} {p : PutV} {u : Value} {d : Int} (Fin : Value → World → Prop) (a : Act) (w : World) (Q : Exit → Act → World → Prop) (hsz : a.tmps.size = 46)
    (t0 : a.tmps.getD 0 undef = .slice (some ⟨pb, po, none⟩) m pc)
    (t2 : a.tmps.getD 2 undef = .int .i64 d)
    (t7 : a.tmps.getD 7 undef = u)
    (t8 : a.tmps.getD 8 undef = .int .i64 (i : Int))
    (hp : p.ok) (hi : i < m) (hm : m ≤ 1400000000000) (h0 : w.rangeAt pb (po + 66 * i) p.c) (hd : -9223372036854775808 ≤ d - 1 ∧ d - 1 ≤ 9223372036854775807) (CU : Calls Try.prog 30 #[.slice (some ⟨pb, po, none⟩) m pc, p.id.v, .int .i64 (d - 1)] w fun e w' => ∃ v, e = .returned v ∧ ∃ y u2, (Builtin.append_ #[47, 47] 47 #[u, v]).run Try.prog w' = .ok u2 y ∧ Fin u2 y)
    (h : ∀ (v u2 : Value) (a' : Act) (w' : World), Fin u2 w' → a' = ((((((((((((a).put (some 34) (u)).put (some 35) (.slice (some ⟨pb, po, none⟩) m pc)).put (some 36) (.slice (some ⟨pb, po, none⟩) m pc)).put (some 37) (.int .i64 (i : Int))).put (some 38) (.pointer (some ⟨pb, po + 66 * i, none⟩))).put (some 39) (.pointer (some ⟨pb, po + 66 * i + 0, none⟩))).put (some 40) (p.id.v)).put (some 41) (.int .i64 d)).put (some 42) (.int .i64 (d - 1))).put (some 43) (v)).put (some 44) (u2)).put (some 7) (u2) → Q .normal a' w') :
    (Code.region 9 und9_ops false).wp Try.prog Q a w := by
  refine wp_region_list ?_
  change wpList _ _ _ [und9_o0, und9_o1, und9_o2, und9_o3, und9_o4, und9_o5, und9_o6, und9_o7, und9_o8, und9_o9, und9_o10, und9_o11] _ _
  refine qv (v := u) (by rfl) (exec_move rfl t7) (fun a0 e0 => ?_)
  rw [← e0] at h
  have z0 := pz e0 hsz
  replace t0 := pk e0 t0
  replace t2 := pk e0 t2
  replace t8 := pk e0 t8
  clear t7
  have t34 := pq e0 hsz
  clear e0 hsz
  refine qv (v := .slice (some ⟨pb, po, none⟩) m pc) (by rfl) (exec_move rfl t0) (fun a1 e1 => ?_)
  rw [← e1] at h
  have z1 := pz e1 z0
  replace t0 := pk e1 t0
  replace t2 := pk e1 t2
  replace t8 := pk e1 t8
  replace t34 := pk e1 t34
  have t35 := pq e1 z0
  clear e1 z0
  refine qv (v := .slice (some ⟨pb, po, none⟩) m pc) (by rfl) (exec_move rfl t0) (fun a2 e2 => ?_)
  rw [← e2] at h
  have z2 := pz e2 z1
  replace t2 := pk e2 t2
  replace t8 := pk e2 t8
  replace t34 := pk e2 t34
  replace t35 := pk e2 t35
  clear t0
  have t36 := pq e2 z1
  clear e2 z1
  refine qv (v := .int .i64 (i : Int)) (by rfl) (exec_move rfl t8) (fun a3 e3 => ?_)
  rw [← e3] at h
  have z3 := pz e3 z2
  replace t2 := pk e3 t2
  replace t34 := pk e3 t34
  replace t35 := pk e3 t35
  replace t36 := pk e3 t36
  clear t8
  have t37 := pq e3 z2
  clear e3 z2
  refine qv (v := .pointer (some ⟨pb, po + 66 * i, none⟩)) (by rfl) (exec_indexAt rfl t36 t37 (ix_put hi hm _)) (fun a4 e4 => ?_)
  rw [← e4] at h
  have z4 := pz e4 z3
  replace t2 := pk e4 t2
  replace t34 := pk e4 t34
  replace t35 := pk e4 t35
  clear t36 t37
  have t38 := pq e4 z3
  clear e4 z3
  refine qv (v := .pointer (some ⟨pb, po + 66 * i + 0, none⟩)) (by rfl) (exec_fieldAt rfl t38 (fg_55_0 _ _ _)) (fun a5 e5 => ?_)
  rw [← e5] at h
  have z5 := pz e5 z4
  replace t2 := pk e5 t2
  replace t34 := pk e5 t34
  replace t35 := pk e5 t35
  clear t38
  have t39 := pq e5 z4
  clear e5 z4
  refine qv (v := p.id.v) (by rfl) (exec_load rfl t39 (ld_pid hp h0)) (fun a6 e6 => ?_)
  rw [← e6] at h
  have z6 := pz e6 z5
  replace t2 := pk e6 t2
  replace t34 := pk e6 t34
  replace t35 := pk e6 t35
  clear t39
  have t40 := pq e6 z5
  clear e6 z5
  refine qv (v := .int .i64 d) (by rfl) (exec_move rfl t2) (fun a7 e7 => ?_)
  rw [← e7] at h
  have z7 := pz e7 z6
  replace t34 := pk e7 t34
  replace t35 := pk e7 t35
  replace t40 := pk e7 t40
  clear t2
  have t41 := pq e7 z6
  clear e7 z6
  refine qv (v := .int .i64 (d - 1)) (by rfl) (ex_sub rfl t41 rfl hd) (fun a8 e8 => ?_)
  rw [← e8] at h
  have z8 := pz e8 z7
  replace t34 := pk e8 t34
  replace t35 := pk e8 t35
  replace t40 := pk e8 t40
  clear t41
  have t42 := pq e8 z7
  clear e8 z7
  refine qc (by rfl) (by unfold und9_o9; go_simp) (CU) (fun e x9 hx => ?_)
  obtain ⟨v, rfl, y, u2, EA, HF⟩ := hx
  replace h := h v u2
  refine ⟨_, rfl, fun a9 e9 => ?_⟩
  rw [← e9] at h
  have z9 := pz e9 z8
  replace t34 := pk e9 t34
  clear t35 t40 t42
  have t43 := pq e9 z8
  clear e9 z8
  refine qk (v := u2) (by rfl) (exec_append rfl t34 t43 EA) (fun a10 e10 => ?_)
  rw [← e10] at h
  have z10 := pz e10 z9
  clear t34 t43
  have t44 := pq e10 z9
  clear e10 z9
  refine qv (v := u2) (by rfl) (exec_assign rfl t44) (fun a11 e11 => ?_)
  rw [← e11] at h
  have z11 := pz e11 z10
  clear t44
  clear e11 z10
  exact wpList_nil (h _ _ (HF) rfl)
end Go.Proofs.Ytpdepbakopdgpaa

namespace Go.Proofs.Ytpdepbakopdgpaa
open Go.RowKit Sq
set_option linter.unusedVariables false
set_option linter.unusedSimpArgs false

theorem OwnI.base {w : World} {a b : Nat} {v : Value} {L : List IdK} (h : OwnI w a v L) (hb : b ≤ a) : OwnI w b v L := by
  refine ⟨h.1, ?_⟩
  rcases h.2 with q | ⟨g, cap, cur, e, h1, r⟩
  · exact .inl q
  · exact .inr ⟨g, cap, cur, e, Nat.le_trans hb h1, r⟩
def undG (f : Nat) (D : List PutV) (b : IdK) (p : PutV) : List IdK := if p.bh = b then p.id :: und f D p.id else []
theorem und_succ (f : Nat) (D : List PutV) (b : IdK) : und (f + 1) D b = D.reverse.flatMap (undG f D b) := rfl
theorem und_drop (f : Nat) (D : List PutV) (b : IdK) (k : Nat) (hk : k < D.length) : (D.drop k).reverse.flatMap (undG f D b) = (D.drop (k + 1)).reverse.flatMap (undG f D b) ++ undG f D b D[k] := by
  rw [List.drop_eq_getElem_cons hk, List.reverse_cons, List.flatMap_append]
  simp
theorem und_le (f : Nat) (D : List PutV) (b : IdK) (k : Nat) : ((D.drop k).reverse.flatMap (undG f D b)).length ≤ (und (f + 1) D b).length := by
  rw [und_succ]
  generalize undG f D b = g
  conv => rhs; rw [← List.take_append_drop k D, List.reverse_append, List.flatMap_append, List.length_append]
  omega
theorem und_ok {D : List PutV} (ok : ∀ x ∈ D, x.ok) : ∀ (f : Nat) (b : IdK), ∀ x ∈ und f D b, x.ok
  | 0, b, x, hx => by cases hx
  | f + 1, b, x, hx => by
    obtain ⟨p, hp, hx⟩ := List.mem_flatMap.1 hx
    rw [List.mem_reverse] at hp
    split at hx
    · rcases List.mem_cons.1 hx with rfl | hx
      · exact (ok p hp).id
      · exact und_ok ok f p.id x hx
    · cases hx
set_option maxRecDepth 100000 in
set_option maxHeartbeats 1000000 in
theorem lunder_any (a : Option Addr) (c : Nat) (D : List PutV) (ok : ∀ x ∈ D, x.ok) (hl : D.length ≤ 1048576) : ∀ (f : Nat) (b : IdK) (w : World) (d : Int), d = (f : Int) - 1 → f ≤ 1048577 → PutsAt w a D → b.ok → (und f D b).length ≤ 1048576 →
    Calls Try.prog 30 #[.slice a D.length c, b.v, .int .i64 d] w fun e w' => ∃ v, e = .returned v ∧ OwnI w' w.heap.size v (und f D b) ∧ Below w.heap.size w w' := by
  intro f
  induction f with
  | zero =>
    intro b w d hd hf hP hb hu
    obtain rfl : d = -1 := by omega
    clear hd
    have bx : Below w.heap.size w (w.alloc (.cells b.c.toArray 32)) := (Below.refl _ _).alloc (Nat.le_refl _) _
    show Calls Try.prog 30 #[.slice a D.length c, .agg b.c.toArray, .int .i64 (-1)] w _
    go_enter Try.func30, Try.ntmps30
    go_wp2
    go_ret
    exact ⟨_, rfl, ⟨rfl, .inl ⟨rfl, rfl⟩⟩, bx⟩
  | succ f ih =>
    intro b w d hd hf hP hb hu
    obtain rfl : d = (f : Int) := by omega
    clear hd
    have bx : Below w.heap.size w (w.alloc (.cells b.c.toArray 32)) := (Below.refl _ _).alloc (Nat.le_refl _) _
    have hx := id_new w b
    obtain ⟨m, hm0⟩ : ∃ m, D.length = m := ⟨_, rfl⟩
    have HN := hidMk hm0
    have HL := hidMk hl
    have HU := hidMk hu
    have IH := hidMk ih
    have HF := hidMk hf
    rw [hm0] at IH ⊢
    show Calls Try.prog 30 #[.slice a m c, .agg b.c.toArray, .int .i64 (f : Int)] w _
    have hmb : m ≤ 1048576 := by omega
    clear hm0 hu hl ih hf
    go_enter Try.func30, Try.ntmps30
    go_wp2
    generalize w.alloc (.cells b.c.toArray 32) = wx at *
    have hPx := hP.below bx
    go_loopw [7, 8] (fun v7 v8 wr => ∃ (j : Nat) (z : Int) (v : Value), v8 = .int .i64 z ∧ z = (j : Int) - 1 ∧ v = v7 ∧ j ≤ m ∧ Hid (OwnI wr wx.heap.size v ((D.drop j).reverse.flatMap (undG f D b))) ∧ Below wx.heap.size wx wr) (fun v7 v8 wr => (match v8 with | .int _ i => (i + 1).toNat | _ => 0))
    case atStart =>
      refine ⟨m, (m : Int) - 1, .slice none 0 0, rfl, rfl, rfl, Nat.le_refl _, ?_, Below.refl _ _⟩
      show OwnI _ _ _ _
      rw [List.drop_of_length_le (by rw [HN.out]; exact Nat.le_refl _)]
      exact ⟨rfl, .inl ⟨rfl, rfl⟩⟩
    case round =>
      obtain ⟨j, z, v, rfl, hz, rfl, hj, hO, bel⟩ := hrel
      cases j with
      | zero =>
        obtain rfl : z = -1 := by omega
        have RES := hidMk (show OwnI wr w.heap.size v (und (f + 1) D b) from by have := hO.out.base bx.size; rw [List.drop_zero] at this; exact this)
        have RB := hidMk (bx.trans (bel.mono bx.size))
        clear hO hz
        go_wp2
        go_ret
        exact ⟨_, rfl, RES.out, RB.out⟩
      | succ k =>
        obtain rfl : z = (k : Int) := by omega
        have hk' : k < D.length := by have := HN.out; omega
        obtain ⟨pb, po, rfl, hpb, hr⟩ := hPx.get hk'
        have hpo := ok D[k] (List.getElem_mem hk')
        have HT := hidMk (und_drop f D b k hk')
        have HLE := hidMk (Nat.le_trans (und_le f D b k) HU.out)
        generalize D[k] = p at *
        generalize (D.drop (k + 1)).reverse.flatMap (undG f D b) = L at *
        have hkm : k < m := by omega
        have hm : m ≤ 1400000000000 := by omega
        clear hz
        go_upto_region 7 with fail
        by_cases hc : p.bh = b
        · refine und7 (p := p) (b := b) (r := true) _ _ _ rfl rfl rfl rfl hpo hkm hm (rangeAt_keep hr (bel.block pb hpb)) hb (hx.below bel) (decide_eq_true hc) ?_
          intro a' w2 hw ha
          subst ha
          obtain rfl : w2 = wr.drew := hw
          simp only [Act.put, List.setIfInBounds_toArray, List.set_cons_zero, List.set_cons_succ]
          have hG : undG f D b p = p.id :: und f D p.id := if_pos hc
          have hle := HLE.out
          rw [HT.out, hG, List.length_append, List.length_cons] at hle
          obtain ⟨v', y1, y2, e1, e2, o3, b3⟩ := (show OwnI wr.drew wx.heap.size v L from hO.out.keep (fun _ _ => rfl)).app bel.drew hpo.id (by omega)
          go_upto_region 8 with fail
          refine und8 (p := p) _ _ _ rfl rfl rfl rfl hpo hkm hm (rangeAt_keep hr (bel.drew.block pb hpb)) e1 e2 ?_
          intro a' w3 hw ha
          subst ha
          obtain rfl : w3 = y2 := hw
          simp only [Act.put, List.setIfInBounds_toArray, List.set_cons_zero, List.set_cons_succ]
          have CU : Hid (Calls Try.prog 30 #[.slice (some ⟨pb, po, none⟩) m c, p.id.v, .int .i64 ((f : Int) - 1)] w3 fun e w' => ∃ v, e = .returned v ∧ ∃ y u2, (Builtin.append_ #[47, 47] 47 #[v', v]).run Try.prog w' = .ok u2 y ∧ (OwnI y wx.heap.size u2 (L ++ undG f D b p) ∧ Below wx.heap.size wx y)) := by
            refine (IH.out p.id w3 _ rfl (by have := HF.out; omega) (hPx.below b3) hpo.id (by omega)).mono ?_
            rintro e w' ⟨vv, rfl, oo, bb⟩
            obtain ⟨va, vc, rfl, iv, _⟩ := oo.open (und_ok ok f p.id)
            obtain ⟨u2, y, ea, o4, g4, _⟩ := run_appI w' wx.heap.size v' (L ++ [p.id]) va (und f D p.id) vc (o3.below bb) iv (und_ok ok f p.id) (by simp; omega) (by have := b3.size; have := bb.size; omega)
            refine ⟨_, rfl, y, u2, ea, ?_, ?_⟩
            · rw [hG]; simpa using o4
            · have b5 := b3.trans (bb.mono b3.size)
              exact b5.trans ⟨g4.os, g4.tape, g4.output, g4.size, fun q hq => g4.block q (by have := b5.size; omega) (fun e => by have := ((o3.below bb).cells e.symm).1; omega)⟩
          clear e1 e2
          go_upto_region 9 with fail
          refine und9 (p := p) (d := (f : Int)) (fun u2 y => OwnI y wx.heap.size u2 (L ++ undG f D b p) ∧ Below wx.heap.size wx y) _ _ _ rfl rfl rfl rfl rfl hpo hkm hm (rangeAt_keep hr (b3.block pb hpb)) (by have := HF.out; omega) CU.out ?_
          intro v9 u2 a' w4 hw4 ha
          subst ha
          simp only [Act.put, List.setIfInBounds_toArray, List.set_cons_zero, List.set_cons_succ]
          have HI4 := hidMk hw4
          clear hw4 CU o3 b3 hr hO bel hG hle
          go_wp2
          refine ⟨⟨k, (k : Int) - 1, u2, rfl, rfl, rfl, ?_, ?_, HI4.out.2⟩, ?_⟩
          · omega
          · rw [HT.out]; exact HI4.out.1
          · show ((k : Int) - 1 + 1).toNat < ((k : Int) + 1).toNat
            omega
        · refine und7 (p := p) (b := b) (r := false) _ _ _ rfl rfl rfl rfl hpo hkm hm (rangeAt_keep hr (bel.block pb hpb)) hb (hx.below bel) (decide_eq_false hc) ?_
          intro a' w2 hw ha
          subst ha
          obtain rfl : w2 = wr.drew := hw
          simp only [Act.put, List.setIfInBounds_toArray, List.set_cons_zero, List.set_cons_succ]
          have hG : undG f D b p = [] := if_neg hc
          have HI4 := hidMk (show OwnI wr.drew wx.heap.size v (L ++ undG f D b p) by rw [hG, List.append_nil]; exact hO.out.keep (fun _ _ => rfl))
          have HB4 := hidMk bel.drew
          clear hr hO bel hG hc
          go_wp2
          refine ⟨⟨k, (k : Int) - 1, v, rfl, rfl, rfl, ?_, ?_, HB4.out⟩, ?_⟩
          · omega
          · rw [HT.out]; exact HI4.out
          · show ((k : Int) - 1 + 1).toNat < ((k : Int) + 1).toNat
            omega
end Go.Proofs.Ytpdepbakopdgpaa

namespace Go.Proofs.Ytpdepbakopdgpaa
open Go.RowKit Sq
set_option linter.unusedVariables false
set_option linter.unusedSimpArgs false

set_option maxRecDepth 100000 in
set_option maxHeartbeats 2000000 in
theorem tree_all (a : Option Addr) (c : Nat) (l : List PutV) (w : World) (hP : PutsAt w a l) (ok : ∀ x ∈ l, x.ok) (hl : l.length ≤ 1048576) : Calls Try.prog 7 #[.slice a l.length c] w fun e w' => e = .returned (.bool true) ∧ Below w.heap.size w w' := by
  obtain ⟨D, hD⟩ : ∃ D, (laidP l).2 = D := ⟨_, rfl⟩
  obtain ⟨E, hE⟩ : ∃ E, (laidP l).1 = E := ⟨_, rfl⟩
  have hcl : (couldP l).length = D.length := by rw [(could_laid l).1, List.length_map, hD]
  have hDl : D.length ≤ 1048576 := by rw [← hD]; have := (laidP_len l).2; omega
  have hDo : ∀ x ∈ D, x.ok := by rw [← hD]; exact laidP_ok l ok
  have htr : idsE E false = und (D.length + 1) D zId := by
    have := (tree_pure l ok).2 (D.length + 1) (by rw [hD]; omega)
    rw [hE, hD] at this
    exact this
  have hil : (idsE E false).length ≤ 1048576 := by
    simp only [idsE, visE_all, List.length_map]
    rw [← hE]
    have := (laidP_len l).1
    omega
  obtain ⟨m, hm⟩ : ∃ m, D.length = m := ⟨_, rfl⟩
  have HLA : Hid (Calls Try.prog 22 #[.slice a l.length c] w fun e w' => ∃ s v vc, e = .returned (.tuple #[.pointer (some ⟨s, 0, none⟩), .slice v m vc]) ∧ PutsAt w' v D ∧ ∃ q, q.sb = s ∧ BK w q E [] w') := by
    refine (laid_any a c l w hP ok hl).mono ?_
    rintro e w' ⟨s, v, rfl, ⟨q, e1, e2, e3, e4⟩, o, bb⟩
    rw [hD] at o
    rw [hE] at e2
    obtain ⟨va, vc, rfl, hp, _⟩ := o.open hDo
    exact ⟨s, va, vc, by rw [hm], hp, q, e1, e2, e3, bb, fun p hp => by cases hp⟩
  have HCO : Hid (∀ W, Below w.heap.size w W → Calls Try.prog 23 #[.slice a l.length c] W fun e w' => e = .returned (.int .i64 (m : Int)) ∧ Below W.heap.size W w') := fun W bW => by
    have := could_any a c l W (hP.below bW) ok hl
    rw [hcl, hm] at this
    exact this
  have HUN : Hid (∀ W v vc, PutsAt W v D → Calls Try.prog 30 #[.slice v m vc, zId.v, .int .i64 (m : Int)] W fun e w' => ∃ u, e = .returned u ∧ OwnI w' W.heap.size u (idsE E false) ∧ Below W.heap.size W w') := fun W v vc hp => by
    have := lunder_any v vc D hDo hDl (D.length + 1) zId W (m : Int) (by rw [hm]; omega) (by omega) hp zId_ok (by rw [← htr]; exact hil)
    rw [hm, ← hm, ← htr, hm] at this
    exact this
  generalize l.length = n at *
  clear htr hil hDl hDo hcl hD hE hP hm
  go_enter Try.func7, Try.ntmps7
  go_wp2_with (first
    | (go_at_call 22; refine HLA.out.mono ?_; rintro e w1 ⟨sb, v, vc, rfl, hp1, s, rfl, B1⟩; have C1 := hidMk B1; have P1 := hidMk hp1; clear B1 hp1 HLA)
    | (go_at_call 23; refine (HCO.out _ C1.out.bel).mono ?_; rintro e w2 ⟨rfl, b2⟩; have C2 := hidMk (C1.out.below b2); have P2 := hidMk (P1.out.below b2); clear b2 C1 P1 HCO)
    | (go_at_call 24; refine (ids_any C2.out.sq).mono ?_; rintro e w3 ⟨v3, rfl, o3, b3⟩; have C3 := hidMk (C2.out.add o3 b3); have P3 := hidMk (P2.out.below b3); clear o3 b3 C2 P2)
    | (refine wpList_val rfl (exec_build0 rfl (build_id _)) ?_)
    | (go_at_call 30; refine (HUN.out _ _ _ P3.out).mono ?_; rintro e w4 ⟨v4, rfl, o4, b4⟩; have C4 := hidMk (C3.out.add o4 b4); clear o4 b4 C3 P3 HUN)
    | (go_at_call 26; refine (C4.out.same (A := idsE E false) (B := idsE E false) (by simp) (by simp)).mono ?_; rintro e w5 ⟨he, B5⟩; rw [decide_eq_true rfl] at he; subst he; have C5 := hidMk B5; clear B5 C4)
    | fail)
  go_ret
  exact ⟨rfl, C5.out.bel⟩
end Go.Proofs.Ytpdepbakopdgpaa

