import Derived.Test.YtoofljkgdjjllabRg
import Derived.Test.YtoofljkgdjjllabP0
import Derived.Test.YtoofljkgdjjllabP2
namespace Go.Proofs.Ytoofljkgdjjllab
open Go.RowKit
set_option linter.unusedVariables false
set_option linter.unusedSimpArgs false

theorem exec_bs2 {P : Program} {w w2 : World} {a : Act} {o : Oper} {t n : Nat} {x y : Operand} {xv yv v : Value} (ho : o.op = .buildSlice t n #[(0, x), (1, y)]) (hx : a.eval x = xv) (hy : a.eval y = yv) (hl : (Instr.buildSlice t n #[(0, xv), (1, yv)]).run P w = .ok v w2) : (execOp a.eval o).run P w = .ok (.value v) w2 := by
  unfold execOp; simp only [ho, List.map_toArray, List.map_cons, List.map_nil, hx, hy, Sem.run_bind, hl, Result.andThen_ok, Sem.run_pure]
def refused7_o0 : Oper := { dst := some 25, op := Op.move (Operand.tmp 0), type := 22, pos := "outright.go:234", after := #[], guard := none }
def refused7_o1 : Oper := { dst := some 26, op := Op.call { callee := Callee.value (Operand.func 16), args := #[Operand.tmp 25], argTypes := #[22] }, type := 30, pos := "outright.go:234", after := #[{ on := 0, ground := Ground.data }], guard := none }
def refused7_o2 : Oper := { dst := some 27, op := Op.fieldAddr 57 (Operand.tmp 3) 1, type := 0, pos := "outright.go:234", after := #[], guard := none }
def refused7_o3 : Oper := { dst := some 28, op := Op.load 35 (Operand.tmp 27), type := 35, pos := "outright.go:234", after := #[{ on := 2, ground := Ground.data }], guard := none }
def refused7_o4 : Oper := { dst := some 29, op := Op.fieldAddr 57 (Operand.tmp 3) 2, type := 0, pos := "outright.go:234", after := #[], guard := none }
def refused7_o5 : Oper := { dst := some 30, op := Op.load 35 (Operand.tmp 29), type := 35, pos := "outright.go:234", after := #[{ on := 4, ground := Ground.data }], guard := none }
def refused7_o6 : Oper := { dst := some 31, op := Op.buildSlice 30 2 #[(0, Operand.tmp 28), (1, Operand.tmp 30)], type := 30, pos := "outright.go:234", after := #[{ on := 3, ground := Ground.data }, { on := 5, ground := Ground.data }], guard := none }
def refused7_o7 : Oper := { dst := some 32, op := Op.call { callee := Callee.builtin Builtin.append, args := #[Operand.tmp 26, Operand.tmp 31], argTypes := #[30, 30] }, type := 30, pos := "outright.go:234", after := #[{ on := 1, ground := Ground.data }, { on := 6, ground := Ground.data }, { on := 1, ground := Ground.chain }], guard := none }
def refused7_o8 : Oper := { dst := some 6, op := Op.assign (Operand.tmp 32), type := 30, pos := "outright.go:234", after := #[{ on := 7, ground := Ground.data }, { on := 7, ground := Ground.chain }, { on := 0, ground := Ground.phase }, { on := 1, ground := Ground.phase }, { on := 2, ground := Ground.phase }, { on := 3, ground := Ground.phase }, { on := 4, ground := Ground.phase }, { on := 5, ground := Ground.phase }, { on := 6, ground := Ground.phase }, { on := 7, ground := Ground.phase }], guard := none }
def refused7_ops : Array Oper := #[refused7_o0, refused7_o1, refused7_o2, refused7_o3, refused7_o4, refused7_o5, refused7_o6, refused7_o7, refused7_o8]
set_option maxRecDepth 100000 in
set_option maxHeartbeats 4000000 in
theorem refused7 (bo : Nat) (lv kv uv nv2 : Value) (w12 : World) (S : World → Prop) (V Fin : Value → World → Prop) (a : Act) (w : World) (Q : Exit → Act → World → Prop) (hsz : a.tmps.size = 110)
    (t0 : a.tmps.getD 0 undef = lv)
    (t3 : a.tmps.getD 3 undef = .pointer (some ⟨bo, 0, none⟩))
    (GF1 : ∀ W, (Instr.fieldAt 57 (.pointer (some ⟨bo, 0, none⟩)) 1).run Try.prog W = .ok (.pointer (some ⟨bo, 1, none⟩)) W) (GF2 : ∀ W, (Instr.fieldAt 57 (.pointer (some ⟨bo, 0, none⟩)) 2).run Try.prog W = .ok (.pointer (some ⟨bo, 34, none⟩)) W) (GK : ∀ W, S W → (Instr.loadAt 35 (.pointer (some ⟨bo, 1, none⟩))).run Try.prog W = .ok kv W) (GU : ∀ W, S W → (Instr.loadAt 35 (.pointer (some ⟨bo, 34, none⟩))).run Try.prog W = .ok uv W) (S0 : S w.drew)
    (CN : Calls Try.prog 16 #[lv] w.drew fun e w' => ∃ v, e = .returned v ∧ V v w')
    (HST : ∀ v X, V v X → ∃ nv w2 qv w3, (Instr.buildSlice 30 2 #[(0, kv), (1, uv)]).run Try.prog X = .ok nv w2 ∧ (Builtin.append_ #[30, 30] 30 #[v, nv]).run Try.prog w2 = .ok qv w3 ∧ S X ∧ S w2 ∧ S w3 ∧ Fin qv w3)
    (EB2 : (Instr.buildSlice 30 2 #[(0, kv), (1, uv)]).run Try.prog w.drew = .ok nv2 w12) (S12 : S w12) (CN2 : Calls Try.prog 16 #[lv] w12 fun e w' => ∃ v, e = .returned v ∧ S w' ∧ ∃ qv w3, (Builtin.append_ #[30, 30] 30 #[v, nv2]).run Try.prog w' = .ok qv w3 ∧ S w3 ∧ Fin qv w3)
    (h1 : ∀ (v nv qv : Value) (a' : Act) (w' : World), Fin qv w' → a' = (((((((((a).put (some 25) (lv)).put (some 27) (.pointer (some ⟨bo, 1, none⟩))).put (some 28) (kv)).put (some 29) (.pointer (some ⟨bo, 34, none⟩))).put (some 30) (uv)).put (some 26) (v)).put (some 31) (nv)).put (some 32) (qv)).put (some 6) (qv) → Q .normal a' w')
    (h2 : ∀ (v nv qv : Value) (a' : Act) (w' : World), Fin qv w' → a' = (((((((((a).put (some 25) (lv)).put (some 27) (.pointer (some ⟨bo, 1, none⟩))).put (some 28) (kv)).put (some 29) (.pointer (some ⟨bo, 34, none⟩))).put (some 30) (uv)).put (some 31) (nv2)).put (some 26) (v)).put (some 32) (qv)).put (some 6) (qv) → Q .normal a' w') :
    (Code.region 7 refused7_ops true).wp Try.prog Q a w := by
  refine wp_region_noPanic ?_
  refine wp_region_held_drew (S := fun w' => S w') (by kernel_rfl) (S0) (fun hHeld => ?_)
  refine tk 0 refused7_o0 (lv) (by rfl) (fun w1 hw => exec_move rfl t0) hHeld (fun a1 e1 => ?_)
  rw [← e1] at h1 h2
  have z1 := pz e1 hsz
  replace t3 := pk e1 t3
  clear t0
  have t25 := pq e1 hsz
  clear e1 hsz
  refine tk 2 refused7_o2 (.pointer (some ⟨bo, 1, none⟩)) (by rfl) (fun w1 hw => exec_fieldAt rfl t3 (GF1 _)) hHeld (fun a2 e2 => ?_)
  rw [← e2] at h1 h2
  have z2 := pz e2 z1
  replace t3 := pk e2 t3
  replace t25 := pk e2 t25
  have t27 := pq e2 z1
  clear e2 z1
  refine tk 3 refused7_o3 (kv) (by rfl) (fun w1 hw => exec_load rfl t27 (GK _ hw)) hHeld (fun a3 e3 => ?_)
  rw [← e3] at h1 h2
  have z3 := pz e3 z2
  replace t3 := pk e3 t3
  replace t25 := pk e3 t25
  clear t27
  have t28 := pq e3 z2
  clear e3 z2
  refine tk 4 refused7_o4 (.pointer (some ⟨bo, 34, none⟩)) (by rfl) (fun w1 hw => exec_fieldAt rfl t3 (GF2 _)) hHeld (fun a4 e4 => ?_)
  rw [← e4] at h1 h2
  have z4 := pz e4 z3
  replace t25 := pk e4 t25
  replace t28 := pk e4 t28
  clear t3
  have t29 := pq e4 z3
  clear e4 z3
  refine tk 5 refused7_o5 (uv) (by rfl) (fun w1 hw => exec_load rfl t29 (GU _ hw)) hHeld (fun a5 e5 => ?_)
  rw [← e5] at h1 h2
  have z5 := pz e5 z4
  replace t25 := pk e5 t25
  replace t28 := pk e5 t28
  clear t29
  have t30 := pq e5 z4
  clear e5 z4
  refine wpAnyH_ready (rs := [1, 6]) (by kernel_rfl) (by simp) ?_
  refine AllReadyH.cons (o := refused7_o1) rfl (fun K hK => ?_) (AllReadyH.cons (o := refused7_o6) rfl (fun K hK => ?_) (AllReadyH.nil))
  · clear h2
    rw [if_pos (by rfl)]
    unfold refused7_o1 at hK ⊢
    go_simp
    refine (CN).mono ?_
    rintro e x6 ⟨v, rfl, hc⟩
    try go_wp2_with fail
    obtain ⟨nv, w2, qv, w3, EB, EA, S1, S2, S3, FN⟩ := HST v x6 hc; (try replace h1 := h1 v nv qv); (try replace h2 := h2 v nv qv)
    refine hK.out _ _ (S1) (fun hHeld => ?_)
    clear hK K
    change wpAnyH _ _ _ _ _ _ _ (a5.put (some 26) (v)) _
    obtain ⟨a6, e6⟩ : ∃ act, act = a5.put (some 26) (v) := ⟨_, rfl⟩
    rw [← e6] at h1 ⊢
    have z6 := pz e6 z5
    replace t28 := pk e6 t28
    replace t30 := pk e6 t30
    clear t25
    have t26 := pq e6 z5
    clear e6 z5
    refine wpAnyH_ready (rs := [6]) (by kernel_rfl) (by simp) ?_
    refine AllReadyH.cons (o := refused7_o6) rfl (fun K hK => ?_) AllReadyH.nil
    have X := exec_bs2 (P := Try.prog) (a := a6) (o := refused7_o6) rfl t28 t30 EB
    rw [if_pos (by rfl), Oper.wp, X]
    show K _ _
    clear X
    refine hK.out _ _ (S2) (fun hHeld => ?_)
    clear hK K
    change wpAnyH _ _ _ _ _ _ _ (a6.put (some 31) (nv)) _
    obtain ⟨a7, e7⟩ : ∃ act, act = a6.put (some 31) (nv) := ⟨_, rfl⟩
    rw [← e7] at h1 ⊢
    have z7 := pz e7 z6
    replace t26 := pk e7 t26
    clear t28 t30
    have t31 := pq e7 z6
    clear e7 z6
    refine wpAnyH_ready (rs := [7]) (by kernel_rfl) (by simp) ?_
    refine AllReadyH.cons (o := refused7_o7) rfl (fun K hK => ?_) AllReadyH.nil
    have X := exec_append (P := Try.prog) (a := a7) (o := refused7_o7) rfl t26 t31 EA
    rw [if_pos (by rfl), Oper.wp, X]
    show K _ _
    clear X
    refine hK.out _ _ (S3) (fun hHeld => ?_)
    clear hK K
    change wpAnyH _ _ _ _ _ _ _ (a7.put (some 32) (qv)) _
    obtain ⟨a8, e8⟩ : ∃ act, act = a7.put (some 32) (qv) := ⟨_, rfl⟩
    rw [← e8] at h1 ⊢
    have z8 := pz e8 z7
    clear t26 t31
    have t32 := pq e8 z7
    clear e8 z7
    refine tk 8 refused7_o8 (qv) (by rfl) (fun w1 hw => exec_assign rfl t32) hHeld (fun a9 e9 => ?_)
    rw [← e9] at h1
    have z9 := pz e9 z8
    clear t32
    clear e9 z8
    exact wpAnyH_done (by kernel_rfl) (NoPanic.normal (h1 _ _ (FN) rfl)) _
  · clear h1
    have X := exec_bs2 (P := Try.prog) (a := a5) (o := refused7_o6) rfl t28 t30 EB2
    rw [if_pos (by rfl), Oper.wp, X]
    show K _ _
    clear X
    refine hK.out _ _ (S12) (fun hHeld => ?_)
    clear hK K
    change wpAnyH _ _ _ _ _ _ _ (a5.put (some 31) (nv2)) _
    obtain ⟨a10, e10⟩ : ∃ act, act = a5.put (some 31) (nv2) := ⟨_, rfl⟩
    rw [← e10] at h2 ⊢
    have z10 := pz e10 z5
    replace t25 := pk e10 t25
    clear t28 t30
    have t31 := pq e10 z5
    clear e10 z5
    refine wpAnyH_ready (rs := [1]) (by kernel_rfl) (by simp) ?_
    refine AllReadyH.cons (o := refused7_o1) rfl (fun K hK => ?_) AllReadyH.nil
    rw [if_pos (by rfl)]
    unfold refused7_o1 at hK ⊢
    go_simp
    refine (CN2).mono ?_
    rintro e x11 ⟨v, rfl, hs, qv, w3, EA, S3, FN⟩
    try go_wp2_with fail
    (try replace h2 := h2 v nv2 qv)
    refine hK.out _ _ (hs) (fun hHeld => ?_)
    clear hK K
    change wpAnyH _ _ _ _ _ _ _ (a10.put (some 26) (v)) _
    obtain ⟨a11, e11⟩ : ∃ act, act = a10.put (some 26) (v) := ⟨_, rfl⟩
    rw [← e11] at h2 ⊢
    have z11 := pz e11 z10
    replace t31 := pk e11 t31
    clear t25
    have t26 := pq e11 z10
    clear e11 z10
    refine wpAnyH_ready (rs := [7]) (by kernel_rfl) (by simp) ?_
    refine AllReadyH.cons (o := refused7_o7) rfl (fun K hK => ?_) AllReadyH.nil
    have X := exec_append (P := Try.prog) (a := a11) (o := refused7_o7) rfl t26 t31 EA
    rw [if_pos (by rfl), Oper.wp, X]
    show K _ _
    clear X
    refine hK.out _ _ (S3) (fun hHeld => ?_)
    clear hK K
    change wpAnyH _ _ _ _ _ _ _ (a11.put (some 32) (qv)) _
    obtain ⟨a12, e12⟩ : ∃ act, act = a11.put (some 32) (qv) := ⟨_, rfl⟩
    rw [← e12] at h2 ⊢
    have z12 := pz e12 z11
    clear t31 t26
    have t32 := pq e12 z11
    clear e12 z11
    refine tk 8 refused7_o8 (qv) (by rfl) (fun w1 hw => exec_assign rfl t32) hHeld (fun a13 e13 => ?_)
    rw [← e13] at h2
    have z13 := pz e13 z12
    clear t32
    clear e13 z12
    exact wpAnyH_done (by kernel_rfl) (NoPanic.normal (h2 _ _ (FN) rfl)) _
def refused15_o0 : Oper := { dst := some 57, op := Op.move (Operand.tmp 13), type := 51, pos := "outright.go:250", after := #[], guard := none }
def refused15_o1 : Oper := { dst := some 58, op := Op.binOp BinOp.eql 51 (Operand.tmp 57) (Operand.const (Value.int IntKind.i64 0)) 51, type := 4, pos := "outright.go:250", after := #[{ on := 0, ground := Ground.data }], guard := none }
def refused15_o2 : Oper := { dst := some 59, op := Op.move (Operand.tmp 58), type := 4, pos := "outright.go:250", after := #[{ on := 1, ground := Ground.data }], guard := none }
def refused15_o3 : Oper := { dst := some 60, op := Op.move (Operand.tmp 5), type := 24, pos := "outright.go:250", after := #[{ on := 2, ground := Ground.guard }], guard := some (2, true) }
def refused15_o4 : Oper := { dst := some 61, op := Op.move (Operand.tmp 6), type := 30, pos := "outright.go:250", after := #[{ on := 2, ground := Ground.guard }], guard := some (2, true) }
def refused15_o5 : Oper := { dst := some 62, op := Op.call { callee := Callee.value (Operand.func 21), args := #[Operand.tmp 60, Operand.tmp 61], argTypes := #[24, 30] }, type := 49, pos := "outright.go:250", after := #[{ on := 3, ground := Ground.data }, { on := 4, ground := Ground.data }, { on := 2, ground := Ground.chain }, { on := 2, ground := Ground.guard }], guard := some (2, true) }
def refused15_o6 : Oper := { dst := some 63, op := Op.load 49 (Operand.tmp 7), type := 49, pos := "outright.go:250", after := #[{ on := 2, ground := Ground.guard }], guard := some (2, true) }
def refused15_o7 : Oper := { dst := some 64, op := Op.call { callee := Callee.value (Operand.func 23), args := #[Operand.tmp 62, Operand.tmp 63], argTypes := #[49, 49] }, type := 4, pos := "outright.go:250", after := #[{ on := 5, ground := Ground.data }, { on := 6, ground := Ground.data }, { on := 5, ground := Ground.chain }, { on := 2, ground := Ground.guard }], guard := some (2, true) }
def refused15_o8 : Oper := { dst := some 65, op := Op.pick (Operand.tmp 59) (Operand.tmp 64) (Operand.const (Value.bool false)), type := 4, pos := "outright.go:250", after := #[{ on := 2, ground := Ground.data }, { on := 7, ground := Ground.data }], guard := none }
def refused15_o9 : Oper := { dst := some 4, op := Op.assign (Operand.tmp 65), type := 4, pos := "outright.go:250", after := #[{ on := 8, ground := Ground.data }, { on := 7, ground := Ground.chain }, { on := 0, ground := Ground.phase }, { on := 1, ground := Ground.phase }, { on := 2, ground := Ground.phase }, { on := 3, ground := Ground.phase }, { on := 4, ground := Ground.phase }, { on := 5, ground := Ground.phase }, { on := 6, ground := Ground.phase }, { on := 7, ground := Ground.phase }, { on := 8, ground := Ground.phase }], guard := none }
def refused15_ops : Array Oper := #[refused15_o0, refused15_o1, refused15_o2, refused15_o3, refused15_o4, refused15_o5, refused15_o6, refused15_o7, refused15_o8, refused15_o9]
set_option maxRecDepth 100000 in
set_option maxHeartbeats 4000000 in
theorem refused15 (S : World → Prop) (V : Value → World → Prop) (bw : Nat) (tv iv wv ev : Value) (a : Act) (w : World) (Q : Exit → Act → World → Prop) (hsz : a.tmps.size = 110)
    (t13 : a.tmps.getD 13 undef = ev)
    (t5 : a.tmps.getD 5 undef = tv)
    (t6 : a.tmps.getD 6 undef = iv)
    (t7 : a.tmps.getD 7 undef = .pointer (some ⟨bw, 0, none⟩))
    (h0 : S w.drew) (CT : ∀ W, S W → Calls Try.prog 21 #[tv, iv] W fun e w' => ∃ v, e = .returned v ∧ S w' ∧ V v w') (CS : ∀ W v, V v W → Calls Try.prog 23 #[v, wv] W fun e w' => e = .returned (.bool true) ∧ S w')
    (G1 : ∀ W, (eqGuard BinOp.eql 51 (Operand.tmp 57) (Operand.const (Value.int IntKind.i64 0)) (ev) (.int .i64 0)).run Try.prog W = .ok () W)
    (G2 : ∀ W, S W → (binOp BinOp.eql 51 (ev) (.int .i64 0)).run Try.prog W = .ok (.bool true) W)
    (G3 : ∀ W, S W → (Instr.loadAt 49 (.pointer (some ⟨bw, 0, none⟩))).run Try.prog W = .ok (wv) W)
    (h : ∀ (v : Value) (a' : Act) (w' : World), S w' → a' = ((((((((((a).put (some 57) (ev)).put (some 58) (.bool true)).put (some 59) (.bool true)).put (some 60) (tv)).put (some 61) (iv)).put (some 63) (wv)).put (some 62) (v)).put (some 64) (.bool true)).put (some 65) (.bool true)).put (some 4) (.bool true) → Q .normal a' w') :
    (Code.region 15 refused15_ops true).wp Try.prog Q a w := by
  refine wp_region_noPanic ?_
  refine wp_region_held_drew (S := fun w' => S w') (by kernel_rfl) (h0) (fun hHeld => ?_)
  refine tk 0 refused15_o0 (ev) (by rfl) (fun w1 hw => exec_move rfl t13) hHeld (fun a1 e1 => ?_)
  rw [← e1] at h
  have z1 := pz e1 hsz
  replace t5 := pk e1 t5
  replace t6 := pk e1 t6
  replace t7 := pk e1 t7
  clear t13
  have t57 := pq e1 hsz
  clear e1 hsz
  refine tk 1 refused15_o1 (.bool true) (by rfl) (fun w1 hw => exec_binOp rfl t57 rfl (G1 _) (G2 _ hw)) hHeld (fun a2 e2 => ?_)
  rw [← e2] at h
  have z2 := pz e2 z1
  replace t5 := pk e2 t5
  replace t6 := pk e2 t6
  replace t7 := pk e2 t7
  clear t57
  have t58 := pq e2 z1
  clear e2 z1
  refine tk 2 refused15_o2 (.bool true) (by rfl) (fun w1 hw => exec_move rfl t58) hHeld (fun a3 e3 => ?_)
  rw [← e3] at h
  have z3 := pz e3 z2
  replace t5 := pk e3 t5
  replace t6 := pk e3 t6
  replace t7 := pk e3 t7
  clear t58
  have t59 := pq e3 z2
  clear e3 z2
  refine tk 3 refused15_o3 (tv) (by simp [Region.wanted, yielded, refused15_ops, refused15_o3, refused15_o2, tget z3 (by decide) t59]) (fun w1 hw => exec_move rfl t5) hHeld (fun a4 e4 => ?_)
  rw [← e4] at h
  have z4 := pz e4 z3
  replace t6 := pk e4 t6
  replace t7 := pk e4 t7
  replace t59 := pk e4 t59
  clear t5
  have t60 := pq e4 z3
  clear e4 z3
  refine tk 4 refused15_o4 (iv) (by simp [Region.wanted, yielded, refused15_ops, refused15_o4, refused15_o2, tget z4 (by decide) t59]) (fun w1 hw => exec_move rfl t6) hHeld (fun a5 e5 => ?_)
  rw [← e5] at h
  have z5 := pz e5 z4
  replace t7 := pk e5 t7
  replace t59 := pk e5 t59
  replace t60 := pk e5 t60
  clear t6
  have t61 := pq e5 z4
  clear e5 z4
  refine tk 6 refused15_o6 (wv) (by simp [Region.wanted, yielded, refused15_ops, refused15_o6, refused15_o2, tget z5 (by decide) t59]) (fun w1 hw => exec_load rfl t7 (G3 _ hw)) hHeld (fun a6 e6 => ?_)
  rw [← e6] at h
  have z6 := pz e6 z5
  replace t59 := pk e6 t59
  replace t60 := pk e6 t60
  replace t61 := pk e6 t61
  clear t7
  have t63 := pq e6 z5
  clear e6 z5
  refine wpAnyH_ready (rs := [5]) (by kernel_rfl) (by simp) ?_
  refine AllReadyH.cons (o := refused15_o5) rfl (fun K hK => ?_) AllReadyH.nil
  rw [if_pos (by simp [Region.wanted, yielded, refused15_ops, refused15_o5, refused15_o2, tget z6 (by decide) t59])]
  unfold refused15_o5 at hK ⊢
  go_simp
  refine (CT _ hHeld).mono ?_
  rintro e x7 ⟨v, rfl, hs, hv⟩
  try go_wp2_with fail
  replace h := h v
  refine hK.out _ _ (hs) (fun hHeld => ?_)
  clear hK K
  change wpAnyH _ _ _ _ _ _ _ (a6.put (some 62) (v)) _
  obtain ⟨a7, e7⟩ : ∃ act, act = a6.put (some 62) (v) := ⟨_, rfl⟩
  rw [← e7] at h ⊢
  have z7 := pz e7 z6
  replace t59 := pk e7 t59
  replace t63 := pk e7 t63
  clear t60 t61
  have t62 := pq e7 z6
  clear e7 z6
  refine wpAnyH_ready (rs := [7]) (by kernel_rfl) (by simp) ?_
  refine AllReadyH.cons (o := refused15_o7) rfl (fun K hK => ?_) AllReadyH.nil
  rw [if_pos (by simp [Region.wanted, yielded, refused15_ops, refused15_o7, refused15_o2, tget z7 (by decide) t59])]
  unfold refused15_o7 at hK ⊢
  go_simp
  refine (CS _ _ hv).mono ?_
  rintro e x8 ⟨rfl, hs2⟩
  try go_wp2_with fail
  skip
  refine hK.out _ _ (hs2) (fun hHeld => ?_)
  clear hK K
  change wpAnyH _ _ _ _ _ _ _ (a7.put (some 64) (.bool true)) _
  obtain ⟨a8, e8⟩ : ∃ act, act = a7.put (some 64) (.bool true) := ⟨_, rfl⟩
  rw [← e8] at h ⊢
  have z8 := pz e8 z7
  replace t59 := pk e8 t59
  clear t63 t62
  have t64 := pq e8 z7
  clear e8 z7
  refine tk 8 refused15_o8 (.bool true) (by rfl) (fun w1 hw => by unfold refused15_o8; go_simp) hHeld (fun a9 e9 => ?_)
  rw [← e9] at h
  have z9 := pz e9 z8
  clear t59 t64
  have t65 := pq e9 z8
  clear e9 z8
  refine tk 9 refused15_o9 (.bool true) (by rfl) (fun w1 hw => exec_assign rfl t65) hHeld (fun a10 e10 => ?_)
  rw [← e10] at h
  have z10 := pz e10 z9
  clear t65
  clear e10 z9
  exact wpAnyH_done (by kernel_rfl) (NoPanic.normal (h _ _ (hHeld) rfl)) _
def refused22n_o0 : Oper := { dst := some 101, op := Op.move (Operand.tmp 8), type := 51, pos := "outright.go:252", after := #[], guard := none }
def refused22n_o1 : Oper := { dst := some 102, op := Op.binOp BinOp.eql 51 (Operand.tmp 101) (Operand.const (Value.int IntKind.i64 0)) 51, type := 4, pos := "outright.go:252", after := #[{ on := 0, ground := Ground.data }], guard := none }
def refused22n_o2 : Oper := { dst := some 103, op := Op.move (Operand.tmp 102), type := 4, pos := "outright.go:252", after := #[{ on := 1, ground := Ground.data }], guard := none }
def refused22n_o3 : Oper := { dst := some 104, op := Op.move (Operand.tmp 5), type := 24, pos := "outright.go:252", after := #[{ on := 2, ground := Ground.guard }], guard := some (2, false) }
def refused22n_o4 : Oper := { dst := some 105, op := Op.move (Operand.tmp 6), type := 30, pos := "outright.go:252", after := #[{ on := 2, ground := Ground.guard }], guard := some (2, false) }
def refused22n_o5 : Oper := { dst := some 106, op := Op.call { callee := Callee.value (Operand.func 21), args := #[Operand.tmp 104, Operand.tmp 105], argTypes := #[24, 30] }, type := 49, pos := "outright.go:252", after := #[{ on := 3, ground := Ground.data }, { on := 4, ground := Ground.data }, { on := 2, ground := Ground.chain }, { on := 2, ground := Ground.guard }], guard := some (2, false) }
def refused22n_o6 : Oper := { dst := some 107, op := Op.load 49 (Operand.tmp 7), type := 49, pos := "outright.go:252", after := #[{ on := 2, ground := Ground.guard }], guard := some (2, false) }
def refused22n_o7 : Oper := { dst := some 108, op := Op.call { callee := Callee.value (Operand.func 23), args := #[Operand.tmp 106, Operand.tmp 107], argTypes := #[49, 49] }, type := 4, pos := "outright.go:252", after := #[{ on := 5, ground := Ground.data }, { on := 6, ground := Ground.data }, { on := 5, ground := Ground.chain }, { on := 2, ground := Ground.guard }], guard := some (2, false) }
def refused22n_o8 : Oper := { dst := some 109, op := Op.pick (Operand.tmp 103) (Operand.const (Value.bool true)) (Operand.tmp 108), type := 4, pos := "outright.go:252", after := #[{ on := 2, ground := Ground.data }, { on := 7, ground := Ground.data }], guard := none }
def refused22n_o9 : Oper := { dst := some 4, op := Op.assign (Operand.tmp 109), type := 4, pos := "outright.go:252", after := #[{ on := 8, ground := Ground.data }, { on := 7, ground := Ground.chain }, { on := 0, ground := Ground.phase }, { on := 1, ground := Ground.phase }, { on := 2, ground := Ground.phase }, { on := 3, ground := Ground.phase }, { on := 4, ground := Ground.phase }, { on := 5, ground := Ground.phase }, { on := 6, ground := Ground.phase }, { on := 7, ground := Ground.phase }, { on := 8, ground := Ground.phase }], guard := none }
def refused22n_ops : Array Oper := #[refused22n_o0, refused22n_o1, refused22n_o2, refused22n_o3, refused22n_o4, refused22n_o5, refused22n_o6, refused22n_o7, refused22n_o8, refused22n_o9]
set_option maxRecDepth 100000 in
set_option maxHeartbeats 4000000 in
theorem refused22n (S : World → Prop) (V : Value → World → Prop) (bw : Nat) (tv iv wv ev : Value) (a : Act) (w : World) (Q : Exit → Act → World → Prop) (hsz : a.tmps.size = 110)
    (t8 : a.tmps.getD 8 undef = ev)
    (t5 : a.tmps.getD 5 undef = tv)
    (t6 : a.tmps.getD 6 undef = iv)
    (t7 : a.tmps.getD 7 undef = .pointer (some ⟨bw, 0, none⟩))
    (h0 : S w.drew) (CT : ∀ W, S W → Calls Try.prog 21 #[tv, iv] W fun e w' => ∃ v, e = .returned v ∧ S w' ∧ V v w') (CS : ∀ W v, V v W → Calls Try.prog 23 #[v, wv] W fun e w' => e = .returned (.bool true) ∧ S w')
    (G1 : ∀ W, (eqGuard BinOp.eql 51 (Operand.tmp 101) (Operand.const (Value.int IntKind.i64 0)) (ev) (.int .i64 0)).run Try.prog W = .ok () W)
    (G2 : ∀ W, S W → (binOp BinOp.eql 51 (ev) (.int .i64 0)).run Try.prog W = .ok (.bool false) W)
    (G3 : ∀ W, S W → (Instr.loadAt 49 (.pointer (some ⟨bw, 0, none⟩))).run Try.prog W = .ok (wv) W)
    (h : ∀ (v : Value) (a' : Act) (w' : World), S w' → a' = ((((((((((a).put (some 101) (ev)).put (some 102) (.bool false)).put (some 103) (.bool false)).put (some 104) (tv)).put (some 105) (iv)).put (some 107) (wv)).put (some 106) (v)).put (some 108) (.bool true)).put (some 109) (.bool true)).put (some 4) (.bool true) → Q .normal a' w') :
    (Code.region 22 refused22n_ops true).wp Try.prog Q a w := by
  refine wp_region_noPanic ?_
  refine wp_region_held_drew (S := fun w' => S w') (by kernel_rfl) (h0) (fun hHeld => ?_)
  refine tk 0 refused22n_o0 (ev) (by rfl) (fun w1 hw => exec_move rfl t8) hHeld (fun a1 e1 => ?_)
  rw [← e1] at h
  have z1 := pz e1 hsz
  replace t5 := pk e1 t5
  replace t6 := pk e1 t6
  replace t7 := pk e1 t7
  clear t8
  have t101 := pq e1 hsz
  clear e1 hsz
  refine tk 1 refused22n_o1 (.bool false) (by rfl) (fun w1 hw => exec_binOp rfl t101 rfl (G1 _) (G2 _ hw)) hHeld (fun a2 e2 => ?_)
  rw [← e2] at h
  have z2 := pz e2 z1
  replace t5 := pk e2 t5
  replace t6 := pk e2 t6
  replace t7 := pk e2 t7
  clear t101
  have t102 := pq e2 z1
  clear e2 z1
  refine tk 2 refused22n_o2 (.bool false) (by rfl) (fun w1 hw => exec_move rfl t102) hHeld (fun a3 e3 => ?_)
  rw [← e3] at h
  have z3 := pz e3 z2
  replace t5 := pk e3 t5
  replace t6 := pk e3 t6
  replace t7 := pk e3 t7
  clear t102
  have t103 := pq e3 z2
  clear e3 z2
  refine tk 3 refused22n_o3 (tv) (by simp [Region.wanted, yielded, refused22n_ops, refused22n_o3, refused22n_o2, tget z3 (by decide) t103]) (fun w1 hw => exec_move rfl t5) hHeld (fun a4 e4 => ?_)
  rw [← e4] at h
  have z4 := pz e4 z3
  replace t6 := pk e4 t6
  replace t7 := pk e4 t7
  replace t103 := pk e4 t103
  clear t5
  have t104 := pq e4 z3
  clear e4 z3
  refine tk 4 refused22n_o4 (iv) (by simp [Region.wanted, yielded, refused22n_ops, refused22n_o4, refused22n_o2, tget z4 (by decide) t103]) (fun w1 hw => exec_move rfl t6) hHeld (fun a5 e5 => ?_)
  rw [← e5] at h
  have z5 := pz e5 z4
  replace t7 := pk e5 t7
  replace t103 := pk e5 t103
  replace t104 := pk e5 t104
  clear t6
  have t105 := pq e5 z4
  clear e5 z4
  refine tk 6 refused22n_o6 (wv) (by simp [Region.wanted, yielded, refused22n_ops, refused22n_o6, refused22n_o2, tget z5 (by decide) t103]) (fun w1 hw => exec_load rfl t7 (G3 _ hw)) hHeld (fun a6 e6 => ?_)
  rw [← e6] at h
  have z6 := pz e6 z5
  replace t103 := pk e6 t103
  replace t104 := pk e6 t104
  replace t105 := pk e6 t105
  clear t7
  have t107 := pq e6 z5
  clear e6 z5
  refine wpAnyH_ready (rs := [5]) (by kernel_rfl) (by simp) ?_
  refine AllReadyH.cons (o := refused22n_o5) rfl (fun K hK => ?_) AllReadyH.nil
  rw [if_pos (by simp [Region.wanted, yielded, refused22n_ops, refused22n_o5, refused22n_o2, tget z6 (by decide) t103])]
  unfold refused22n_o5 at hK ⊢
  go_simp
  refine (CT _ hHeld).mono ?_
  rintro e x7 ⟨v, rfl, hs, hv⟩
  try go_wp2_with fail
  replace h := h v
  refine hK.out _ _ (hs) (fun hHeld => ?_)
  clear hK K
  change wpAnyH _ _ _ _ _ _ _ (a6.put (some 106) (v)) _
  obtain ⟨a7, e7⟩ : ∃ act, act = a6.put (some 106) (v) := ⟨_, rfl⟩
  rw [← e7] at h ⊢
  have z7 := pz e7 z6
  replace t103 := pk e7 t103
  replace t107 := pk e7 t107
  clear t104 t105
  have t106 := pq e7 z6
  clear e7 z6
  refine wpAnyH_ready (rs := [7]) (by kernel_rfl) (by simp) ?_
  refine AllReadyH.cons (o := refused22n_o7) rfl (fun K hK => ?_) AllReadyH.nil
  rw [if_pos (by simp [Region.wanted, yielded, refused22n_ops, refused22n_o7, refused22n_o2, tget z7 (by decide) t103])]
  unfold refused22n_o7 at hK ⊢
  go_simp
  refine (CS _ _ hv).mono ?_
  rintro e x8 ⟨rfl, hs2⟩
  try go_wp2_with fail
  skip
  refine hK.out _ _ (hs2) (fun hHeld => ?_)
  clear hK K
  change wpAnyH _ _ _ _ _ _ _ (a7.put (some 108) (.bool true)) _
  obtain ⟨a8, e8⟩ : ∃ act, act = a7.put (some 108) (.bool true) := ⟨_, rfl⟩
  rw [← e8] at h ⊢
  have z8 := pz e8 z7
  replace t103 := pk e8 t103
  clear t107 t106
  have t108 := pq e8 z7
  clear e8 z7
  refine tk 8 refused22n_o8 (.bool true) (by rfl) (fun w1 hw => by unfold refused22n_o8; go_simp) hHeld (fun a9 e9 => ?_)
  rw [← e9] at h
  have z9 := pz e9 z8
  clear t103 t108
  have t109 := pq e9 z8
  clear e9 z8
  refine tk 9 refused22n_o9 (.bool true) (by rfl) (fun w1 hw => exec_assign rfl t109) hHeld (fun a10 e10 => ?_)
  rw [← e10] at h
  have z10 := pz e10 z9
  clear t109
  clear e10 z9
  exact wpAnyH_done (by kernel_rfl) (NoPanic.normal (h _ _ (hHeld) rfl)) _
def refused22y_o0 : Oper := { dst := some 101, op := Op.move (Operand.tmp 8), type := 51, pos := "outright.go:252", after := #[], guard := none }
def refused22y_o1 : Oper := { dst := some 102, op := Op.binOp BinOp.eql 51 (Operand.tmp 101) (Operand.const (Value.int IntKind.i64 0)) 51, type := 4, pos := "outright.go:252", after := #[{ on := 0, ground := Ground.data }], guard := none }
def refused22y_o2 : Oper := { dst := some 103, op := Op.move (Operand.tmp 102), type := 4, pos := "outright.go:252", after := #[{ on := 1, ground := Ground.data }], guard := none }
def refused22y_o3 : Oper := { dst := some 104, op := Op.move (Operand.tmp 5), type := 24, pos := "outright.go:252", after := #[{ on := 2, ground := Ground.guard }], guard := some (2, false) }
def refused22y_o4 : Oper := { dst := some 105, op := Op.move (Operand.tmp 6), type := 30, pos := "outright.go:252", after := #[{ on := 2, ground := Ground.guard }], guard := some (2, false) }
def refused22y_o5 : Oper := { dst := some 106, op := Op.call { callee := Callee.value (Operand.func 21), args := #[Operand.tmp 104, Operand.tmp 105], argTypes := #[24, 30] }, type := 49, pos := "outright.go:252", after := #[{ on := 3, ground := Ground.data }, { on := 4, ground := Ground.data }, { on := 2, ground := Ground.chain }, { on := 2, ground := Ground.guard }], guard := some (2, false) }
def refused22y_o6 : Oper := { dst := some 107, op := Op.load 49 (Operand.tmp 7), type := 49, pos := "outright.go:252", after := #[{ on := 2, ground := Ground.guard }], guard := some (2, false) }
def refused22y_o7 : Oper := { dst := some 108, op := Op.call { callee := Callee.value (Operand.func 23), args := #[Operand.tmp 106, Operand.tmp 107], argTypes := #[49, 49] }, type := 4, pos := "outright.go:252", after := #[{ on := 5, ground := Ground.data }, { on := 6, ground := Ground.data }, { on := 5, ground := Ground.chain }, { on := 2, ground := Ground.guard }], guard := some (2, false) }
def refused22y_o8 : Oper := { dst := some 109, op := Op.pick (Operand.tmp 103) (Operand.const (Value.bool true)) (Operand.tmp 108), type := 4, pos := "outright.go:252", after := #[{ on := 2, ground := Ground.data }, { on := 7, ground := Ground.data }], guard := none }
def refused22y_o9 : Oper := { dst := some 4, op := Op.assign (Operand.tmp 109), type := 4, pos := "outright.go:252", after := #[{ on := 8, ground := Ground.data }, { on := 7, ground := Ground.chain }, { on := 0, ground := Ground.phase }, { on := 1, ground := Ground.phase }, { on := 2, ground := Ground.phase }, { on := 3, ground := Ground.phase }, { on := 4, ground := Ground.phase }, { on := 5, ground := Ground.phase }, { on := 6, ground := Ground.phase }, { on := 7, ground := Ground.phase }, { on := 8, ground := Ground.phase }], guard := none }
def refused22y_ops : Array Oper := #[refused22y_o0, refused22y_o1, refused22y_o2, refused22y_o3, refused22y_o4, refused22y_o5, refused22y_o6, refused22y_o7, refused22y_o8, refused22y_o9]
set_option maxRecDepth 100000 in
set_option maxHeartbeats 4000000 in
theorem refused22y (S : World → Prop) (bw : Nat) (tv iv ev : Value) (a : Act) (w : World) (Q : Exit → Act → World → Prop) (hsz : a.tmps.size = 110)
    (t8 : a.tmps.getD 8 undef = ev)
    (t5 : a.tmps.getD 5 undef = tv)
    (t6 : a.tmps.getD 6 undef = iv)
    (t7 : a.tmps.getD 7 undef = .pointer (some ⟨bw, 0, none⟩))
    (h0 : S w.drew)
    (G1 : ∀ W, (eqGuard BinOp.eql 51 (Operand.tmp 101) (Operand.const (Value.int IntKind.i64 0)) (ev) (.int .i64 0)).run Try.prog W = .ok () W)
    (G2 : ∀ W, S W → (binOp BinOp.eql 51 (ev) (.int .i64 0)).run Try.prog W = .ok (.bool true) W)
    (h : ∀ (a' : Act) (w' : World), S w' → a' = ((((((((((a).put (some 101) (ev)).put (some 102) (.bool true)).put (some 103) (.bool true)).put (some 104) (undef)).put (some 105) (undef)).put (some 106) (undef)).put (some 107) (undef)).put (some 108) (undef)).put (some 109) (.bool true)).put (some 4) (.bool true) → Q .normal a' w') :
    (Code.region 22 refused22y_ops true).wp Try.prog Q a w := by
  refine wp_region_noPanic ?_
  refine wp_region_held_drew (S := fun w' => S w') (by kernel_rfl) (h0) (fun hHeld => ?_)
  refine tk 0 refused22y_o0 (ev) (by rfl) (fun w1 hw => exec_move rfl t8) hHeld (fun a1 e1 => ?_)
  rw [← e1] at h
  have z1 := pz e1 hsz
  replace t5 := pk e1 t5
  replace t6 := pk e1 t6
  replace t7 := pk e1 t7
  clear t8
  have t101 := pq e1 hsz
  clear e1 hsz
  refine tk 1 refused22y_o1 (.bool true) (by rfl) (fun w1 hw => exec_binOp rfl t101 rfl (G1 _) (G2 _ hw)) hHeld (fun a2 e2 => ?_)
  rw [← e2] at h
  have z2 := pz e2 z1
  replace t5 := pk e2 t5
  replace t6 := pk e2 t6
  replace t7 := pk e2 t7
  clear t101
  have t102 := pq e2 z1
  clear e2 z1
  refine tk 2 refused22y_o2 (.bool true) (by rfl) (fun w1 hw => exec_move rfl t102) hHeld (fun a3 e3 => ?_)
  rw [← e3] at h
  have z3 := pz e3 z2
  replace t5 := pk e3 t5
  replace t6 := pk e3 t6
  replace t7 := pk e3 t7
  clear t102
  have t103 := pq e3 z2
  clear e3 z2
  refine wpAnyH_take (i := 3) (oi := refused22y_o3) (v := undef) rfl (by kernel_rfl) (by kernel_rfl) (by kernel_rfl) (fun _ _ _ h => h) (Or.inr ⟨by simp [Region.wanted, yielded, refused22y_ops, refused22y_o3, refused22y_o2, tget z3 (by decide) t103], rfl⟩) hHeld ?_
  change wpAnyH _ _ _ _ _ _ _ (a3.put (some 104) (undef)) _
  obtain ⟨a4, e4⟩ : ∃ act, act = a3.put (some 104) (undef) := ⟨_, rfl⟩
  rw [← e4] at h ⊢
  have z4 := pz e4 z3
  replace t6 := pk e4 t6
  replace t7 := pk e4 t7
  replace t103 := pk e4 t103
  clear t5
  have t104 := pq e4 z3
  clear e4 z3
  refine wpAnyH_take (i := 4) (oi := refused22y_o4) (v := undef) rfl (by kernel_rfl) (by kernel_rfl) (by kernel_rfl) (fun _ _ _ h => h) (Or.inr ⟨by simp [Region.wanted, yielded, refused22y_ops, refused22y_o4, refused22y_o2, tget z4 (by decide) t103], rfl⟩) hHeld ?_
  change wpAnyH _ _ _ _ _ _ _ (a4.put (some 105) (undef)) _
  obtain ⟨a5, e5⟩ : ∃ act, act = a4.put (some 105) (undef) := ⟨_, rfl⟩
  rw [← e5] at h ⊢
  have z5 := pz e5 z4
  replace t7 := pk e5 t7
  replace t103 := pk e5 t103
  replace t104 := pk e5 t104
  clear t6
  have t105 := pq e5 z4
  clear e5 z4
  refine wpAnyH_take (i := 5) (oi := refused22y_o5) (v := undef) rfl (by kernel_rfl) (by kernel_rfl) (by kernel_rfl) (fun _ _ _ h => h) (Or.inr ⟨by simp [Region.wanted, yielded, refused22y_ops, refused22y_o5, refused22y_o2, tget z5 (by decide) t103], rfl⟩) hHeld ?_
  change wpAnyH _ _ _ _ _ _ _ (a5.put (some 106) (undef)) _
  obtain ⟨a6, e6⟩ : ∃ act, act = a5.put (some 106) (undef) := ⟨_, rfl⟩
  rw [← e6] at h ⊢
  have z6 := pz e6 z5
  replace t7 := pk e6 t7
  replace t103 := pk e6 t103
  clear t104 t105
  have t106 := pq e6 z5
  clear e6 z5
  refine wpAnyH_take (i := 6) (oi := refused22y_o6) (v := undef) rfl (by kernel_rfl) (by kernel_rfl) (by kernel_rfl) (fun _ _ _ h => h) (Or.inr ⟨by simp [Region.wanted, yielded, refused22y_ops, refused22y_o6, refused22y_o2, tget z6 (by decide) t103], rfl⟩) hHeld ?_
  change wpAnyH _ _ _ _ _ _ _ (a6.put (some 107) (undef)) _
  obtain ⟨a7, e7⟩ : ∃ act, act = a6.put (some 107) (undef) := ⟨_, rfl⟩
  rw [← e7] at h ⊢
  have z7 := pz e7 z6
  replace t103 := pk e7 t103
  replace t106 := pk e7 t106
  clear t7
  have t107 := pq e7 z6
  clear e7 z6
  refine wpAnyH_take (i := 7) (oi := refused22y_o7) (v := undef) rfl (by kernel_rfl) (by kernel_rfl) (by kernel_rfl) (fun _ _ _ h => h) (Or.inr ⟨by simp [Region.wanted, yielded, refused22y_ops, refused22y_o7, refused22y_o2, tget z7 (by decide) t103], rfl⟩) hHeld ?_
  change wpAnyH _ _ _ _ _ _ _ (a7.put (some 108) (undef)) _
  obtain ⟨a8, e8⟩ : ∃ act, act = a7.put (some 108) (undef) := ⟨_, rfl⟩
  rw [← e8] at h ⊢
  have z8 := pz e8 z7
  replace t103 := pk e8 t103
  clear t106 t107
  have t108 := pq e8 z7
  clear e8 z7
  refine tk 8 refused22y_o8 (.bool true) (by rfl) (fun w1 hw => by unfold refused22y_o8; go_simp) hHeld (fun a9 e9 => ?_)
  rw [← e9] at h
  have z9 := pz e9 z8
  clear t103 t108
  have t109 := pq e9 z8
  clear e9 z8
  refine tk 9 refused22y_o9 (.bool true) (by rfl) (fun w1 hw => exec_assign rfl t109) hHeld (fun a10 e10 => ?_)
  rw [← e10] at h
  have z10 := pz e10 z9
  clear t109
  clear e10 z9
  exact wpAnyH_done (by kernel_rfl) (NoPanic.normal (h _ _ (hHeld) rfl)) _
def back15_o0 : Oper := { dst := some 62, op := Op.move (Operand.tmp 5), type := 24, pos := "outright.go:213", after := #[], guard := none }
def back15_o1 : Oper := { dst := some 63, op := Op.move (Operand.tmp 7), type := 30, pos := "outright.go:213", after := #[], guard := none }
def back15_o2 : Oper := { dst := some 64, op := Op.call { callee := Callee.value (Operand.func 21), args := #[Operand.tmp 62, Operand.tmp 63], argTypes := #[24, 30] }, type := 49, pos := "outright.go:213", after := #[{ on := 0, ground := Ground.data }, { on := 1, ground := Ground.data }], guard := none }
def back15_o3 : Oper := { dst := some 65, op := Op.load 49 (Operand.tmp 8), type := 49, pos := "outright.go:213", after := #[], guard := none }
def back15_o4 : Oper := { dst := some 66, op := Op.call { callee := Callee.value (Operand.func 23), args := #[Operand.tmp 64, Operand.tmp 65], argTypes := #[49, 49] }, type := 4, pos := "outright.go:213", after := #[{ on := 2, ground := Ground.data }, { on := 3, ground := Ground.data }, { on := 2, ground := Ground.chain }], guard := none }
def back15_o5 : Oper := { dst := some 67, op := Op.unOp UnOp.not 4 (Operand.tmp 66), type := 4, pos := "outright.go:213", after := #[{ on := 4, ground := Ground.data }], guard := none }
def back15_ops : Array Oper := #[back15_o0, back15_o1, back15_o2, back15_o3, back15_o4, back15_o5]
set_option maxRecDepth 100000 in
set_option maxHeartbeats 4000000 in
theorem back15 (S : World → Prop) (V : Value → World → Prop) (bw : Nat) (tv iv wv : Value) (a : Act) (w : World) (Q : Exit → Act → World → Prop) (hsz : a.tmps.size = 94)
    (t5 : a.tmps.getD 5 undef = tv)
    (t7 : a.tmps.getD 7 undef = iv)
    (t8 : a.tmps.getD 8 undef = .pointer (some ⟨bw, 0, none⟩))
    (h0 : S w.drew) (CT : ∀ W, S W → Calls Try.prog 21 #[tv, iv] W fun e w' => ∃ v, e = .returned v ∧ S w' ∧ V v w') (CS : ∀ W v, V v W → Calls Try.prog 23 #[v, wv] W fun e w' => e = .returned (.bool true) ∧ S w')
    (G1 : ∀ W, S W → (Instr.loadAt 49 (.pointer (some ⟨bw, 0, none⟩))).run Try.prog W = .ok (wv) W)
    (h : ∀ (v : Value) (a' : Act) (w' : World), S w' → a' = ((((((a).put (some 62) (tv)).put (some 63) (iv)).put (some 65) (wv)).put (some 64) (v)).put (some 66) (.bool true)).put (some 67) (.bool false) → Q .normal a' w') :
    (Code.region 15 back15_ops true).wp Try.prog Q a w := by
  refine wp_region_noPanic ?_
  refine wp_region_held_drew (S := fun w' => S w') (by kernel_rfl) (h0) (fun hHeld => ?_)
  refine tk 0 back15_o0 (tv) (by rfl) (fun w1 hw => exec_move rfl t5) hHeld (fun a1 e1 => ?_)
  rw [← e1] at h
  have z1 := pz e1 hsz
  replace t7 := pk e1 t7
  replace t8 := pk e1 t8
  clear t5
  have t62 := pq e1 hsz
  clear e1 hsz
  refine tk 1 back15_o1 (iv) (by rfl) (fun w1 hw => exec_move rfl t7) hHeld (fun a2 e2 => ?_)
  rw [← e2] at h
  have z2 := pz e2 z1
  replace t8 := pk e2 t8
  replace t62 := pk e2 t62
  clear t7
  have t63 := pq e2 z1
  clear e2 z1
  refine tk 3 back15_o3 (wv) (by rfl) (fun w1 hw => exec_load rfl t8 (G1 _ hw)) hHeld (fun a3 e3 => ?_)
  rw [← e3] at h
  have z3 := pz e3 z2
  replace t62 := pk e3 t62
  replace t63 := pk e3 t63
  clear t8
  have t65 := pq e3 z2
  clear e3 z2
  refine wpAnyH_ready (rs := [2]) (by kernel_rfl) (by simp) ?_
  refine AllReadyH.cons (o := back15_o2) rfl (fun K hK => ?_) AllReadyH.nil
  rw [if_pos (by rfl)]
  unfold back15_o2 at hK ⊢
  go_simp
  refine (CT _ hHeld).mono ?_
  rintro e x4 ⟨v, rfl, hs, hv⟩
  try go_wp2_with fail
  replace h := h v
  refine hK.out _ _ (hs) (fun hHeld => ?_)
  clear hK K
  change wpAnyH _ _ _ _ _ _ _ (a3.put (some 64) (v)) _
  obtain ⟨a4, e4⟩ : ∃ act, act = a3.put (some 64) (v) := ⟨_, rfl⟩
  rw [← e4] at h ⊢
  have z4 := pz e4 z3
  replace t65 := pk e4 t65
  clear t62 t63
  have t64 := pq e4 z3
  clear e4 z3
  refine wpAnyH_ready (rs := [4]) (by kernel_rfl) (by simp) ?_
  refine AllReadyH.cons (o := back15_o4) rfl (fun K hK => ?_) AllReadyH.nil
  rw [if_pos (by rfl)]
  unfold back15_o4 at hK ⊢
  go_simp
  refine (CS _ _ hv).mono ?_
  rintro e x5 ⟨rfl, hs2⟩
  try go_wp2_with fail
  skip
  refine hK.out _ _ (hs2) (fun hHeld => ?_)
  clear hK K
  change wpAnyH _ _ _ _ _ _ _ (a4.put (some 66) (.bool true)) _
  obtain ⟨a5, e5⟩ : ∃ act, act = a4.put (some 66) (.bool true) := ⟨_, rfl⟩
  rw [← e5] at h ⊢
  have z5 := pz e5 z4
  clear t65 t64
  have t66 := pq e5 z4
  clear e5 z4
  refine tk 5 back15_o5 (.bool false) (by rfl) (fun w1 hw => by unfold back15_o5; go_simp) hHeld (fun a6 e6 => ?_)
  rw [← e6] at h
  have z6 := pz e6 z5
  clear t66
  clear e6 z5
  exact wpAnyH_done (by kernel_rfl) (NoPanic.normal (h _ _ (hHeld) rfl)) _
end Go.Proofs.Ytoofljkgdjjllab

namespace Go.Proofs.Ytoofljkgdjjllab
open Go.RowKit
set_option linter.unusedVariables false
set_option linter.unusedSimpArgs false

theorem run_bs2I (h k : IdK) (ok : h.ok) (ok2 : k.ok) (w : World) : (Instr.buildSlice 30 2 #[(0, h.v), (1, k.v)]).run Try.prog w = .ok (.slice (some ⟨w.heap.size, 0, none⟩) 2 2) (w.alloc (.cells (h.c ++ k.c).toArray 35)) := by
  obtain ⟨ie, hi, hz, hs, hby⟩ := info_parts infoI
  refine run_buildSlice w 30 35 2 _ (h.c ++ k.c).toArray ie _ Try.underlying30 hi hz (by rw [hs]; decide) (by rw [hs]; decide) ?_
  rw [hs]
  have hsz2 : ∀ v ∈ [Value.agg h.c.toArray, Value.agg k.c.toArray], v.cells.size = 33 := by
    intro v hv
    simp at hv
    rcases hv with rfl | rfl
    · show h.c.toArray.size = 33; rw [List.size_toArray, IdK.len ok]
    · show k.c.toArray.size = 33; rw [List.size_toArray, IdK.len ok2]
  have := Go.Great.fill_whole (s := 33) (by decide) [.agg h.c.toArray, .agg k.c.toArray] ((Array.range (2 * 33)).map ((Value.agg (IdK.c zId).toArray).cells[· % (Value.agg (IdK.c zId).toArray).cells.size]!)) hsz2 (by simp)
  simpa [Value.cells, IdK.v] using this
theorem ids_lit2 (w : World) (h k : IdK) (ok : h.ok) (t : TypeId) : IdsAt (w.alloc (.cells (h.c ++ k.c).toArray t)) (some ⟨w.heap.size, 0, none⟩) [h, k] :=
  .inr ⟨w.heap.size, 0, rfl, by simp, fun i x hx j v hj => by
    have l := IdK.len ok
    have c0 := cell_new w (h.c ++ k.c) t
    have hl := (List.getElem?_eq_some_iff.1 hx).1
    simp at hl
    rcases i with _ | _ | i
    · simp at hx
      subst hx
      rw [Nat.mul_zero, Nat.add_zero, Nat.zero_add]
      exact c0 j v (by rw [List.getElem?_append_left (List.getElem?_eq_some_iff.1 hj).1]; exact hj)
    · simp at hx
      subst hx
      rw [show 0 + 33 * (0 + 1) + j = 33 + j by omega]
      exact c0 (33 + j) v (by rw [List.getElem?_append_right (by omega), l, show 33 + j - 33 = j by omega]; exact hj)
    · omega⟩
/-- What stays while TreeRefused runs, once the tree is there and was told of. -/
structure RS (W0 : World) (n3 bw bo t B : Nat) (o : OpV) (f : Fn) (D I : List IdK) (idv wa wb wc wd we : Value) (T : TellV) (N : Nat) (X : World) : Prop where
  bel : Below W0.heap.size W0 X
  own : ∃ s H, Own B X s H f ∧ s.t = t
  bwk : X.heap[bw]? = some (.cells #[.int .i64 (D.length : Int), wa, wb, wc, wd, we] 49 (0, 0))
  ts : TS n3 N X wa wb wc wd we T
  ids : OwnI X n3 idv I
  opc : X.heap[bo]? = some (.cells o.c.toArray 57 (0, 0))
  sz : n3 ≤ X.heap.size
/-- What does not change. -/
structure RC (W0 : World) (n3 bw bo B : Nat) (f : Fn) (D I : List IdK) (T : TellV) (N : Nat) : Prop where
  b3 : n3 ≤ bw
  bN : n3 ≤ N
  bo3 : bo < n3
  b0 : W0.heap.size ≤ B
  bB : B ≤ n3
  bo0 : bo < W0.heap.size
  told : ToldIs f D I T
  dom : Dom f D
  dl : D.length ≤ 2600000000000
  il : I.length ≤ 5500000000000
  iok : ∀ x ∈ I, x.ok
  uok : ∀ k, (nd f k).u.ok
section
variable {W0 : World} {n3 bw bo t B : Nat} {o : OpV} {f : Fn} {D I : List IdK} {idv wa wb wc wd we : Value} {T : TellV} {N : Nat} {X X' : World}
theorem RS.below (h : RS W0 n3 bw bo t B o f D I idv wa wb wc wd we T N X) (b : Below X.heap.size X X') : RS W0 n3 bw bo t B o f D I idv wa wb wc wd we T N X' := by
  obtain ⟨s, H, o1, o2⟩ := h.own
  exact ⟨h.bel.trans (b.mono h.bel.size), ⟨s, H, o1.below b, o2⟩, (b.block _ (Array.getElem?_eq_some_iff.1 h.bwk).1).trans h.bwk, h.ts.below b, h.ids.below b, (b.block _ (Array.getElem?_eq_some_iff.1 h.opc).1).trans h.opc, Nat.le_trans h.sz b.size⟩
theorem RS.told (hc : RC W0 n3 bw bo B f D I T N) (h : RS W0 n3 bw bo t B o f D I idv wa wb wc wd we T N X) :
    Calls Try.prog 21 #[.pointer (some ⟨t, 0, none⟩), idv] X fun e w' => ∃ v, e = .returned v ∧ RS W0 n3 bw bo t B o f D I idv wa wb wc wd we T N w' ∧ (RS W0 n3 bw bo t B o f D I idv wa wb wc wd we T N w' ∧ ToldV X.heap.size w' f D I v) := by
  obtain ⟨s, H, o1, rfl⟩ := h.own
  obtain ⟨ai, ci, rfl, hi, _⟩ := h.ids.open hc.iok
  refine (told_any o1 hc.dom hc.dl ai ci I hi hc.iok hc.il).mono ?_
  rintro e w' ⟨v, rfl, hv, b⟩
  exact ⟨v, rfl, h.below b, h.below b, hv⟩
theorem RS.same (hc : RC W0 n3 bw bo B f D I T N) {v : Value} {M : Nat} (h : RS W0 n3 bw bo t B o f D I idv wa wb wc wd we T N X) (hv : ToldV M X f D I v) :
    Calls Try.prog 23 #[v, .agg #[.int .i64 (D.length : Int), wa, wb, wc, wd, we]] X fun e w' => e = .returned (.bool true) ∧ RS W0 n3 bw bo t B o f D I idv wa wb wc wd we T N w' := by
  obtain ⟨N', a, b, c, d, e, T', rfl, _, ts', tl'⟩ := hv
  obtain rfl : T' = T := tl'.same rfl hc.told
  have okw : ∀ x ∈ T'.wk, x.ok := walk_ok hc.dom tl'.wk
  obtain ⟨_, _, o1, _⟩ := h.own
  have lw : T'.wk.length ≤ D.length := nodup_le (tl'.wk.nodup o1.ft) (fun x hx => (hc.dom.mem x).2 (tl'.wk.there x hx))
  have hil := hc.il
  have hdl := hc.dl
  refine (same_tells ts' h.ts okw ?_ (by omega) ?_ ?_ ?_ ?_ _).mono ?_
  · rw [tl'.un]; intro x hx; obtain ⟨y, _, rfl⟩ := List.mem_map.1 hx; exact hc.uok y
  · rw [tl'.un, List.length_map]; omega
  · rw [tl'.ks, List.length_map]; omega
  · rw [tl'.is, List.length_map]; omega
  · rw [tl'.dl, tl'.is, List.length_map]
  · rintro e w' ⟨rfl, b⟩
    exact ⟨rfl, h.below b⟩
/-- A step that leaves all where it was. -/
theorem RS.step (hc : RC W0 n3 bw bo B f D I T N) (h : RS W0 n3 bw bo t B o f D I idv wa wb wc wd we T N X) {s : Tr} {H : List Rec} (hs : ∀ j ∈ s.bl, j < n3) (ht : s.t = t) (hge : ∀ j ∈ s.bl, B ≤ j) {k : IdK} {n : NodeV} {e : Ending} {s' : Tr} {r : Rec} (hf : upd f k (some n) = f) (hd : Done B X s H f k n e X' s' r) :
    RS W0 n3 bw bo t B o f D I idv wa wb wc wd we T N X' := by
  have c1 := hc.b3
  have c2 := hc.bN
  have c4 := hc.b0
  have c5 := hc.bo0
  have ho := hd.own
  rw [hf] at ho
  refine ⟨h.bel.trans (hd.tch.below h.bel.size fun j hj => by have := hge j hj; omega), ⟨s', r :: H, ho, hd.t.trans ht⟩, (hd.tch.block bw (Array.getElem?_eq_some_iff.1 h.bwk).1 fun q => by have := hs _ q; omega).trans h.bwk, h.ts.keep hd.tch fun j hj q => ?_, h.ids.keep fun j hj => hd.tch.block j (by obtain ⟨_, c, q⟩ := h.ids.ge j hj; exact (Array.getElem?_eq_some_iff.1 q).1) fun q => by have := hs _ q; have := (h.ids.ge j hj).1; omega, (hd.tch.block bo (Array.getElem?_eq_some_iff.1 h.opc).1 fun q => by have := hge _ q; omega).trans h.opc, Nat.le_trans h.sz hd.tch.size⟩
  have := hs _ q
  rcases hj with q | q | q | q | q
  · have := (h.ts.wk.ge j q).1; omega
  · have := (h.ts.un.ge j q).1; omega
  · have := (h.ts.ks.ge j q).1; omega
  · have := (h.ts.is.ge j q).1; omega
  · have := (h.ts.dp.ge j q).1; omega
end
end Go.Proofs.Ytoofljkgdjjllab

namespace Go.Proofs.Ytoofljkgdjjllab
open Go.RowKit
set_option linter.unusedVariables false
set_option linter.unusedSimpArgs false

theorem Chain.head {r : Rec} {t : List Rec} {f' f : Fn} (h : Chain (r :: t) f' f) : Forest (upd f' r.k r.o) ∧ Chain t (upd f' r.k r.o) f := by
  cases h with
  | step a b => exact ⟨a, b⟩
theorem Chain.end {f' f : Fn} (h : Chain [] f' f) : f' = f := by
  cases h with
  | nil => rfl
theorem Hist.mem {w : World} {H : List Rec} (h : Hist w H) {r : Rec} (hr : r ∈ H) : ∃ c, w.heap[r.bk]? = some (.cells c 89 (0, 0)) := by
  induction H with
  | nil => cases hr
  | cons q t ih =>
    rcases List.mem_cons.1 hr with rfl | hr
    · exact Hist.back h.1
    · exact ih h.2 hr
/-- A tree with some steps (Hc) that are to be undone, and those blocks (K) that stay meanwhile. -/
structure UI (B : Nat) (w0 : World) (K : Nat → Prop) (t : Nat) (H : List Rec) (f : Fn) (X : World) (Hc : List Rec) (fc : Fn) : Prop where
  own : ∃ s, Own B X s (Hc ++ H) fc ∧ s.t = t ∧ ∀ j, K j → j < X.heap.size ∧ j ∉ s.bl
  chain : Chain Hc fc f
  nd : ((Hc ++ H).map (·.bk)).Nodup
  bel : Below w0.heap.size w0 X
section
variable {B : Nat} {w0 : World} {K : Nat → Prop} {t : Nat} {H : List Rec} {f : Fn} {X X' : World} {Hc : List Rec} {fc : Fn}
theorem UI.below (h : UI B w0 K t H f X Hc fc) (b : Below X.heap.size X X') : UI B w0 K t H f X' Hc fc := by
  obtain ⟨s, h1, h2, h3⟩ := h.own
  exact ⟨⟨s, h1.below b, h2, fun j hj => ⟨Nat.lt_of_lt_of_le (h3 j hj).1 b.size, (h3 j hj).2⟩⟩, h.chain, h.nd, h.bel.trans (b.mono h.bel.size)⟩
/-- Undo of the last step. -/
theorem UI.undo {r : Rec} (h : UI B w0 K t H f X (r :: Hc) fc) (h0 : w0.heap.size ≤ B) (hB : B ≤ X.heap.size) :
    Calls Try.prog 22 #[.pointer (some ⟨t, 0, none⟩), bkP r] X fun e w' => e = .returned (.int .i64 0) ∧ UI B w0 K t H f w' Hc (upd fc r.k r.o) ∧ (∀ j, K j → w'.heap[j]? = X.heap[j]?) ∧ X.heap.size ≤ w'.heap.size ∧ ∃ c, w'.heap[r.bk]? = some (.cells c 89 (0, 0)) := by
  obtain ⟨s, h1, h2, h3⟩ := h.own
  obtain ⟨hF, hch⟩ := h.chain.head
  have hu := undo_all (r := r) (H := Hc ++ H) h1 hB hF
  rw [h2] at hu
  refine hu.mono ?_
  rintro e w' ⟨he, s', ho, ht, tc, hbl⟩
  obtain ⟨c, hc⟩ := Hist.back h1.tree.hist.1
  have hap := h1.tree.apart r (List.mem_cons_self ..) r.bk (by simp [Rec.bl])
  have hnd := h.nd
  simp only [List.cons_append, List.map_cons, List.nodup_cons] at hnd
  refine ⟨he, ⟨⟨s', ho, ht.trans h2, fun j hj => ⟨Nat.lt_of_lt_of_le (h3 j hj).1 tc.size, fun q => ?_⟩⟩, hch, hnd.2, h.bel.trans (tc.below h.bel.size fun j hj => by have := h1.ge j hj; omega)⟩, fun j hj => tc.block j (h3 j hj).1 (h3 j hj).2, tc.size, c, (tc.block _ (Array.getElem?_eq_some_iff.1 hc).1 hap).trans hc⟩
  rcases hbl j q with q | q
  · exact (h3 j hj).2 q
  · have := (h3 j hj).1; omega
/-- Undo of another Back. -/
theorem UI.miss (h : UI B w0 K t H f X Hc fc) {b : Nat} {c : Array Value} (hb : X.heap[b]? = some (.cells c 89 (0, 0))) (hn : some (⟨b, 0, none⟩ : Addr) ≠ ptr (Hc ++ H)) :
    Calls Try.prog 22 #[.pointer (some ⟨t, 0, none⟩), .pointer (some ⟨b, 0, none⟩)] X fun e w' => e = .returned (.int .i64 2) ∧ Below X.heap.size X w' := by
  obtain ⟨s, h1, h2, h3⟩ := h.own
  have := undo_no s (Hc ++ H) b c X h1.tree hb hn
  rwa [h2] at this
end
end Go.Proofs.Ytoofljkgdjjllab

namespace Go.Proofs.Ytoofljkgdjjllab
open Go.RowKit
set_option linter.unusedVariables false
set_option linter.unusedSimpArgs false

theorem OwnV.form {w : World} {B : Nat} {e : TypeId} {v : Value} {X : List Value} (h : OwnV w B e v X) {i : Nat} (hi : i < X.length) : ∃ bb c, v = .slice (some ⟨bb, 0, none⟩) X.length c := by
  rcases h.2 with ⟨_, hn⟩ | ⟨g, cap, cur, rfl, _⟩
  · omega
  · exact ⟨g, cap, rfl⟩
theorem OwnV.hit {w : World} {B : Nat} {e : TypeId} {v : Value} {X : List Value} (h : OwnV w B e v X) {bb n c : Nat} (ev : v = .slice (some ⟨bb, 0, none⟩) n c) {i : Nat} {u : Value} (hu : X[i]? = some u) : w.cell? ⟨bb, i, none⟩ = some u := by
  obtain ⟨a, cap, e1, _, hv, _⟩ := h.open
  rw [ev] at e1
  injection e1 with e1 _ _
  rcases hv with rfl | ⟨b, off, e2, hc⟩
  · simp at hu
  · rw [e2] at e1
    injection e1 with e1
    injection e1 with e1 e3
    subst e1 e3
    have := hc i u hu
    rwa [Nat.zero_add] at this
theorem load_bkB {w : World} {b o : Nat} {v : Value} (h : w.cell? ⟨b, o, none⟩ = some v) : (Instr.loadAt 53 (.pointer (some ⟨b, o, none⟩))).run Try.prog w = .ok v w := by go_simp
theorem ix_bkB {b n c i : Nat} (h : i < n) (hn : n ≤ 9223372036854775807) (w : World) : (Instr.indexAt 26 (.slice (some ⟨b, 0, none⟩) n c) (.int .i64 (i : Int))).run Try.prog w = .ok (.pointer (some ⟨b, i, none⟩)) w := by go_simp
theorem ptr_ne {b : Nat} {H : List Rec} (h : b ∉ H.map (·.bk)) : some (⟨b, 0, none⟩ : Addr) ≠ ptr H := by
  cases H with
  | nil => simp [ptr]
  | cons r t =>
    simp only [ptr]
    intro e
    injection e with e
    injection e with e
    exact h (by simp [e])
/-- The steps that are left, and their Backs. -/
theorem left_cons {Q : List Rec} {n k : Nat} (hn : Q.length = n) (hk : k + 1 ≤ n) : ∃ r, Q.drop (n - (k + 1)) = r :: Q.drop (n - k) ∧ (Q.reverse.map bkP)[k]? = some (bkP r) := by
  have h1 : n - (k + 1) < Q.length := by omega
  refine ⟨Q[n - (k + 1)], ?_, ?_⟩
  · rw [List.drop_eq_getElem_cons h1, show n - (k + 1) + 1 = n - k by omega]
  · rw [List.getElem?_map, List.getElem?_reverse (by omega), show Q.length - 1 - k = n - (k + 1) by omega, List.getElem?_eq_getElem h1]
    rfl
theorem left_last {Q : List Rec} {n k : Nat} (hn : Q.length = n) (hk : k + 1 ≤ n) : ∃ r, r ∈ Q.drop (n - (k + 1)) ∧ (Q.reverse.map bkP)[0]? = some (bkP r) := by
  have h1 : n - 1 < Q.length := by omega
  refine ⟨Q[n - 1], ?_, ?_⟩
  · have : Q[n - 1] = (Q.drop (n - (k + 1)))[k]'(by rw [List.length_drop]; omega) := by
      rw [List.getElem_drop]; congr 1; omega
    rw [this]
    exact List.getElem_mem _
  · rw [List.getElem?_map, List.getElem?_reverse (by omega), show Q.length - 1 - 0 = n - 1 by omega, List.getElem?_eq_getElem h1]
    rfl
theorem told_same {M1 M2 : Nat} {w w' : World} {I : List IdK} {v1 v2 : Value} (h1 : ToldV M1 w (fun _ => none) [] I v1) (h2 : ToldV M2 w' (fun _ => none) [] I v2) (b : Below w.heap.size w w') (hil : I.length ≤ 5500000000000) (hf : Forest (fun _ => none)) :
    Calls Try.prog 23 #[v1, v2] w' fun e x => e = .returned (.bool true) ∧ Below w'.heap.size w' x := by
  obtain ⟨N1, a1, b1, c1, d1, e1, T1, rfl, _, ts1, tl1⟩ := h1
  obtain ⟨N2, a2, b2, c2, d2, e2, T2, rfl, _, ts2, tl2⟩ := h2
  obtain rfl : T2 = T1 := tl2.same rfl tl1
  have okw : ∀ x ∈ T2.wk, x.ok := walk_ok dom_none tl2.wk
  have lw : T2.wk.length ≤ ([] : List IdK).length := nodup_le (tl2.wk.nodup hf) (fun x hx => (dom_none.mem x).2 (tl2.wk.there x hx))
  refine same_tells (ts1.below b) ts2 okw ?_ (by simp at lw; simp [lw]) ?_ ?_ ?_ ?_ _
  · rw [tl2.un]; intro x hx; obtain ⟨y, _, rfl⟩ := List.mem_map.1 hx; exact zId_ok
  · rw [tl2.un, List.length_map]; omega
  · rw [tl2.ks, List.length_map]; omega
  · rw [tl2.is, List.length_map]; omega
  · rw [tl2.dl, tl2.is, List.length_map]
theorem six_oneB {a b c d e f : Value} (h0 : a.oneCell' = true) (h1 : b.oneCell' = true) (h2 : c.oneCell' = true) (h3 : d.oneCell' = true) (h4 : e.oneCell' = true) (h5 : f.oneCell' = true) : (#[a, b, c, d, e, f] : Array Value).all Value.oneCell' = true := by
  simp [h0, h1, h2, h3, h4, h5]
set_option maxRecDepth 100000 in
set_option maxHeartbeats 8000000 in
theorem back_all (a : Option Addr) (c : Nat) (L : List OpV) (a2 : Option Addr) (c2 : Nat) (M : List OpV) (w : World) (hL : RowAt 69 OpV.c w a L) (ok : ∀ x ∈ L, x.ok) (hn : L.length ≤ 1256584717422) (hM : RowAt 69 OpV.c w a2 M) (okM : ∀ x ∈ M, x.ok) (hnM : M.length ≤ 1256584717422) :
    Calls Try.prog 5 #[.slice a L.length c, .slice a2 M.length c2] w fun e w' => e = .returned (.bool true) ∧ Below w.heap.size w w' := by
  obtain ⟨n, hnn⟩ : ∃ n, L.length = n := ⟨_, rfl⟩
  obtain ⟨n2, hnn2⟩ : ∃ n2, M.length = n2 := ⟨_, rfl⟩
  have HNn := hidMk hnn
  have HNn2 := hidMk hnn2
  have HLn := hidMk hn
  have HLn2 := hidMk hnM
  have H1 := hidMk (fun (W : World) (b : Below w.heap.size w W) => named_any a c L W (hL.below b) ok hn)
  have H2 := hidMk (fun (W : World) (b : Below w.heap.size w W) => named_any a2 c2 M W (hM.below b) okM hnM)
  have HA := hidMk alive_any
  have HN1 := hidMk new_own
  have HGR := hidMk (fun (w1 w2 : World) (s : Tr) (b1 : Below w.heap.size w w1) (b2 : Below w1.heap.size w1 w2) (h : Own w1.heap.size w2 s [] (fun _ => none)) => grown_any h b1.size b2.size (b1.trans (b2.mono b1.size)) (by simp) [] dom_none a c L hL ok hn (fun _ => false) (fun x => rfl))
  have HGS := hidMk (fun (B : Nat) (W : World) (s : Tr) (H : List Rec) (f : Fn) (D : List IdK) (h : Own B W s H f) (h0 : w.heap.size ≤ B) (hB : B ≤ W.heap.size) (bl : Below w.heap.size w W) (nd : (H.map (·.bk)).Nodup) (hD : Dom f D) => grown_any h h0 hB bl nd D hD a2 c2 M hM okM hnM (fun x => (f x).isSome) (fun x => rfl))
  rw [hnn] at H1 HGR
  rw [hnn2] at H2 HGS
  rw [hnn, hnn2]
  clear hnn hnn2 hn hnM
  have okI : ∀ x ∈ namedL L ++ namedL M, x.ok := by
    intro x hx
    rcases List.mem_append.1 hx with q | q
    · exact namedL_ok ok x q
    · exact namedL_ok okM x q
  have HOI := hidMk okI
  have HIL := hidMk (show (namedL L ++ namedL M).length ≤ 5500000000000 by have := HLn.out; have := HLn2.out; rw [List.length_append, namedL, namedL, List.length_cons, List.length_cons, pairs_len, pairs_len]; omega)
  clear okI
  go_enter Try.func5, Try.ntmps5
  go_upto_region 5 with (first
    | (go_at_call 8; refine (HA.out w).mono ?_; rintro e w1 ⟨rfl, b1⟩; clear HA)
    | (go_at_call 9; refine (HN1.out _).mono ?_; rintro e w2 ⟨s0, rfl, hs0, b2⟩)
    | (go_at_call 10; refine (HGR.out w1 w2 s0 b1 b2 hs0).mono ?_; rintro e w3 ⟨s1, Q1, f1, bv1, rfl, g1, p1, l1⟩; clear HGR)
    | fail)
  obtain ⟨D1, hD1, hDl1⟩ := g1.dom
  have t1 := g1.t
  have c3 := g1.bel
  go_upto_region 6 with (first
    | (go_at_call 16; refine (H1.out _ c3).mono ?_; rintro e w4 ⟨v1, rfl, ow1, b4⟩; clear H1)
    | (go_at_call 16; refine (H2.out _ (c3.trans (b4.mono c3.size))).mono ?_; rintro e w5 ⟨v2, rfl, ow2, b5⟩; obtain ⟨av, cv, rfl, hv2, _⟩ := ow2.open (namedL_ok okM); obtain ⟨q, w6, e1, e2, e3, e4⟩ := run_appI w5 w3.heap.size v1 (namedL L) av (namedL M) cv (ow1.below b5) hv2 (namedL_ok okM) (by have := HIL.out; rw [List.length_append] at this; omega) (by have := b4.size; have := b5.size; omega); have EAP := hidMk e1; clear e1 H2)
    | (refine wpList_run rfl (exec_appW w5 rfl (ts := #[30, 30]) (xv := v1) (yv := .slice av (namedL M).length cv) (v := q) (w2 := w6) rfl rfl rfl EAP.out) ?_)
    | fail)
  have z4 := b4.size
  have z5 := b5.size
  have b36 : Below w3.heap.size w3 w6 := (b4.trans (b5.mono z4)).trans ⟨e3.os, e3.tape, e3.output, e3.size, fun j hj => e3.block j (by omega) (fun q => by have := (ow1.ge j q.symm).1; omega)⟩
  have own6 := g1.own.below b36
  have sl1 : ∀ j ∈ s1.bl, j < w3.heap.size := fun j hj => g1.own.tree.tr.lt j hj
  have HDL := hidMk (show D1.length ≤ 1256584717422 by have := HNn.out; have := HLn.out; simp at hDl1; omega)
  obtain ⟨aq, cq, eq, hq6, _⟩ := e2.open HOI.out
  have HTO := hidMk (told_any own6 hD1 (by have := HDL.out; omega) aq cq _ hq6 HOI.out HIL.out)
  rw [← eq, t1] at HTO
  have OWQ := hidMk e2
  clear EAP hq6 eq e2 hv2 ow1 ow2
  go_upto_region 7 with (first
    | (go_at_call 21; refine HTO.out.mono ?_; rintro e w7 ⟨tv, rfl, htv, b7⟩; obtain ⟨N, wa, wb, wc, wd, we, T, rfl, hBN, ts7, tl⟩ := htv; obtain ⟨wt, ea, es⟩ := tell_new w7 (.int .i64 (D1.length : Int)) wa wb wc wd we (six_oneB rfl (sl_oneI ts7.wk) (sl_oneI ts7.un) (sl_one ts7.ks) (sl_one ts7.is) (sl_one ts7.dp)); have HEA := hidMk ea; have HES := hidMk es; clear ea es HTO)
    | (refine wpList_run rfl (exec_allocW w7 rfl (t := 49) (v := .pointer (some ⟨w7.heap.size, 0, none⟩)) (w2 := wt) rfl HEA.out) ?_)
    | (refine wpList_skip rfl rfl (exec_storeW wt rfl (t := 49) (xv := .pointer (some ⟨w7.heap.size, 0, none⟩)) (yv := .agg #[.int .i64 (D1.length : Int), wa, wb, wc, wd, we]) rfl rfl rfl HES.out) ?_)
    | fail)
  have b8 : Below w7.heap.size w7 (w7.alloc (.cells #[.int .i64 (D1.length : Int), wa, wb, wc, wd, we] 49)) := (Below.refl _ _).alloc (Nat.le_refl _) _
  have hbw8 := heap_alloc_new w7 (.cells #[.int .i64 (D1.length : Int), wa, wb, wc, wd, we] 49)
  generalize w7.alloc (.cells #[.int .i64 (D1.length : Int), wa, wb, wc, wd, we] 49) = w8 at *
  have b68 : Below w6.heap.size w6 w8 := b7.trans (b8.mono b7.size)
  have b38 : Below w3.heap.size w3 w8 := b36.trans (b68.mono b36.size)
  have own8 := g1.own.below b38
  have c8 : Below w.heap.size w w8 := c3.trans (b38.mono c3.size)
  have hB8 : w1.heap.size ≤ w8.heap.size := by have := b2.size; have := g1.sz; have := b38.size; omega
  have HG2 := hidMk (HGS.out w1.heap.size w8 s1 (Q1 ++ []) f1 D1 own8 b1.size hB8 c8 g1.nd hD1)
  rw [t1] at HG2
  obtain ⟨bw, hbwn⟩ : ∃ bw, w7.heap.size = bw := ⟨_, rfl⟩
  rw [hbwn] at hbw8 ⊢
  clear HEA HES HGS
  go_upto_region 8 with (first
    | (go_at_call 10; refine HG2.out.mono ?_; rintro e w9 ⟨s2, Q2, f2, bv2, rfl, g2, p2, l2⟩; clear HG2)
    | fail)
  obtain ⟨xb, yb, ebv2, _, _, _⟩ := g2.row.open
  rw [List.length_map, List.length_reverse] at ebv2
  obtain ⟨m2, hm2⟩ : ∃ m2, Q2.length = m2 := ⟨_, rfl⟩
  rw [hm2] at ebv2
  subst ebv2
  have HM2 := hidMk hm2
  have HM2b := hidMk (show m2 ≤ 1256584717422 by have := HLn2.out; have := HNn2.out; omega)
  obtain ⟨xa, ya, ebv1, _, _, _⟩ := g1.row.open
  rw [List.length_map, List.length_reverse] at ebv1
  obtain ⟨m1, hm1⟩ : ∃ m1, Q1.length = m1 := ⟨_, rfl⟩
  rw [hm1] at ebv1
  subst ebv1
  have HM1 := hidMk hm1
  have HM1b := hidMk (show m1 ≤ 1256584717422 by have := HLn.out; have := HNn.out; omega)
  obtain ⟨K, hK⟩ : ∃ K : Nat → Prop, K = fun j => (Value.slice xa m1 ya).ownBlock = some j ∨ (Value.slice xb m2 yb).ownBlock = some j ∨ j = bw ∨ (wa.ownBlock = some j ∨ wb.ownBlock = some j ∨ wc.ownBlock = some j ∨ wd.ownBlock = some j ∨ we.ownBlock = some j) ∨ q.ownBlock = some j := ⟨_, rfl⟩
  have z36 := b36.size
  have z7 := b7.size
  have z8 := b8.size
  have ltc : ∀ {X : World} {e : TypeId} {j : Nat}, (∃ c, X.heap[j]? = some (.cells c e (0, 0))) → j < X.heap.size := fun ⟨c, hc⟩ => (Array.getElem?_eq_some_iff.1 hc).1
  have old : ∀ j, K j → (Value.slice xb m2 yb).ownBlock ≠ some j → j < w8.heap.size ∧ j ∉ s1.bl := by
    rw [hK]
    rintro j (k | k | k | k | k) hne
    · have := g1.lt k
      exact ⟨by have := b38.size; omega, (g1.sep j k).1⟩
    · exact absurd k hne
    · have := (Array.getElem?_eq_some_iff.1 hbw8).1
      exact ⟨by omega, fun hq => by have := sl1 j hq; omega⟩
    · have hb : w6.heap.size ≤ j ∧ j < w7.heap.size := by
        rcases k with k | k | k | k | k
        · exact ⟨(ts7.wk.ge j k).1, ltc (ts7.wk.ge j k).2⟩
        · exact ⟨Nat.le_trans hBN (ts7.un.ge j k).1, ltc (ts7.un.ge j k).2⟩
        · exact ⟨Nat.le_trans hBN (ts7.ks.ge j k).1, ltc (ts7.ks.ge j k).2⟩
        · exact ⟨Nat.le_trans hBN (ts7.is.ge j k).1, ltc (ts7.is.ge j k).2⟩
        · exact ⟨Nat.le_trans hBN (ts7.dp.ge j k).1, ltc (ts7.dp.ge j k).2⟩
      exact ⟨by omega, fun hq => by have := sl1 j hq; omega⟩
    · have h1 := (OWQ.out.ge j k).1
      have h2 := ltc (OWQ.out.ge j k).2
      exact ⟨by omega, fun hq => by have := sl1 j hq; omega⟩
  have KA : ∀ j, K j → j < w9.heap.size ∧ j ∉ s2.bl := fun j hj => by
    by_cases e : (Value.slice xb m2 yb).ownBlock = some j
    · exact ⟨g2.lt e, (g2.sep j e).1⟩
    · obtain ⟨k1, k2⟩ := old j hj e
      refine ⟨Nat.lt_of_lt_of_le k1 g2.tch.size, fun hq => ?_⟩
      rcases g2.bl j hq with hq | hq
      · exact k2 hq
      · omega
  have KB : ∀ j, K j → (Value.slice xb m2 yb).ownBlock ≠ some j → w9.heap[j]? = w8.heap[j]? := fun j hj e => g2.tch.block j (old j hj e).1 (old j hj e).2
  have ui9 : UI w1.heap.size w K s0.t (Q1 ++ []) f1 w9 Q2 f2 := ⟨⟨s2, g2.own, g2.t.trans t1, KA⟩, g2.chain, g2.nd, g2.bel⟩
  have R2 := hidMk (fun (X : World) (hX : ∀ j, K j → X.heap[j]? = w9.heap[j]?) => g2.row.keep fun j hj => hX j (by rw [hK]; exact Or.inr (Or.inl hj)))
  have HUI := hidMk ui9
  have nb2 : ∀ {j : Nat}, j < w8.heap.size → (Value.slice xb m2 yb).ownBlock ≠ some j := fun {j} hj e => by have := (g2.row.ge j e).1; omega
  have R1 := hidMk (fun (X : World) (hX : ∀ j, K j → X.heap[j]? = w9.heap[j]?) => show OwnV X w2.heap.size 53 (.slice xa m1 ya) (Q1.reverse.map bkP) from g1.row.keep fun j hj => by
    have kj : K j := by rw [hK]; exact Or.inl hj
    have hl := g1.lt hj
    exact (hX j kj).trans ((KB j kj (nb2 (by have := b38.size; omega))).trans (b38.block j hl)))
  have KQ := hidMk (fun (X : World) (hX : ∀ j, K j → X.heap[j]? = w9.heap[j]?) => show OwnI X w3.heap.size q (namedL L ++ namedL M) from OWQ.out.keep fun j hj => by
    have kj : K j := by rw [hK]; exact Or.inr (Or.inr (Or.inr (Or.inr hj)))
    have hl := ltc (OWQ.out.ge j hj).2
    exact (hX j kj).trans ((KB j kj (nb2 (by have := b68.size; omega))).trans (b68.block j hl)))
  have KT := hidMk (fun (X : World) (hX : ∀ j, K j → X.heap[j]? = w9.heap[j]?) => show TS w6.heap.size N X wa wb wc wd we T from by
    have ts8 := ts7.below b8
    have kk : ∀ j, (wa.ownBlock = some j ∨ wb.ownBlock = some j ∨ wc.ownBlock = some j ∨ wd.ownBlock = some j ∨ we.ownBlock = some j) → j < w8.heap.size → X.heap[j]? = w8.heap[j]? := fun j hj hl => by
      have kj : K j := by rw [hK]; exact Or.inr (Or.inr (Or.inr (Or.inl hj)))
      exact (hX j kj).trans (KB j kj (nb2 hl))
    exact ⟨ts8.wk.keep fun j hj => kk j (Or.inl hj) (ltc (ts8.wk.ge j hj).2), ts8.un.keep fun j hj => kk j (Or.inr (Or.inl hj)) (ltc (ts8.un.ge j hj).2), ts8.ks.keep fun j hj => kk j (Or.inr (Or.inr (Or.inl hj))) (ltc (ts8.ks.ge j hj).2), ts8.is.keep fun j hj => kk j (Or.inr (Or.inr (Or.inr (Or.inl hj)))) (ltc (ts8.is.ge j hj).2), ts8.dp.keep fun j hj => kk j (Or.inr (Or.inr (Or.inr (Or.inr hj)))) (ltc (ts8.dp.ge j hj).2), ts8.wl⟩)
  have KW := hidMk (fun (X : World) (hX : ∀ j, K j → X.heap[j]? = w9.heap[j]?) => show X.heap[bw]? = some (.cells #[.int .i64 (D1.length : Int), wa, wb, wc, wd, we] 49 (0, 0)) from by
    have kj : K bw := by rw [hK]; exact Or.inr (Or.inr (Or.inl rfl))
    exact (hX bw kj).trans ((KB bw kj (nb2 (Array.getElem?_eq_some_iff.1 hbw8).1)).trans hbw8))
  have HTL := hidMk tl
  have HCH := hidMk g1.chain
  have HG1 := hidMk g1.nd
  have HUK1 : ∀ k, (nd f1 k).u.ok := fun k => by
    have hE := g1.own.eq
    unfold nd
    cases hq : f1 k with
    | none => exact zId_ok
    | some m =>
      rw [← hE] at hq
      exact g1.own.tree.tr.uok _ (Go.Proofs.Ytoofljkgdjjllab.M.look_mem hq)
  have HUK0 := hidMk HUK1
  have HD1 := hidMk hD1
  have HBB := hidMk (show ∀ X : World, Below w.heap.size w X → True from fun _ _ => trivial)
  have HB9 := hidMk (show w1.heap.size ≤ w9.heap.size from Nat.le_trans hB8 g2.tch.size)
  have HW1 := hidMk b1.size
  have hm2b := HM2b.out
  clear HUK1 nb2 hm1 hm2 hbwn z36 z7 z8 z4 z5 l1 l2 hDl1 HBB
  go_wp2
  clear old KA KB ui9
  go_loopw [10] (fun v10 wr => ∃ (z : Int) (m : Nat) (fc : Fn), v10 = .int .i64 z ∧ (m : Int) = z + 1 ∧ m ≤ m2 ∧ UI w1.heap.size w K s0.t (Q1 ++ []) f1 wr (Q2.drop (m2 - m)) fc ∧ (∀ j, K j → wr.heap[j]? = w9.heap[j]?) ∧ w9.heap.size ≤ wr.heap.size) (fun v10 wr => match v10 with | .int _ i => (i + 1).toNat | _ => 0)
  case atStart => exact ⟨_, m2, f2, rfl, by omega, Nat.le_refl _, by rw [Nat.sub_self]; exact HUI.out, fun _ _ => rfl, Nat.le_refl _⟩
  case round =>
    obtain ⟨z, m, fc, rfl, hz, hm, ui, hK9, hsz⟩ := hrel
    have hbig := HM2b.out
    rcases m with _ | k
    · obtain rfl : z = -1 := by omega
      have e0 : Q2.drop (m2 - 0) = [] := by rw [Nat.sub_zero, List.drop_eq_nil_iff, HM2.out]; exact Nat.le_refl _
      rw [e0] at ui
      obtain rfl := ui.chain.end
      have hkeep : ∀ X X' : World, (UI w1.heap.size w K s0.t (Q1 ++ []) fc X [] fc ∧ ∀ j, K j → X.heap[j]? = w9.heap[j]?) → Below X.heap.size X X' → (UI w1.heap.size w K s0.t (Q1 ++ []) fc X' [] fc ∧ ∀ j, K j → X'.heap[j]? = w9.heap[j]?) := fun X X' h b => by
        obtain ⟨sx, _, _, hx⟩ := h.1.own
        exact ⟨h.1.below b, fun j hj => (b.block j (hx j hj).1).trans (h.2 j hj)⟩
      have HKP := hidMk hkeep
      have HS0 := hidMk (And.intro ui hK9)
      clear hkeep ui hK9 e0 hz
      go_upto_region 15 with fail
      have hdl := HDL.out
      refine back15 (fun X => UI w1.heap.size w K s0.t (Q1 ++ []) fc X [] fc ∧ ∀ j, K j → X.heap[j]? = w9.heap[j]?) (fun v X => (UI w1.heap.size w K s0.t (Q1 ++ []) fc X [] fc ∧ ∀ j, K j → X.heap[j]? = w9.heap[j]?) ∧ ∃ M', ToldV M' X fc D1 (namedL L ++ namedL M) v) bw (.pointer (some ⟨s0.t, 0, none⟩)) q (.agg #[.int .i64 (D1.length : Int), wa, wb, wc, wd, we]) _ wr _ rfl rfl rfl rfl (HKP.out _ _ HS0.out (Below.refl wr.heap.size wr).drew) ?_ ?_ ?_ ?_
      · intro X hX
        obtain ⟨sx, ox, tx, _⟩ := hX.1.own
        obtain ⟨aq, cq, eq, hq6, _⟩ := (KQ.out X hX.2).open HOI.out
        have := told_any ox HD1.out (by omega) aq cq _ hq6 HOI.out HIL.out
        rw [← eq, tx] at this
        refine this.mono ?_
        rintro e w' ⟨v, rfl, hv, b⟩
        exact ⟨v, rfl, HKP.out _ _ hX b, HKP.out _ _ hX b, _, hv⟩
      · rintro X v ⟨hX, M', N', a', b', c', d', e', T', rfl, _, ts', tl'⟩
        obtain rfl : T' = T := tl'.same rfl HTL.out
        have okw : ∀ x ∈ T'.wk, x.ok := walk_ok HD1.out tl'.wk
        obtain ⟨_, o1, _, _⟩ := hX.1.own
        have lw : T'.wk.length ≤ D1.length := nodup_le (tl'.wk.nodup o1.ft) (fun x hx => (HD1.out.mem x).2 (tl'.wk.there x hx))
        have hil := HIL.out
        refine (same_tells ts' (KT.out X hX.2) okw ?_ (by omega) ?_ ?_ ?_ ?_ _).mono ?_
        · rw [tl'.un]; intro x hx; obtain ⟨y, _, rfl⟩ := List.mem_map.1 hx; exact HUK0.out y
        · rw [tl'.un, List.length_map]; omega
        · rw [tl'.ks, List.length_map]; omega
        · rw [tl'.is, List.length_map]; omega
        · rw [tl'.dl, tl'.is, List.length_map]
        · rintro e w' ⟨rfl, b⟩
          exact ⟨rfl, HKP.out _ _ hX b⟩
      · exact fun X hX => tell_load (KW.out X hX.2)
      intro v a' w10 hw10 ha
      subst ha
      simp only [Act.put, List.setIfInBounds_toArray, List.set_cons_zero, List.set_cons_succ]
      have HW10 := hidMk hw10
      have hm1b := HM1b.out
      clear hw10
      have ui2 : UI w1.heap.size w K s0.t [] (fun _ => none) w10 Q1 fc := ⟨HW10.out.1.own, HCH.out, HG1.out, HW10.out.1.bel⟩
      have HSZ : Hid (w9.heap.size ≤ w10.heap.size ∨ True) := Or.inr trivial
      have HB10 := hidMk (show w1.heap.size ≤ w10.heap.size by obtain ⟨sx, ox, _, _⟩ := HW10.out.1.own; have h1 := ox.ge sx.t (by simp [Tr.bl]); have h2 := ox.tree.tr.lt sx.t (by simp [Tr.bl]); omega)
      have HU2 := hidMk ui2
      have HK10 := hidMk HW10.out.2
      generalize wr = wx at *
      go_wp2
      clear ui2
      go_loopw [11] (fun v11 wr => ∃ (z : Int) (m : Nat) (fq : Fn), v11 = .int .i64 z ∧ (m : Int) = z + 1 ∧ m ≤ m1 ∧ UI w1.heap.size w K s0.t [] (fun _ => none) wr (Q1.drop (m1 - m)) fq ∧ (∀ j, K j → wr.heap[j]? = w9.heap[j]?) ∧ w1.heap.size ≤ wr.heap.size) (fun v11 wr => match v11 with | .int _ i => (i + 1).toNat | _ => 0)
      case atStart => exact ⟨_, m1, fc, rfl, by omega, Nat.le_refl _, by rw [Nat.sub_self]; exact HU2.out, HK10.out, HB10.out⟩
      case round =>
        obtain ⟨z, m, fq, rfl, hz, hm, ui, hK9, hsz1⟩ := hrel
        rcases m with _ | k
        · obtain rfl : z = -1 := by omega
          have e0 : Q1.drop (m1 - 0) = [] := by rw [Nat.sub_zero, List.drop_eq_nil_iff, HM1.out]; exact Nat.le_refl _
          rw [e0] at ui
          obtain rfl := ui.chain.end
          obtain ⟨sx, ox, tx, _⟩ := ui.own
          obtain ⟨aq, cq, eq, hq6, _⟩ := (KQ.out wr hK9).open HOI.out
          have HLE : Hid (Calls Try.prog 12 #[.pointer (some ⟨s0.t, 0, none⟩)] wr fun e w' => e = .returned (.int .i64 0) ∧ Below wr.heap.size wr w') := by
            have := len_own ox dom_none
            rw [tx] at this
            exact this
          have HT1 := hidMk (fun (X : World) (b : Below wr.heap.size wr X) => told_any (ox.below b) dom_none (by simp) aq cq _ (hq6.below b) HOI.out HIL.out)
          have HT2 := hidMk (fun (Y X : World) (s' : Tr) (h : Own Y.heap.size X s' [] (fun _ => none)) (b : Below wr.heap.size wr X) => told_any h dom_none (by simp) aq cq _ (hq6.below b) HOI.out HIL.out)
          rw [← eq, tx] at HT1
          rw [← eq] at HT2
          have HBE := hidMk ui.bel
          have HFT := hidMk ox.ft
          clear ui ox eq hq6 hK9 e0 hz
          go_wp2_with (first
            | (go_at_call 12; refine HLE.out.mono ?_; rintro e w11 ⟨rfl, b11⟩; clear HLE)
            | (go_at_call 21; refine (HT1.out _ b11).mono ?_; rintro e w12 ⟨v1, rfl, hv1, b12⟩; have c12 := b11.trans (b12.mono b11.size); clear HT1)
            | (go_at_call 9; refine (HN1.out _).mono ?_; rintro e w13 ⟨s3, rfl, ho3, b13⟩; have c13 := c12.trans (b13.mono c12.size); have HT3 := hidMk (HT2.out w12 w13 s3 ho3 c13); clear HT2)
            | (go_at_call 21; refine HT3.out.mono ?_; rintro e w14 ⟨v2, rfl, hv2, b14⟩; have HSM := hidMk (told_same hv1 hv2 (b13.trans (b14.mono b13.size)) HIL.out HFT.out); clear HT3)
            | (go_at_call 23; refine HSM.out.mono ?_; rintro e w15 ⟨rfl, b15⟩; clear HSM)
            | fail)
          go_ret
          have c14 := c13.trans (b14.mono c13.size)
          exact ⟨rfl, HBE.out.trans ((c14.trans (b15.mono c14.size)).mono HBE.out.size)⟩
        · obtain rfl : z = (k : Int) := by omega
          obtain ⟨r, hr1, hr2⟩ := left_cons HM1.out hm
          obtain ⟨bb, cb, ebb⟩ := (R1.out wr hK9).form (i := k) (by rw [List.length_map, List.length_reverse, HM1.out]; omega)
          rw [List.length_map, List.length_reverse, HM1.out] at ebb
          injection ebb with eb1 eb2 eb3
          subst eb1
          clear eb2 eb3
          rw [hr1] at ui
          have LK0 := hidMk (load_bkB ((R1.out wr hK9).hit rfl hr2))
          have U1 := hidMk (ui.undo HW1.out hsz1)
          unfold bkP at LK0 U1
          have HUK := hidMk hK9
          clear ui hK9 hz
          go_wp2_with (first
            | (refine wpList_val rfl (exec_loadW wr rfl (t := 53) (u := .pointer (some ⟨bb, k, none⟩)) (v := .pointer (some ⟨r.bk, 0, none⟩)) rfl rfl LK0.out) ?_; clear LK0)
            | (go_at_call 22; refine U1.out.mono ?_; rintro e w11 ⟨rfl, ui11, hk11, hs11, cc, hcc⟩; have UI11 := hidMk ui11; have HK11 := hidMk hk11; clear U1 hcc ui11 hk11)
            | fail)
          refine ⟨⟨_, k, _, rfl, by omega, by omega, UI11.out, fun j hj => (HK11.out j hj).trans (HUK.out j hj), by omega⟩, ?_⟩
          show ((k : Int) - 1 + 1).toNat < ((k : Int) + 1).toNat
          omega
    · obtain rfl : z = (k : Int) := by omega
      obtain ⟨r, hr1, hr2⟩ := left_cons HM2.out hm
      obtain ⟨bb, cb, ebb⟩ := (R2.out wr hK9).form (i := k) (by rw [List.length_map, List.length_reverse, HM2.out]; omega)
      rw [List.length_map, List.length_reverse, HM2.out] at ebb
      injection ebb with eb1 eb2 eb3
      subst eb1
      clear eb2 eb3
      rw [hr1] at ui
      have hB : w1.heap.size ≤ wr.heap.size := Nat.le_trans HB9.out hsz
      have HLK := hidMk (fun (X : World) (hX : ∀ j, K j → X.heap[j]? = w9.heap[j]?) => load_bkB ((R2.out X hX).hit rfl hr2))
      have HU1 := hidMk (fun (X : World) (h : UI w1.heap.size w K s0.t (Q1 ++ []) f1 X (r :: Q2.drop (m2 - k)) fc) (hb : w1.heap.size ≤ X.heap.size) => h.undo HW1.out hb)
      have hnd := ui.nd
      simp only [List.cons_append, List.map_cons, List.nodup_cons] at hnd
      have HND := hidMk hnd
      have HIX := hidMk (fun (X : World) => ix_bkB (b := bb) (c := yb) (show k < m2 by omega) (show m2 ≤ 9223372036854775807 by omega) X)
      clear hnd hz
      unfold bkP at HLK HU1
      by_cases k0 : k = 0
      · subst k0
        have HUI0 := hidMk ui
        have HKK := hidMk hK9
        clear ui hK9
        go_upto_region 13 with fail
        have LK0 := hidMk (HLK.out wr HKK.out)
        have U1 := hidMk (HU1.out wr HUI0.out hB)
        have HUK := hidMk HKK.out
        go_wp2_with (first
          | (refine wpList_val rfl (exec_loadW wr rfl (t := 53) (u := .pointer (some ⟨bb, 0, none⟩)) (v := .pointer (some ⟨r.bk, 0, none⟩)) rfl rfl LK0.out) ?_; clear LK0)
          | (go_at_call 22; refine U1.out.mono ?_; rintro e w11 ⟨rfl, ui11, hk11, hs11, cc, hcc⟩; have hK11 : ∀ j, K j → w11.heap[j]? = w9.heap[j]? := fun j hj => (hk11 j hj).trans (HUK.out j hj); have LK1 := hidMk (HLK.out w11 hK11); have MS1 := hidMk (ui11.miss hcc (ptr_ne HND.out.1)); have UI11 := hidMk ui11; have HK11 := hidMk hK11; clear U1 hcc hk11 hK11 ui11)
          | (refine wpList_val rfl (exec_loadW w11 rfl (t := 53) (u := .pointer (some ⟨bb, 0, none⟩)) (v := .pointer (some ⟨r.bk, 0, none⟩)) rfl rfl LK1.out) ?_; clear LK1)
          | (go_at_call 22; refine MS1.out.mono ?_; rintro e w12 ⟨rfl, b12⟩; clear MS1)
          | fail)
        have ui12 := UI11.out.below b12
        have hK12 : ∀ j, K j → w12.heap[j]? = w9.heap[j]? := fun j hj => by
          obtain ⟨s9, _, _, h9⟩ := UI11.out.own
          exact (b12.block j (h9 j hj).1).trans (HK11.out j hj)
        refine ⟨⟨_, 0, _, rfl, by omega, by omega, ui12, hK12, by have := b12.size; omega⟩, ?_⟩
        show _ < _
        simp
      · obtain ⟨rl, hl1, hl2⟩ := left_last (k := k - 1) HM2.out (by omega)
        rw [show k - 1 + 1 = k by omega] at hl1
        obtain ⟨sx, ox, _, hx9⟩ := ui.own
        obtain ⟨cx, hcx⟩ := Hist.mem ox.tree.hist (r := rl) (by simp [hl1])
        have hneq : some (⟨rl.bk, 0, none⟩ : Addr) ≠ ptr ((r :: Q2.drop (m2 - k)) ++ (Q1 ++ [])) := by
          simp only [List.cons_append, ptr]
          intro e
          injection e with e
          injection e with e
          exact HND.out.1 (by rw [← e]; exact List.mem_map.2 ⟨rl, by simp [hl1], rfl⟩)
        have MS0 := hidMk (ui.miss hcx hneq)
        have LL := hidMk (load_bkB ((R2.out wr hK9).hit rfl hl2))
        unfold bkP at LL
        have hkp : (0 : Int) < (k : Int) := by omega
        have HUI0 := hidMk ui
        have HKK := hidMk hK9
        have HLT := hidMk (fun j hj => (hx9 j hj).1)
        clear ui hK9 ox hx9 hcx hneq hl1 hl2
        go_upto_region 13 with (first
          | (refine wpList_val rfl (exec_loadW wr rfl (t := 53) (u := .pointer (some ⟨bb, 0, none⟩)) (v := .pointer (some ⟨rl.bk, 0, none⟩)) rfl rfl LL.out) ?_; clear LL)
          | (go_at_call 22; refine MS0.out.mono ?_; rintro e w10 ⟨rfl, b10⟩; clear MS0)
          | fail)
        have HUI1 := hidMk (HUI0.out.below b10)
        have HKK1 := hidMk (fun j (hj : K j) => (b10.block j (HLT.out j hj)).trans (HKK.out j hj))
        have hB10 : w1.heap.size ≤ w10.heap.size := Nat.le_trans hB b10.size
        have hs10 := b10.size
        have LK0 := hidMk (HLK.out w10 HKK1.out)
        have U1 := hidMk (HU1.out w10 HUI1.out hB10)
        have HUK := hidMk HKK1.out
        go_wp2_with (first
          | (refine wpList_val rfl (exec_loadW w10 rfl (t := 53) (u := .pointer (some ⟨bb, k, none⟩)) (v := .pointer (some ⟨r.bk, 0, none⟩)) rfl rfl LK0.out) ?_; clear LK0)
          | (go_at_call 22; refine U1.out.mono ?_; rintro e w11 ⟨rfl, ui11, hk11, hs11, cc, hcc⟩; have hK11 : ∀ j, K j → w11.heap[j]? = w9.heap[j]? := fun j hj => (hk11 j hj).trans (HUK.out j hj); have LK1 := hidMk (HLK.out w11 hK11); have MS1 := hidMk (ui11.miss hcc (ptr_ne HND.out.1)); have UI11 := hidMk ui11; have HK11 := hidMk hK11; clear U1 hcc hk11 hK11 ui11)
          | (refine wpList_val rfl (exec_loadW w11 rfl (t := 53) (u := .pointer (some ⟨bb, k, none⟩)) (v := .pointer (some ⟨r.bk, 0, none⟩)) rfl rfl LK1.out) ?_; clear LK1)
          | (go_at_call 22; refine MS1.out.mono ?_; rintro e w12 ⟨rfl, b12⟩; clear MS1)
          | fail)
        have ui12 := UI11.out.below b12
        have hK12 : ∀ j, K j → w12.heap[j]? = w9.heap[j]? := fun j hj => by
          obtain ⟨s9, _, _, h9⟩ := UI11.out.own
          exact (b12.block j (h9 j hj).1).trans (HK11.out j hj)
        refine ⟨⟨_, k, _, rfl, by omega, by omega, ui12, hK12, by have := b12.size; omega⟩, ?_⟩
        show ((k : Int) - 1 + 1).toNat < ((k : Int) + 1).toNat
        omega
end Go.Proofs.Ytoofljkgdjjllab

