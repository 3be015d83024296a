import Derived.Test.YtoofljkgdjjllabRg
import Derived.Test.YtoofljkgdjjllabP0
import Derived.Test.YtoofljkgdjjllabP2
namespace Go.Proofs.Ytoofljkgdjjllab
open Go.RowKit
set_option linter.unusedVariables false
set_option linter.unusedSimpArgs false

theorem exec_bs2 {P : Program} {w w2 : World} {a : Act} {o : Oper} {t n : Nat} {x y : Operand} {xv yv v : Value} (ho : o.op = .buildSlice t n #[(0, x), (1, y)]) (hx : a.eval x = xv) (hy : a.eval y = yv) (hl : (Instr.buildSlice t n #[(0, xv), (1, yv)]).run P w = .ok v w2) : (execOp a.eval o).run P w = .ok (.value v) w2 := by
  unfold execOp; simp only [ho, List.map_toArray, List.map_cons, List.map_nil, hx, hy, Sem.run_bind, hl, Result.andThen_ok, Sem.run_pure]
def refused7_o0 : Oper := { dst := some 25, op := Op.move (Operand.tmp 0), type := 22, pos := "outright.go:234", after := #[], guard := none }
def refused7_o1 : Oper := { dst := some 26, op := Op.call { callee := Callee.value (Operand.func 16), args := #[Operand.tmp 25], argTypes := #[22] }, type := 30, pos := "outright.go:234", after := #[{ on := 0, ground := Ground.data }], guard := none }
def refused7_o2 : Oper := { dst := some 27, op := Op.fieldAddr 57 (Operand.tmp 3) 1, type := 0, pos := "outright.go:234", after := #[], guard := none }
def refused7_o3 : Oper := { dst := some 28, op := Op.load 35 (Operand.tmp 27), type := 35, pos := "outright.go:234", after := #[{ on := 2, ground := Ground.data }], guard := none }
def refused7_o4 : Oper := { dst := some 29, op := Op.fieldAddr 57 (Operand.tmp 3) 2, type := 0, pos := "outright.go:234", after := #[], guard := none }
def refused7_o5 : Oper := { dst := some 30, op := Op.load 35 (Operand.tmp 29), type := 35, pos := "outright.go:234", after := #[{ on := 4, ground := Ground.data }], guard := none }
def refused7_o6 : Oper := { dst := some 31, op := Op.buildSlice 30 2 #[(0, Operand.tmp 28), (1, Operand.tmp 30)], type := 30, pos := "outright.go:234", after := #[{ on := 3, ground := Ground.data }, { on := 5, ground := Ground.data }], guard := none }
def refused7_o7 : Oper := { dst := some 32, op := Op.call { callee := Callee.builtin Builtin.append, args := #[Operand.tmp 26, Operand.tmp 31], argTypes := #[30, 30] }, type := 30, pos := "outright.go:234", after := #[{ on := 1, ground := Ground.data }, { on := 6, ground := Ground.data }, { on := 1, ground := Ground.chain }], guard := none }
def refused7_o8 : Oper := { dst := some 6, op := Op.assign (Operand.tmp 32), type := 30, pos := "outright.go:234", after := #[{ on := 7, ground := Ground.data }, { on := 7, ground := Ground.chain }, { on := 0, ground := Ground.phase }, { on := 1, ground := Ground.phase }, { on := 2, ground := Ground.phase }, { on := 3, ground := Ground.phase }, { on := 4, ground := Ground.phase }, { on := 5, ground := Ground.phase }, { on := 6, ground := Ground.phase }, { on := 7, ground := Ground.phase }], guard := none }
def refused7_ops : Array Oper := #[refused7_o0, refused7_o1, refused7_o2, refused7_o3, refused7_o4, refused7_o5, refused7_o6, refused7_o7, refused7_o8]
set_option maxRecDepth 100000 in
set_option maxHeartbeats 4000000 in
theorem refused7 (bo : Nat) (lv kv uv nv2 : Value) (w12 : World) (S : World → Prop) (V Fin : Value → World → Prop) (a : Act) (w : World) (Q : Exit → Act → World → Prop) (hsz : a.tmps.size = 110)
    (t0 : a.tmps.getD 0 undef = lv)
    (t3 : a.tmps.getD 3 undef = .pointer (some ⟨bo, 0, none⟩))
    (GF1 : ∀ W, (Instr.fieldAt 57 (.pointer (some ⟨bo, 0, none⟩)) 1).run Try.prog W = .ok (.pointer (some ⟨bo, 1, none⟩)) W) (GF2 : ∀ W, (Instr.fieldAt 57 (.pointer (some ⟨bo, 0, none⟩)) 2).run Try.prog W = .ok (.pointer (some ⟨bo, 34, none⟩)) W) (GK : ∀ W, S W → (Instr.loadAt 35 (.pointer (some ⟨bo, 1, none⟩))).run Try.prog W = .ok kv W) (GU : ∀ W, S W → (Instr.loadAt 35 (.pointer (some ⟨bo, 34, none⟩))).run Try.prog W = .ok uv W) (S0 : S w.drew)
    (CN : Calls Try.prog 16 #[lv] w.drew fun e w' => ∃ v, e = .returned v ∧ V v w')
    (HST : ∀ v X, V v X → ∃ nv w2 qv w3, (Instr.buildSlice 30 2 #[(0, kv), (1, uv)]).run Try.prog X = .ok nv w2 ∧ (Builtin.append_ #[30, 30] 30 #[v, nv]).run Try.prog w2 = .ok qv w3 ∧ S X ∧ S w2 ∧ S w3 ∧ Fin qv w3)
    (EB2 : (Instr.buildSlice 30 2 #[(0, kv), (1, uv)]).run Try.prog w.drew = .ok nv2 w12) (S12 : S w12) (CN2 : Calls Try.prog 16 #[lv] w12 fun e w' => ∃ v, e = .returned v ∧ S w' ∧ ∃ qv w3, (Builtin.append_ #[30, 30] 30 #[v, nv2]).run Try.prog w' = .ok qv w3 ∧ S w3 ∧ Fin qv w3)
    (h1 : ∀ (v nv qv : Value) (a' : Act) (w' : World), Fin qv w' → a' = (((((((((a).put (some 25) (lv)).put (some 27) (.pointer (some ⟨bo, 1, none⟩))).put (some 28) (kv)).put (some 29) (.pointer (some ⟨bo, 34, none⟩))).put (some 30) (uv)).put (some 26) (v)).put (some 31) (nv)).put (some 32) (qv)).put (some 6) (qv) → Q .normal a' w')
    (h2 : ∀ (v nv qv : Value) (a' : Act) (w' : World), Fin qv w' → a' = (((((((((a).put (some 25) (lv)).put (some 27) (.pointer (some ⟨bo, 1, none⟩))).put (some 28) (kv)).put (some 29) (.pointer (some ⟨bo, 34, none⟩))).put (some 30) (uv)).put (some 31) (nv2)).put (some 26) (v)).put (some 32) (qv)).put (some 6) (qv) → Q .normal a' w') :
    (Code.region 7 refused7_ops true).wp Try.prog Q a w := by
  refine wp_region_noPanic ?_
  refine wp_region_held_drew (S := fun w' => S w') (by kernel_rfl) (S0) (fun hHeld => ?_)
  refine tk 0 refused7_o0 (lv) (by rfl) (fun w1 hw => exec_move rfl t0) hHeld (fun a1 e1 => ?_)
  rw [← e1] at h1 h2
  have z1 := pz e1 hsz
  replace t3 := pk e1 t3
  clear t0
  have t25 := pq e1 hsz
  clear e1 hsz
  refine tk 2 refused7_o2 (.pointer (some ⟨bo, 1, none⟩)) (by rfl) (fun w1 hw => exec_fieldAt rfl t3 (GF1 _)) hHeld (fun a2 e2 => ?_)
  rw [← e2] at h1 h2
  have z2 := pz e2 z1
  replace t3 := pk e2 t3
  replace t25 := pk e2 t25
  have t27 := pq e2 z1
  clear e2 z1
  refine tk 3 refused7_o3 (kv) (by rfl) (fun w1 hw => exec_load rfl t27 (GK _ hw)) hHeld (fun a3 e3 => ?_)
  rw [← e3] at h1 h2
  have z3 := pz e3 z2
  replace t3 := pk e3 t3
  replace t25 := pk e3 t25
  clear t27
  have t28 := pq e3 z2
  clear e3 z2
  refine tk 4 refused7_o4 (.pointer (some ⟨bo, 34, none⟩)) (by rfl) (fun w1 hw => exec_fieldAt rfl t3 (GF2 _)) hHeld (fun a4 e4 => ?_)
  rw [← e4] at h1 h2
  have z4 := pz e4 z3
  replace t25 := pk e4 t25
  replace t28 := pk e4 t28
  clear t3
  have t29 := pq e4 z3
  clear e4 z3
  refine tk 5 refused7_o5 (uv) (by rfl) (fun w1 hw => exec_load rfl t29 (GU _ hw)) hHeld (fun a5 e5 => ?_)
  rw [← e5] at h1 h2
  have z5 := pz e5 z4
  replace t25 := pk e5 t25
  replace t28 := pk e5 t28
  clear t29
  have t30 := pq e5 z4
  clear e5 z4
  refine wpAnyH_ready (rs := [1, 6]) (by kernel_rfl) (by simp) ?_
  refine AllReadyH.cons (o := refused7_o1) rfl (fun K hK => ?_) (AllReadyH.cons (o := refused7_o6) rfl (fun K hK => ?_) (AllReadyH.nil))
  · clear h2
    rw [if_pos (by rfl)]
    unfold refused7_o1 at hK ⊢
    go_simp
    refine (CN).mono ?_
    rintro e x6 ⟨v, rfl, hc⟩
    try go_wp2_with fail
    obtain ⟨nv, w2, qv, w3, EB, EA, S1, S2, S3, FN⟩ := HST v x6 hc; (try replace h1 := h1 v nv qv); (try replace h2 := h2 v nv qv)
    refine hK.out _ _ (S1) (fun hHeld => ?_)
    clear hK K
    change wpAnyH _ _ _ _ _ _ _ (a5.put (some 26) (v)) _
    obtain ⟨a6, e6⟩ : ∃ act, act = a5.put (some 26) (v) := ⟨_, rfl⟩
    rw [← e6] at h1 ⊢
    have z6 := pz e6 z5
    replace t28 := pk e6 t28
    replace t30 := pk e6 t30
    clear t25
    have t26 := pq e6 z5
    clear e6 z5
    refine wpAnyH_ready (rs := [6]) (by kernel_rfl) (by simp) ?_
    refine AllReadyH.cons (o := refused7_o6) rfl (fun K hK => ?_) AllReadyH.nil
    have X := exec_bs2 (P := Try.prog) (a := a6) (o := refused7_o6) rfl t28 t30 EB
    rw [if_pos (by rfl), Oper.wp, X]
    show K _ _
    clear X
    refine hK.out _ _ (S2) (fun hHeld => ?_)
    clear hK K
    change wpAnyH _ _ _ _ _ _ _ (a6.put (some 31) (nv)) _
    obtain ⟨a7, e7⟩ : ∃ act, act = a6.put (some 31) (nv) := ⟨_, rfl⟩
    rw [← e7] at h1 ⊢
    have z7 := pz e7 z6
    replace t26 := pk e7 t26
    clear t28 t30
    have t31 := pq e7 z6
    clear e7 z6
    refine wpAnyH_ready (rs := [7]) (by kernel_rfl) (by simp) ?_
    refine AllReadyH.cons (o := refused7_o7) rfl (fun K hK => ?_) AllReadyH.nil
    have X := exec_append (P := Try.prog) (a := a7) (o := refused7_o7) rfl t26 t31 EA
    rw [if_pos (by rfl), Oper.wp, X]
    show K _ _
    clear X
    refine hK.out _ _ (S3) (fun hHeld => ?_)
    clear hK K
    change wpAnyH _ _ _ _ _ _ _ (a7.put (some 32) (qv)) _
    obtain ⟨a8, e8⟩ : ∃ act, act = a7.put (some 32) (qv) := ⟨_, rfl⟩
    rw [← e8] at h1 ⊢
    have z8 := pz e8 z7
    clear t26 t31
    have t32 := pq e8 z7
    clear e8 z7
    refine tk 8 refused7_o8 (qv) (by rfl) (fun w1 hw => exec_assign rfl t32) hHeld (fun a9 e9 => ?_)
    rw [← e9] at h1
    have z9 := pz e9 z8
    clear t32
    clear e9 z8
    exact wpAnyH_done (by kernel_rfl) (NoPanic.normal (h1 _ _ (FN) rfl)) _
  · clear h1
    have X := exec_bs2 (P := Try.prog) (a := a5) (o := refused7_o6) rfl t28 t30 EB2
    rw [if_pos (by rfl), Oper.wp, X]
    show K _ _
    clear X
    refine hK.out _ _ (S12) (fun hHeld => ?_)
    clear hK K
    change wpAnyH _ _ _ _ _ _ _ (a5.put (some 31) (nv2)) _
    obtain ⟨a10, e10⟩ : ∃ act, act = a5.put (some 31) (nv2) := ⟨_, rfl⟩
    rw [← e10] at h2 ⊢
    have z10 := pz e10 z5
    replace t25 := pk e10 t25
    clear t28 t30
    have t31 := pq e10 z5
    clear e10 z5
    refine wpAnyH_ready (rs := [1]) (by kernel_rfl) (by simp) ?_
    refine AllReadyH.cons (o := refused7_o1) rfl (fun K hK => ?_) AllReadyH.nil
    rw [if_pos (by rfl)]
    unfold refused7_o1 at hK ⊢
    go_simp
    refine (CN2).mono ?_
    rintro e x11 ⟨v, rfl, hs, qv, w3, EA, S3, FN⟩
    try go_wp2_with fail
    (try replace h2 := h2 v nv2 qv)
    refine hK.out _ _ (hs) (fun hHeld => ?_)
    clear hK K
    change wpAnyH _ _ _ _ _ _ _ (a10.put (some 26) (v)) _
    obtain ⟨a11, e11⟩ : ∃ act, act = a10.put (some 26) (v) := ⟨_, rfl⟩
    rw [← e11] at h2 ⊢
    have z11 := pz e11 z10
    replace t31 := pk e11 t31
    clear t25
    have t26 := pq e11 z10
    clear e11 z10
    refine wpAnyH_ready (rs := [7]) (by kernel_rfl) (by simp) ?_
    refine AllReadyH.cons (o := refused7_o7) rfl (fun K hK => ?_) AllReadyH.nil
    have X := exec_append (P := Try.prog) (a := a11) (o := refused7_o7) rfl t26 t31 EA
    rw [if_pos (by rfl), Oper.wp, X]
    show K _ _
    clear X
    refine hK.out _ _ (S3) (fun hHeld => ?_)
    clear hK K
    change wpAnyH _ _ _ _ _ _ _ (a11.put (some 32) (qv)) _
    obtain ⟨a12, e12⟩ : ∃ act, act = a11.put (some 32) (qv) := ⟨_, rfl⟩
    rw [← e12] at h2 ⊢
    have z12 := pz e12 z11
    clear t31 t26
    have t32 := pq e12 z11
    clear e12 z11
    refine tk 8 refused7_o8 (qv) (by rfl) (fun w1 hw => exec_assign rfl t32) hHeld (fun a13 e13 => ?_)
    rw [← e13] at h2
    have z13 := pz e13 z12
    clear t32
    clear e13 z12
    exact wpAnyH_done (by kernel_rfl) (NoPanic.normal (h2 _ _ (FN) rfl)) _
def refused15_o0 : Oper := { dst := some 57, op := Op.move (Operand.tmp 13), type := 51, pos := "outright.go:250", after := #[], guard := none }
def refused15_o1 : Oper := { dst := some 58, op := Op.binOp BinOp.eql 51 (Operand.tmp 57) (Operand.const (Value.int IntKind.i64 0)) 51, type := 4, pos := "outright.go:250", after := #[{ on := 0, ground := Ground.data }], guard := none }
def refused15_o2 : Oper := { dst := some 59, op := Op.move (Operand.tmp 58), type := 4, pos := "outright.go:250", after := #[{ on := 1, ground := Ground.data }], guard := none }
def refused15_o3 : Oper := { dst := some 60, op := Op.move (Operand.tmp 5), type := 24, pos := "outright.go:250", after := #[{ on := 2, ground := Ground.guard }], guard := some (2, true) }
def refused15_o4 : Oper := { dst := some 61, op := Op.move (Operand.tmp 6), type := 30, pos := "outright.go:250", after := #[{ on := 2, ground := Ground.guard }], guard := some (2, true) }
def refused15_o5 : Oper := { dst := some 62, op := Op.call { callee := Callee.value (Operand.func 21), args := #[Operand.tmp 60, Operand.tmp 61], argTypes := #[24, 30] }, type := 49, pos := "outright.go:250", after := #[{ on := 3, ground := Ground.data }, { on := 4, ground := Ground.data }, { on := 2, ground := Ground.chain }, { on := 2, ground := Ground.guard }], guard := some (2, true) }
def refused15_o6 : Oper := { dst := some 63, op := Op.load 49 (Operand.tmp 7), type := 49, pos := "outright.go:250", after := #[{ on := 2, ground := Ground.guard }], guard := some (2, true) }
def refused15_o7 : Oper := { dst := some 64, op := Op.call { callee := Callee.value (Operand.func 23), args := #[Operand.tmp 62, Operand.tmp 63], argTypes := #[49, 49] }, type := 4, pos := "outright.go:250", after := #[{ on := 5, ground := Ground.data }, { on := 6, ground := Ground.data }, { on := 5, ground := Ground.chain }, { on := 2, ground := Ground.guard }], guard := some (2, true) }
def refused15_o8 : Oper := { dst := some 65, op := Op.pick (Operand.tmp 59) (Operand.tmp 64) (Operand.const (Value.bool false)), type := 4, pos := "outright.go:250", after := #[{ on := 2, ground := Ground.data }, { on := 7, ground := Ground.data }], guard := none }
def refused15_o9 : Oper := { dst := some 4, op := Op.assign (Operand.tmp 65), type := 4, pos := "outright.go:250", after := #[{ on := 8, ground := Ground.data }, { on := 7, ground := Ground.chain }, { on := 0, ground := Ground.phase }, { on := 1, ground := Ground.phase }, { on := 2, ground := Ground.phase }, { on := 3, ground := Ground.phase }, { on := 4, ground := Ground.phase }, { on := 5, ground := Ground.phase }, { on := 6, ground := Ground.phase }, { on := 7, ground := Ground.phase }, { on := 8, ground := Ground.phase }], guard := none }
def refused15_ops : Array Oper := #[refused15_o0, refused15_o1, refused15_o2, refused15_o3, refused15_o4, refused15_o5, refused15_o6, refused15_o7, refused15_o8, refused15_o9]
set_option maxRecDepth 100000 in
set_option maxHeartbeats 4000000 in
theorem refused15 (S : World → Prop) (V : Value → World → Prop) (bw : Nat) (tv iv wv ev : Value) (a : Act) (w : World) (Q : Exit → Act → World → Prop) (hsz : a.tmps.size = 110)
    (t13 : a.tmps.getD 13 undef = ev)
    (t5 : a.tmps.getD 5 undef = tv)
    (t6 : a.tmps.getD 6 undef = iv)
    (t7 : a.tmps.getD 7 undef = .pointer (some ⟨bw, 0, none⟩))
    (h0 : S w.drew) (CT : ∀ W, S W → Calls Try.prog 21 #[tv, iv] W fun e w' => ∃ v, e = .returned v ∧ S w' ∧ V v w') (CS : ∀ W v, V v W → Calls Try.prog 23 #[v, wv] W fun e w' => e = .returned (.bool true) ∧ S w')
    (G1 : ∀ W, (eqGuard BinOp.eql 51 (Operand.tmp 57) (Operand.const (Value.int IntKind.i64 0)) (ev) (.int .i64 0)).run Try.prog W = .ok () W)
    (G2 : ∀ W, S W → (binOp BinOp.eql 51 (ev) (.int .i64 0)).run Try.prog W = .ok (.bool true) W)
    (G3 : ∀ W, S W → (Instr.loadAt 49 (.pointer (some ⟨bw, 0, none⟩))).run Try.prog W = .ok (wv) W)
    (h : ∀ (v : Value) (a' : Act) (w' : World), S w' → a' = ((((((((((a).put (some 57) (ev)).put (some 58) (.bool true)).put (some 59) (.bool true)).put (some 60) (tv)).put (some 61) (iv)).put (some 63) (wv)).put (some 62) (v)).put (some 64) (.bool true)).put (some 65) (.bool true)).put (some 4) (.bool true) → Q .normal a' w') :
    (Code.region 15 refused15_ops true).wp Try.prog Q a w := by
  refine wp_region_noPanic ?_
  refine wp_region_held_drew (S := fun w' => S w') (by kernel_rfl) (h0) (fun hHeld => ?_)
  refine tk 0 refused15_o0 (ev) (by rfl) (fun w1 hw => exec_move rfl t13) hHeld (fun a1 e1 => ?_)
  rw [← e1] at h
  have z1 := pz e1 hsz
  replace t5 := pk e1 t5
  replace t6 := pk e1 t6
  replace t7 := pk e1 t7
  clear t13
  have t57 := pq e1 hsz
  clear e1 hsz
  refine tk 1 refused15_o1 (.bool true) (by rfl) (fun w1 hw => exec_binOp rfl t57 rfl (G1 _) (G2 _ hw)) hHeld (fun a2 e2 => ?_)
  rw [← e2] at h
  have z2 := pz e2 z1
  replace t5 := pk e2 t5
  replace t6 := pk e2 t6
  replace t7 := pk e2 t7
  clear t57
  have t58 := pq e2 z1
  clear e2 z1
  refine tk 2 refused15_o2 (.bool true) (by rfl) (fun w1 hw => exec_move rfl t58) hHeld (fun a3 e3 => ?_)
  rw [← e3] at h
  have z3 := pz e3 z2
  replace t5 := pk e3 t5
  replace t6 := pk e3 t6
  replace t7 := pk e3 t7
  clear t58
  have t59 := pq e3 z2
  clear e3 z2
  refine tk 3 refused15_o3 (tv) (by simp [Region.wanted, yielded, refused15_ops, refused15_o3, refused15_o2, tget z3 (by decide) t59]) (fun w1 hw => exec_move rfl t5) hHeld (fun a4 e4 => ?_)
  rw [← e4] at h
  have z4 := pz e4 z3
  replace t6 := pk e4 t6
  replace t7 := pk e4 t7
  replace t59 := pk e4 t59
  clear t5
  have t60 := pq e4 z3
  clear e4 z3
  refine tk 4 refused15_o4 (iv) (by simp [Region.wanted, yielded, refused15_ops, refused15_o4, refused15_o2, tget z4 (by decide) t59]) (fun w1 hw => exec_move rfl t6) hHeld (fun a5 e5 => ?_)
  rw [← e5] at h
  have z5 := pz e5 z4
  replace t7 := pk e5 t7
  replace t59 := pk e5 t59
  replace t60 := pk e5 t60
  clear t6
  have t61 := pq e5 z4
  clear e5 z4
  refine tk 6 refused15_o6 (wv) (by simp [Region.wanted, yielded, refused15_ops, refused15_o6, refused15_o2, tget z5 (by decide) t59]) (fun w1 hw => exec_load rfl t7 (G3 _ hw)) hHeld (fun a6 e6 => ?_)
  rw [← e6] at h
  have z6 := pz e6 z5
  replace t59 := pk e6 t59
  replace t60 := pk e6 t60
  replace t61 := pk e6 t61
  clear t7
  have t63 := pq e6 z5
  clear e6 z5
  refine wpAnyH_ready (rs := [5]) (by kernel_rfl) (by simp) ?_
  refine AllReadyH.cons (o := refused15_o5) rfl (fun K hK => ?_) AllReadyH.nil
  rw [if_pos (by simp [Region.wanted, yielded, refused15_ops, refused15_o5, refused15_o2, tget z6 (by decide) t59])]
  unfold refused15_o5 at hK ⊢
  go_simp
  refine (CT _ hHeld).mono ?_
  rintro e x7 ⟨v, rfl, hs, hv⟩
  try go_wp2_with fail
  replace h := h v
  refine hK.out _ _ (hs) (fun hHeld => ?_)
  clear hK K
  change wpAnyH _ _ _ _ _ _ _ (a6.put (some 62) (v)) _
  obtain ⟨a7, e7⟩ : ∃ act, act = a6.put (some 62) (v) := ⟨_, rfl⟩
  rw [← e7] at h ⊢
  have z7 := pz e7 z6
  replace t59 := pk e7 t59
  replace t63 := pk e7 t63
  clear t60 t61
  have t62 := pq e7 z6
  clear e7 z6
  refine wpAnyH_ready (rs := [7]) (by kernel_rfl) (by simp) ?_
  refine AllReadyH.cons (o := refused15_o7) rfl (fun K hK => ?_) AllReadyH.nil
  rw [if_pos (by simp [Region.wanted, yielded, refused15_ops, refused15_o7, refused15_o2, tget z7 (by decide) t59])]
  unfold refused15_o7 at hK ⊢
  go_simp
  refine (CS _ _ hv).mono ?_
  rintro e x8 ⟨rfl, hs2⟩
  try go_wp2_with fail
  skip
  refine hK.out _ _ (hs2) (fun hHeld => ?_)
  clear hK K
  change wpAnyH _ _ _ _ _ _ _ (a7.put (some 64) (.bool true)) _
  obtain ⟨a8, e8⟩ : ∃ act, act = a7.put (some 64) (.bool true) := ⟨_, rfl⟩
  rw [← e8] at h ⊢
  have z8 := pz e8 z7
  replace t59 := pk e8 t59
  clear t63 t62
  have t64 := pq e8 z7
  clear e8 z7
  refine tk 8 refused15_o8 (.bool true) (by rfl) (fun w1 hw => by unfold refused15_o8; go_simp) hHeld (fun a9 e9 => ?_)
  rw [← e9] at h
  have z9 := pz e9 z8
  clear t59 t64
  have t65 := pq e9 z8
  clear e9 z8
  refine tk 9 refused15_o9 (.bool true) (by rfl) (fun w1 hw => exec_assign rfl t65) hHeld (fun a10 e10 => ?_)
  rw [← e10] at h
  have z10 := pz e10 z9
  clear t65
  clear e10 z9
  exact wpAnyH_done (by kernel_rfl) (NoPanic.normal (h _ _ (hHeld) rfl)) _
def refused22n_o0 : Oper := { dst := some 101, op := Op.move (Operand.tmp 8), type := 51, pos := "outright.go:252", after := #[], guard := none }
def refused22n_o1 : Oper := { dst := some 102, op := Op.binOp BinOp.eql 51 (Operand.tmp 101) (Operand.const (Value.int IntKind.i64 0)) 51, type := 4, pos := "outright.go:252", after := #[{ on := 0, ground := Ground.data }], guard := none }
def refused22n_o2 : Oper := { dst := some 103, op := Op.move (Operand.tmp 102), type := 4, pos := "outright.go:252", after := #[{ on := 1, ground := Ground.data }], guard := none }
def refused22n_o3 : Oper := { dst := some 104, op := Op.move (Operand.tmp 5), type := 24, pos := "outright.go:252", after := #[{ on := 2, ground := Ground.guard }], guard := some (2, false) }
def refused22n_o4 : Oper := { dst := some 105, op := Op.move (Operand.tmp 6), type := 30, pos := "outright.go:252", after := #[{ on := 2, ground := Ground.guard }], guard := some (2, false) }
def refused22n_o5 : Oper := { dst := some 106, op := Op.call { callee := Callee.value (Operand.func 21), args := #[Operand.tmp 104, Operand.tmp 105], argTypes := #[24, 30] }, type := 49, pos := "outright.go:252", after := #[{ on := 3, ground := Ground.data }, { on := 4, ground := Ground.data }, { on := 2, ground := Ground.chain }, { on := 2, ground := Ground.guard }], guard := some (2, false) }
def refused22n_o6 : Oper := { dst := some 107, op := Op.load 49 (Operand.tmp 7), type := 49, pos := "outright.go:252", after := #[{ on := 2, ground := Ground.guard }], guard := some (2, false) }
def refused22n_o7 : Oper := { dst := some 108, op := Op.call { callee := Callee.value (Operand.func 23), args := #[Operand.tmp 106, Operand.tmp 107], argTypes := #[49, 49] }, type := 4, pos := "outright.go:252", after := #[{ on := 5, ground := Ground.data }, { on := 6, ground := Ground.data }, { on := 5, ground := Ground.chain }, { on := 2, ground := Ground.guard }], guard := some (2, false) }
def refused22n_o8 : Oper := { dst := some 109, op := Op.pick (Operand.tmp 103) (Operand.const (Value.bool true)) (Operand.tmp 108), type := 4, pos := "outright.go:252", after := #[{ on := 2, ground := Ground.data }, { on := 7, ground := Ground.data }], guard := none }
def refused22n_o9 : Oper := { dst := some 4, op := Op.assign (Operand.tmp 109), type := 4, pos := "outright.go:252", after := #[{ on := 8, ground := Ground.data }, { on := 7, ground := Ground.chain }, { on := 0, ground := Ground.phase }, { on := 1, ground := Ground.phase }, { on := 2, ground := Ground.phase }, { on := 3, ground := Ground.phase }, { on := 4, ground := Ground.phase }, { on := 5, ground := Ground.phase }, { on := 6, ground := Ground.phase }, { on := 7, ground := Ground.phase }, { on := 8, ground := Ground.phase }], guard := none }
def refused22n_ops : Array Oper := #[refused22n_o0, refused22n_o1, refused22n_o2, refused22n_o3, refused22n_o4, refused22n_o5, refused22n_o6, refused22n_o7, refused22n_o8, refused22n_o9]
set_option maxRecDepth 100000 in
set_option maxHeartbeats 4000000 in
theorem refused22n (S : World → Prop) (V : Value → World → Prop) (bw : Nat) (tv iv wv ev : Value) (a : Act) (w : World) (Q : Exit → Act → World → Prop) (hsz : a.tmps.size = 110)
    (t8 : a.tmps.getD 8 undef = ev)
    (t5 : a.tmps.getD 5 undef = tv)
    (t6 : a.tmps.getD 6 undef = iv)
    (t7 : a.tmps.getD 7 undef = .pointer (some ⟨bw, 0, none⟩))
    (h0 : S w.drew) (CT : ∀ W, S W → Calls Try.prog 21 #[tv, iv] W fun e w' => ∃ v, e = .returned v ∧ S w' ∧ V v w') (CS : ∀ W v, V v W → Calls Try.prog 23 #[v, wv] W fun e w' => e = .returned (.bool true) ∧ S w')
    (G1 : ∀ W, (eqGuard BinOp.eql 51 (Operand.tmp 101) (Operand.const (Value.int IntKind.i64 0)) (ev) (.int .i64 0)).run Try.prog W = .ok () W)
    (G2 : ∀ W, S W → (binOp BinOp.eql 51 (ev) (.int .i64 0)).run Try.prog W = .ok (.bool false) W)
    (G3 : ∀ W, S W → (Instr.loadAt 49 (.pointer (some ⟨bw, 0, none⟩))).run Try.prog W = .ok (wv) W)
    (h : ∀ (v : Value) (a' : Act) (w' : World), S w' → a' = ((((((((((a).put (some 101) (ev)).put (some 102) (.bool false)).put (some 103) (.bool false)).put (some 104) (tv)).put (some 105) (iv)).put (some 107) (wv)).put (some 106) (v)).put (some 108) (.bool true)).put (some 109) (.bool true)).put (some 4) (.bool true) → Q .normal a' w') :
    (Code.region 22 refused22n_ops true).wp Try.prog Q a w := by
  refine wp_region_noPanic ?_
  refine wp_region_held_drew (S := fun w' => S w') (by kernel_rfl) (h0) (fun hHeld => ?_)
  refine tk 0 refused22n_o0 (ev) (by rfl) (fun w1 hw => exec_move rfl t8) hHeld (fun a1 e1 => ?_)
  rw [← e1] at h
  have z1 := pz e1 hsz
  replace t5 := pk e1 t5
  replace t6 := pk e1 t6
  replace t7 := pk e1 t7
  clear t8
  have t101 := pq e1 hsz
  clear e1 hsz
  refine tk 1 refused22n_o1 (.bool false) (by rfl) (fun w1 hw => exec_binOp rfl t101 rfl (G1 _) (G2 _ hw)) hHeld (fun a2 e2 => ?_)
  rw [← e2] at h
  have z2 := pz e2 z1
  replace t5 := pk e2 t5
  replace t6 := pk e2 t6
  replace t7 := pk e2 t7
  clear t101
  have t102 := pq e2 z1
  clear e2 z1
  refine tk 2 refused22n_o2 (.bool false) (by rfl) (fun w1 hw => exec_move rfl t102) hHeld (fun a3 e3 => ?_)
  rw [← e3] at h
  have z3 := pz e3 z2
  replace t5 := pk e3 t5
  replace t6 := pk e3 t6
  replace t7 := pk e3 t7
  clear t102
  have t103 := pq e3 z2
  clear e3 z2
  refine tk 3 refused22n_o3 (tv) (by simp [Region.wanted, yielded, refused22n_ops, refused22n_o3, refused22n_o2, tget z3 (by decide) t103]) (fun w1 hw => exec_move rfl t5) hHeld (fun a4 e4 => ?_)
  rw [← e4] at h
  have z4 := pz e4 z3
  replace t6 := pk e4 t6
  replace t7 := pk e4 t7
  replace t103 := pk e4 t103
  clear t5
  have t104 := pq e4 z3
  clear e4 z3
  refine tk 4 refused22n_o4 (iv) (by simp [Region.wanted, yielded, refused22n_ops, refused22n_o4, refused22n_o2, tget z4 (by decide) t103]) (fun w1 hw => exec_move rfl t6) hHeld (fun a5 e5 => ?_)
  rw [← e5] at h
  have z5 := pz e5 z4
  replace t7 := pk e5 t7
  replace t103 := pk e5 t103
  replace t104 := pk e5 t104
  clear t6
  have t105 := pq e5 z4
  clear e5 z4
  refine tk 6 refused22n_o6 (wv) (by simp [Region.wanted, yielded, refused22n_ops, refused22n_o6, refused22n_o2, tget z5 (by decide) t103]) (fun w1 hw => exec_load rfl t7 (G3 _ hw)) hHeld (fun a6 e6 => ?_)
  rw [← e6] at h
  have z6 := pz e6 z5
  replace t103 := pk e6 t103
  replace t104 := pk e6 t104
  replace t105 := pk e6 t105
  clear t7
  have t107 := pq e6 z5
  clear e6 z5
  refine wpAnyH_ready (rs := [5]) (by kernel_rfl) (by simp) ?_
  refine AllReadyH.cons (o := refused22n_o5) rfl (fun K hK => ?_) AllReadyH.nil
  rw [if_pos (by simp [Region.wanted, yielded, refused22n_ops, refused22n_o5, refused22n_o2, tget z6 (by decide) t103])]
  unfold refused22n_o5 at hK ⊢
  go_simp
  refine (CT _ hHeld).mono ?_
  rintro e x7 ⟨v, rfl, hs, hv⟩
  try go_wp2_with fail
  replace h := h v
  refine hK.out _ _ (hs) (fun hHeld => ?_)
  clear hK K
  change wpAnyH _ _ _ _ _ _ _ (a6.put (some 106) (v)) _
  obtain ⟨a7, e7⟩ : ∃ act, act = a6.put (some 106) (v) := ⟨_, rfl⟩
  rw [← e7] at h ⊢
  have z7 := pz e7 z6
  replace t103 := pk e7 t103
  replace t107 := pk e7 t107
  clear t104 t105
  have t106 := pq e7 z6
  clear e7 z6
  refine wpAnyH_ready (rs := [7]) (by kernel_rfl) (by simp) ?_
  refine AllReadyH.cons (o := refused22n_o7) rfl (fun K hK => ?_) AllReadyH.nil
  rw [if_pos (by simp [Region.wanted, yielded, refused22n_ops, refused22n_o7, refused22n_o2, tget z7 (by decide) t103])]
  unfold refused22n_o7 at hK ⊢
  go_simp
  refine (CS _ _ hv).mono ?_
  rintro e x8 ⟨rfl, hs2⟩
  try go_wp2_with fail
  skip
  refine hK.out _ _ (hs2) (fun hHeld => ?_)
  clear hK K
  change wpAnyH _ _ _ _ _ _ _ (a7.put (some 108) (.bool true)) _
  obtain ⟨a8, e8⟩ : ∃ act, act = a7.put (some 108) (.bool true) := ⟨_, rfl⟩
  rw [← e8] at h ⊢
  have z8 := pz e8 z7
  replace t103 := pk e8 t103
  clear t107 t106
  have t108 := pq e8 z7
  clear e8 z7
  refine tk 8 refused22n_o8 (.bool true) (by rfl) (fun w1 hw => by unfold refused22n_o8; go_simp) hHeld (fun a9 e9 => ?_)
  rw [← e9] at h
  have z9 := pz e9 z8
  clear t103 t108
  have t109 := pq e9 z8
  clear e9 z8
  refine tk 9 refused22n_o9 (.bool true) (by rfl) (fun w1 hw => exec_assign rfl t109) hHeld (fun a10 e10 => ?_)
  rw [← e10] at h
  have z10 := pz e10 z9
  clear t109
  clear e10 z9
  exact wpAnyH_done (by kernel_rfl) (NoPanic.normal (h _ _ (hHeld) rfl)) _
def refused22y_o0 : Oper := { dst := some 101, op := Op.move (Operand.tmp 8), type := 51, pos := "outright.go:252", after := #[], guard := none }
def refused22y_o1 : Oper := { dst := some 102, op := Op.binOp BinOp.eql 51 (Operand.tmp 101) (Operand.const (Value.int IntKind.i64 0)) 51, type := 4, pos := "outright.go:252", after := #[{ on := 0, ground := Ground.data }], guard := none }
def refused22y_o2 : Oper := { dst := some 103, op := Op.move (Operand.tmp 102), type := 4, pos := "outright.go:252", after := #[{ on := 1, ground := Ground.data }], guard := none }
def refused22y_o3 : Oper := { dst := some 104, op := Op.move (Operand.tmp 5), type := 24, pos := "outright.go:252", after := #[{ on := 2, ground := Ground.guard }], guard := some (2, false) }
def refused22y_o4 : Oper := { dst := some 105, op := Op.move (Operand.tmp 6), type := 30, pos := "outright.go:252", after := #[{ on := 2, ground := Ground.guard }], guard := some (2, false) }
def refused22y_o5 : Oper := { dst := some 106, op := Op.call { callee := Callee.value (Operand.func 21), args := #[Operand.tmp 104, Operand.tmp 105], argTypes := #[24, 30] }, type := 49, pos := "outright.go:252", after := #[{ on := 3, ground := Ground.data }, { on := 4, ground := Ground.data }, { on := 2, ground := Ground.chain }, { on := 2, ground := Ground.guard }], guard := some (2, false) }
def refused22y_o6 : Oper := { dst := some 107, op := Op.load 49 (Operand.tmp 7), type := 49, pos := "outright.go:252", after := #[{ on := 2, ground := Ground.guard }], guard := some (2, false) }
def refused22y_o7 : Oper := { dst := some 108, op := Op.call { callee := Callee.value (Operand.func 23), args := #[Operand.tmp 106, Operand.tmp 107], argTypes := #[49, 49] }, type := 4, pos := "outright.go:252", after := #[{ on := 5, ground := Ground.data }, { on := 6, ground := Ground.data }, { on := 5, ground := Ground.chain }, { on := 2, ground := Ground.guard }], guard := some (2, false) }
def refused22y_o8 : Oper := { dst := some 109, op := Op.pick (Operand.tmp 103) (Operand.const (Value.bool true)) (Operand.tmp 108), type := 4, pos := "outright.go:252", after := #[{ on := 2, ground := Ground.data }, { on := 7, ground := Ground.data }], guard := none }
def refused22y_o9 : Oper := { dst := some 4, op := Op.assign (Operand.tmp 109), type := 4, pos := "outright.go:252", after := #[{ on := 8, ground := Ground.data }, { on := 7, ground := Ground.chain }, { on := 0, ground := Ground.phase }, { on := 1, ground := Ground.phase }, { on := 2, ground := Ground.phase }, { on := 3, ground := Ground.phase }, { on := 4, ground := Ground.phase }, { on := 5, ground := Ground.phase }, { on := 6, ground := Ground.phase }, { on := 7, ground := Ground.phase }, { on := 8, ground := Ground.phase }], guard := none }
def refused22y_ops : Array Oper := #[refused22y_o0, refused22y_o1, refused22y_o2, refused22y_o3, refused22y_o4, refused22y_o5, refused22y_o6, refused22y_o7, refused22y_o8, refused22y_o9]
set_option maxRecDepth 100000 in
set_option maxHeartbeats 4000000 in
theorem refused22y (S : World → Prop) (bw : Nat) (tv iv ev : Value) (a : Act) (w : World) (Q : Exit → Act → World → Prop) (hsz : a.tmps.size = 110)
    (t8 : a.tmps.getD 8 undef = ev)
    (t5 : a.tmps.getD 5 undef = tv)
    (t6 : a.tmps.getD 6 undef = iv)
    (t7 : a.tmps.getD 7 undef = .pointer (some ⟨bw, 0, none⟩))
    (h0 : S w.drew)
    (G1 : ∀ W, (eqGuard BinOp.eql 51 (Operand.tmp 101) (Operand.const (Value.int IntKind.i64 0)) (ev) (.int .i64 0)).run Try.prog W = .ok () W)
    (G2 : ∀ W, S W → (binOp BinOp.eql 51 (ev) (.int .i64 0)).run Try.prog W = .ok (.bool true) W)
    (h : ∀ (a' : Act) (w' : World), S w' → a' = ((((((((((a).put (some 101) (ev)).put (some 102) (.bool true)).put (some 103) (.bool true)).put (some 104) (undef)).put (some 105) (undef)).put (some 106) (undef)).put (some 107) (undef)).put (some 108) (undef)).put (some 109) (.bool true)).put (some 4) (.bool true) → Q .normal a' w') :
    (Code.region 22 refused22y_ops true).wp Try.prog Q a w := by
  refine wp_region_noPanic ?_
  refine wp_region_held_drew (S := fun w' => S w') (by kernel_rfl) (h0) (fun hHeld => ?_)
  refine tk 0 refused22y_o0 (ev) (by rfl) (fun w1 hw => exec_move rfl t8) hHeld (fun a1 e1 => ?_)
  rw [← e1] at h
  have z1 := pz e1 hsz
  replace t5 := pk e1 t5
  replace t6 := pk e1 t6
  replace t7 := pk e1 t7
  clear t8
  have t101 := pq e1 hsz
  clear e1 hsz
  refine tk 1 refused22y_o1 (.bool true) (by rfl) (fun w1 hw => exec_binOp rfl t101 rfl (G1 _) (G2 _ hw)) hHeld (fun a2 e2 => ?_)
  rw [← e2] at h
  have z2 := pz e2 z1
  replace t5 := pk e2 t5
  replace t6 := pk e2 t6
  replace t7 := pk e2 t7
  clear t101
  have t102 := pq e2 z1
  clear e2 z1
  refine tk 2 refused22y_o2 (.bool true) (by rfl) (fun w1 hw => exec_move rfl t102) hHeld (fun a3 e3 => ?_)
  rw [← e3] at h
  have z3 := pz e3 z2
  replace t5 := pk e3 t5
  replace t6 := pk e3 t6
  replace t7 := pk e3 t7
  clear t102
  have t103 := pq e3 z2
  clear e3 z2
  refine wpAnyH_take (i := 3) (oi := refused22y_o3) (v := undef) rfl (by kernel_rfl) (by kernel_rfl) (by kernel_rfl) (fun _ _ _ h => h) (Or.inr ⟨by simp [Region.wanted, yielded, refused22y_ops, refused22y_o3, refused22y_o2, tget z3 (by decide) t103], rfl⟩) hHeld ?_
  change wpAnyH _ _ _ _ _ _ _ (a3.put (some 104) (undef)) _
  obtain ⟨a4, e4⟩ : ∃ act, act = a3.put (some 104) (undef) := ⟨_, rfl⟩
  rw [← e4] at h ⊢
  have z4 := pz e4 z3
  replace t6 := pk e4 t6
  replace t7 := pk e4 t7
  replace t103 := pk e4 t103
  clear t5
  have t104 := pq e4 z3
  clear e4 z3
  refine wpAnyH_take (i := 4) (oi := refused22y_o4) (v := undef) rfl (by kernel_rfl) (by kernel_rfl) (by kernel_rfl) (fun _ _ _ h => h) (Or.inr ⟨by simp [Region.wanted, yielded, refused22y_ops, refused22y_o4, refused22y_o2, tget z4 (by decide) t103], rfl⟩) hHeld ?_
  change wpAnyH _ _ _ _ _ _ _ (a4.put (some 105) (undef)) _
  obtain ⟨a5, e5⟩ : ∃ act, act = a4.put (some 105) (undef) := ⟨_, rfl⟩
  rw [← e5] at h ⊢
  have z5 := pz e5 z4
  replace t7 := pk e5 t7
  replace t103 := pk e5 t103
  replace t104 := pk e5 t104
  clear t6
  have t105 := pq e5 z4
  clear e5 z4
  refine wpAnyH_take (i := 5) (oi := refused22y_o5) (v := undef) rfl (by kernel_rfl) (by kernel_rfl) (by kernel_rfl) (fun _ _ _ h => h) (Or.inr ⟨by simp [Region.wanted, yielded, refused22y_ops, refused22y_o5, refused22y_o2, tget z5 (by decide) t103], rfl⟩) hHeld ?_
  change wpAnyH _ _ _ _ _ _ _ (a5.put (some 106) (undef)) _
  obtain ⟨a6, e6⟩ : ∃ act, act = a5.put (some 106) (undef) := ⟨_, rfl⟩
  rw [← e6] at h ⊢
  have z6 := pz e6 z5
  replace t7 := pk e6 t7
  replace t103 := pk e6 t103
  clear t104 t105
  have t106 := pq e6 z5
  clear e6 z5
  refine wpAnyH_take (i := 6) (oi := refused22y_o6) (v := undef) rfl (by kernel_rfl) (by kernel_rfl) (by kernel_rfl) (fun _ _ _ h => h) (Or.inr ⟨by simp [Region.wanted, yielded, refused22y_ops, refused22y_o6, refused22y_o2, tget z6 (by decide) t103], rfl⟩) hHeld ?_
  change wpAnyH _ _ _ _ _ _ _ (a6.put (some 107) (undef)) _
  obtain ⟨a7, e7⟩ : ∃ act, act = a6.put (some 107) (undef) := ⟨_, rfl⟩
  rw [← e7] at h ⊢
  have z7 := pz e7 z6
  replace t103 := pk e7 t103
  replace t106 := pk e7 t106
  clear t7
  have t107 := pq e7 z6
  clear e7 z6
  refine wpAnyH_take (i := 7) (oi := refused22y_o7) (v := undef) rfl (by kernel_rfl) (by kernel_rfl) (by kernel_rfl) (fun _ _ _ h => h) (Or.inr ⟨by simp [Region.wanted, yielded, refused22y_ops, refused22y_o7, refused22y_o2, tget z7 (by decide) t103], rfl⟩) hHeld ?_
  change wpAnyH _ _ _ _ _ _ _ (a7.put (some 108) (undef)) _
  obtain ⟨a8, e8⟩ : ∃ act, act = a7.put (some 108) (undef) := ⟨_, rfl⟩
  rw [← e8] at h ⊢
  have z8 := pz e8 z7
  replace t103 := pk e8 t103
  clear t106 t107
  have t108 := pq e8 z7
  clear e8 z7
  refine tk 8 refused22y_o8 (.bool true) (by rfl) (fun w1 hw => by unfold refused22y_o8; go_simp) hHeld (fun a9 e9 => ?_)
  rw [← e9] at h
  have z9 := pz e9 z8
  clear t103 t108
  have t109 := pq e9 z8
  clear e9 z8
  refine tk 9 refused22y_o9 (.bool true) (by rfl) (fun w1 hw => exec_assign rfl t109) hHeld (fun a10 e10 => ?_)
  rw [← e10] at h
  have z10 := pz e10 z9
  clear t109
  clear e10 z9
  exact wpAnyH_done (by kernel_rfl) (NoPanic.normal (h _ _ (hHeld) rfl)) _
def back15_o0 : Oper := { dst := some 62, op := Op.move (Operand.tmp 5), type := 24, pos := "outright.go:213", after := #[], guard := none }
def back15_o1 : Oper := { dst := some 63, op := Op.move (Operand.tmp 7), type := 30, pos := "outright.go:213", after := #[], guard := none }
def back15_o2 : Oper := { dst := some 64, op := Op.call { callee := Callee.value (Operand.func 21), args := #[Operand.tmp 62, Operand.tmp 63], argTypes := #[24, 30] }, type := 49, pos := "outright.go:213", after := #[{ on := 0, ground := Ground.data }, { on := 1, ground := Ground.data }], guard := none }
def back15_o3 : Oper := { dst := some 65, op := Op.load 49 (Operand.tmp 8), type := 49, pos := "outright.go:213", after := #[], guard := none }
def back15_o4 : Oper := { dst := some 66, op := Op.call { callee := Callee.value (Operand.func 23), args := #[Operand.tmp 64, Operand.tmp 65], argTypes := #[49, 49] }, type := 4, pos := "outright.go:213", after := #[{ on := 2, ground := Ground.data }, { on := 3, ground := Ground.data }, { on := 2, ground := Ground.chain }], guard := none }
def back15_o5 : Oper := { dst := some 67, op := Op.unOp UnOp.not 4 (Operand.tmp 66), type := 4, pos := "outright.go:213", after := #[{ on := 4, ground := Ground.data }], guard := none }
def back15_ops : Array Oper := #[back15_o0, back15_o1, back15_o2, back15_o3, back15_o4, back15_o5]
set_option maxRecDepth 100000 in
set_option maxHeartbeats 4000000 in
theorem back15 (S : World → Prop) (V : Value → World → Prop) (bw : Nat) (tv iv wv : Value) (a : Act) (w : World) (Q : Exit → Act → World → Prop) (hsz : a.tmps.size = 94)
    (t5 : a.tmps.getD 5 undef = tv)
    (t7 : a.tmps.getD 7 undef = iv)
    (t8 : a.tmps.getD 8 undef = .pointer (some ⟨bw, 0, none⟩))
    (h0 : S w.drew) (CT : ∀ W, S W → Calls Try.prog 21 #[tv, iv] W fun e w' => ∃ v, e = .returned v ∧ S w' ∧ V v w') (CS : ∀ W v, V v W → Calls Try.prog 23 #[v, wv] W fun e w' => e = .returned (.bool true) ∧ S w')
    (G1 : ∀ W, S W → (Instr.loadAt 49 (.pointer (some ⟨bw, 0, none⟩))).run Try.prog W = .ok (wv) W)
    (h : ∀ (v : Value) (a' : Act) (w' : World), S w' → a' = ((((((a).put (some 62) (tv)).put (some 63) (iv)).put (some 65) (wv)).put (some 64) (v)).put (some 66) (.bool true)).put (some 67) (.bool false) → Q .normal a' w') :
    (Code.region 15 back15_ops true).wp Try.prog Q a w := by
  refine wp_region_noPanic ?_
  refine wp_region_held_drew (S := fun w' => S w') (by kernel_rfl) (h0) (fun hHeld => ?_)
  refine tk 0 back15_o0 (tv) (by rfl) (fun w1 hw => exec_move rfl t5) hHeld (fun a1 e1 => ?_)
  rw [← e1] at h
  have z1 := pz e1 hsz
  replace t7 := pk e1 t7
  replace t8 := pk e1 t8
  clear t5
  have t62 := pq e1 hsz
  clear e1 hsz
  refine tk 1 back15_o1 (iv) (by rfl) (fun w1 hw => exec_move rfl t7) hHeld (fun a2 e2 => ?_)
  rw [← e2] at h
  have z2 := pz e2 z1
  replace t8 := pk e2 t8
  replace t62 := pk e2 t62
  clear t7
  have t63 := pq e2 z1
  clear e2 z1
  refine tk 3 back15_o3 (wv) (by rfl) (fun w1 hw => exec_load rfl t8 (G1 _ hw)) hHeld (fun a3 e3 => ?_)
  rw [← e3] at h
  have z3 := pz e3 z2
  replace t62 := pk e3 t62
  replace t63 := pk e3 t63
  clear t8
  have t65 := pq e3 z2
  clear e3 z2
  refine wpAnyH_ready (rs := [2]) (by kernel_rfl) (by simp) ?_
  refine AllReadyH.cons (o := back15_o2) rfl (fun K hK => ?_) AllReadyH.nil
  rw [if_pos (by rfl)]
  unfold back15_o2 at hK ⊢
  go_simp
  refine (CT _ hHeld).mono ?_
  rintro e x4 ⟨v, rfl, hs, hv⟩
  try go_wp2_with fail
  replace h := h v
  refine hK.out _ _ (hs) (fun hHeld => ?_)
  clear hK K
  change wpAnyH _ _ _ _ _ _ _ (a3.put (some 64) (v)) _
  obtain ⟨a4, e4⟩ : ∃ act, act = a3.put (some 64) (v) := ⟨_, rfl⟩
  rw [← e4] at h ⊢
  have z4 := pz e4 z3
  replace t65 := pk e4 t65
  clear t62 t63
  have t64 := pq e4 z3
  clear e4 z3
  refine wpAnyH_ready (rs := [4]) (by kernel_rfl) (by simp) ?_
  refine AllReadyH.cons (o := back15_o4) rfl (fun K hK => ?_) AllReadyH.nil
  rw [if_pos (by rfl)]
  unfold back15_o4 at hK ⊢
  go_simp
  refine (CS _ _ hv).mono ?_
  rintro e x5 ⟨rfl, hs2⟩
  try go_wp2_with fail
  skip
  refine hK.out _ _ (hs2) (fun hHeld => ?_)
  clear hK K
  change wpAnyH _ _ _ _ _ _ _ (a4.put (some 66) (.bool true)) _
  obtain ⟨a5, e5⟩ : ∃ act, act = a4.put (some 66) (.bool true) := ⟨_, rfl⟩
  rw [← e5] at h ⊢
  have z5 := pz e5 z4
  clear t65 t64
  have t66 := pq e5 z4
  clear e5 z4
  refine tk 5 back15_o5 (.bool false) (by rfl) (fun w1 hw => by unfold back15_o5; go_simp) hHeld (fun a6 e6 => ?_)
  rw [← e6] at h
  have z6 := pz e6 z5
  clear t66
  clear e6 z5
  exact wpAnyH_done (by kernel_rfl) (NoPanic.normal (h _ _ (hHeld) rfl)) _
end Go.Proofs.Ytoofljkgdjjllab

namespace Go.Proofs.Ytoofljkgdjjllab
open Go.RowKit
set_option linter.unusedVariables false
set_option linter.unusedSimpArgs false

theorem run_bs2I (h k : IdK) (ok : h.ok) (ok2 : k.ok) (w : World) : (Instr.buildSlice 30 2 #[(0, h.v), (1, k.v)]).run Try.prog w = .ok (.slice (some ⟨w.heap.size, 0, none⟩) 2 2) (w.alloc (.cells (h.c ++ k.c).toArray 35)) := by
  obtain ⟨ie, hi, hz, hs, hby⟩ := info_parts infoI
  refine run_buildSlice w 30 35 2 _ (h.c ++ k.c).toArray ie _ Try.underlying30 hi hz (by rw [hs]; decide) (by rw [hs]; decide) ?_
  rw [hs]
  have hsz2 : ∀ v ∈ [Value.agg h.c.toArray, Value.agg k.c.toArray], v.cells.size = 33 := by
    intro v hv
    simp at hv
    rcases hv with rfl | rfl
    · show h.c.toArray.size = 33; rw [List.size_toArray, IdK.len ok]
    · show k.c.toArray.size = 33; rw [List.size_toArray, IdK.len ok2]
  have := Go.Great.fill_whole (s := 33) (by decide) [.agg h.c.toArray, .agg k.c.toArray] ((Array.range (2 * 33)).map ((Value.agg (IdK.c zId).toArray).cells[· % (Value.agg (IdK.c zId).toArray).cells.size]!)) hsz2 (by simp)
  simpa [Value.cells, IdK.v] using this
theorem ids_lit2 (w : World) (h k : IdK) (ok : h.ok) (t : TypeId) : IdsAt (w.alloc (.cells (h.c ++ k.c).toArray t)) (some ⟨w.heap.size, 0, none⟩) [h, k] :=
  .inr ⟨w.heap.size, 0, rfl, by simp, fun i x hx j v hj => by
    have l := IdK.len ok
    have c0 := cell_new w (h.c ++ k.c) t
    have hl := (List.getElem?_eq_some_iff.1 hx).1
    simp at hl
    rcases i with _ | _ | i
    · simp at hx
      subst hx
      rw [Nat.mul_zero, Nat.add_zero, Nat.zero_add]
      exact c0 j v (by rw [List.getElem?_append_left (List.getElem?_eq_some_iff.1 hj).1]; exact hj)
    · simp at hx
      subst hx
      rw [show 0 + 33 * (0 + 1) + j = 33 + j by omega]
      exact c0 (33 + j) v (by rw [List.getElem?_append_right (by omega), l, show 33 + j - 33 = j by omega]; exact hj)
    · omega⟩
/-- What stays while TreeRefused runs, once the tree is there and was told of. -/
structure RS (W0 : World) (n3 bw bo t B : Nat) (o : OpV) (f : Fn) (D I : List IdK) (idv wa wb wc wd we : Value) (T : TellV) (N : Nat) (X : World) : Prop where
  bel : Below W0.heap.size W0 X
  own : ∃ s H, Own B X s H f ∧ s.t = t
  bwk : X.heap[bw]? = some (.cells #[.int .i64 (D.length : Int), wa, wb, wc, wd, we] 49 (0, 0))
  ts : TS n3 N X wa wb wc wd we T
  ids : OwnI X n3 idv I
  opc : X.heap[bo]? = some (.cells o.c.toArray 57 (0, 0))
  sz : n3 ≤ X.heap.size
/-- What does not change. -/
structure RC (W0 : World) (n3 bw bo B : Nat) (f : Fn) (D I : List IdK) (T : TellV) (N : Nat) : Prop where
  b3 : n3 ≤ bw
  bN : n3 ≤ N
  bo3 : bo < n3
  b0 : W0.heap.size ≤ B
  bB : B ≤ n3
  bo0 : bo < W0.heap.size
  told : ToldIs f D I T
  dom : Dom f D
  dl : D.length ≤ 2600000000000
  il : I.length ≤ 5500000000000
  iok : ∀ x ∈ I, x.ok
  uok : ∀ k, (nd f k).u.ok
section
variable {W0 : World} {n3 bw bo t B : Nat} {o : OpV} {f : Fn} {D I : List IdK} {idv wa wb wc wd we : Value} {T : TellV} {N : Nat} {X X' : World}
theorem RS.below (h : RS W0 n3 bw bo t B o f D I idv wa wb wc wd we T N X) (b : Below X.heap.size X X') : RS W0 n3 bw bo t B o f D I idv wa wb wc wd we T N X' := by
  obtain ⟨s, H, o1, o2⟩ := h.own
  exact ⟨h.bel.trans (b.mono h.bel.size), ⟨s, H, o1.below b, o2⟩, (b.block _ (Array.getElem?_eq_some_iff.1 h.bwk).1).trans h.bwk, h.ts.below b, h.ids.below b, (b.block _ (Array.getElem?_eq_some_iff.1 h.opc).1).trans h.opc, Nat.le_trans h.sz b.size⟩
theorem RS.told (hc : RC W0 n3 bw bo B f D I T N) (h : RS W0 n3 bw bo t B o f D I idv wa wb wc wd we T N X) :
    Calls Try.prog 21 #[.pointer (some ⟨t, 0, none⟩), idv] X fun e w' => ∃ v, e = .returned v ∧ RS W0 n3 bw bo t B o f D I idv wa wb wc wd we T N w' ∧ (RS W0 n3 bw bo t B o f D I idv wa wb wc wd we T N w' ∧ ToldV X.heap.size w' f D I v) := by
  obtain ⟨s, H, o1, rfl⟩ := h.own
  obtain ⟨ai, ci, rfl, hi, _⟩ := h.ids.open hc.iok
  refine (told_any o1 hc.dom hc.dl ai ci I hi hc.iok hc.il).mono ?_
  rintro e w' ⟨v, rfl, hv, b⟩
  exact ⟨v, rfl, h.below b, h.below b, hv⟩
theorem RS.same (hc : RC W0 n3 bw bo B f D I T N) {v : Value} {M : Nat} (h : RS W0 n3 bw bo t B o f D I idv wa wb wc wd we T N X) (hv : ToldV M X f D I v) :
    Calls Try.prog 23 #[v, .agg #[.int .i64 (D.length : Int), wa, wb, wc, wd, we]] X fun e w' => e = .returned (.bool true) ∧ RS W0 n3 bw bo t B o f D I idv wa wb wc wd we T N w' := by
  obtain ⟨N', a, b, c, d, e, T', rfl, _, ts', tl'⟩ := hv
  obtain rfl : T' = T := tl'.same rfl hc.told
  have okw : ∀ x ∈ T'.wk, x.ok := walk_ok hc.dom tl'.wk
  obtain ⟨_, _, o1, _⟩ := h.own
  have lw : T'.wk.length ≤ D.length := nodup_le (tl'.wk.nodup o1.ft) (fun x hx => (hc.dom.mem x).2 (tl'.wk.there x hx))
  have hil := hc.il
  have hdl := hc.dl
  refine (same_tells ts' h.ts okw ?_ (by omega) ?_ ?_ ?_ ?_ _).mono ?_
  · rw [tl'.un]; intro x hx; obtain ⟨y, _, rfl⟩ := List.mem_map.1 hx; exact hc.uok y
  · rw [tl'.un, List.length_map]; omega
  · rw [tl'.ks, List.length_map]; omega
  · rw [tl'.is, List.length_map]; omega
  · rw [tl'.dl, tl'.is, List.length_map]
  · rintro e w' ⟨rfl, b⟩
    exact ⟨rfl, h.below b⟩
/-- A step that leaves all where it was. -/
theorem RS.step (hc : RC W0 n3 bw bo B f D I T N) (h : RS W0 n3 bw bo t B o f D I idv wa wb wc wd we T N X) {s : Tr} {H : List Rec} (hs : ∀ j ∈ s.bl, j < n3) (ht : s.t = t) (hge : ∀ j ∈ s.bl, B ≤ j) {k : IdK} {n : NodeV} {e : Ending} {s' : Tr} {r : Rec} (hf : upd f k (some n) = f) (hd : Done B X s H f k n e X' s' r) :
    RS W0 n3 bw bo t B o f D I idv wa wb wc wd we T N X' := by
  have c1 := hc.b3
  have c2 := hc.bN
  have c4 := hc.b0
  have c5 := hc.bo0
  have ho := hd.own
  rw [hf] at ho
  refine ⟨h.bel.trans (hd.tch.below h.bel.size fun j hj => by have := hge j hj; omega), ⟨s', r :: H, ho, hd.t.trans ht⟩, (hd.tch.block bw (Array.getElem?_eq_some_iff.1 h.bwk).1 fun q => by have := hs _ q; omega).trans h.bwk, h.ts.keep hd.tch fun j hj q => ?_, h.ids.keep fun j hj => hd.tch.block j (by obtain ⟨_, c, q⟩ := h.ids.ge j hj; exact (Array.getElem?_eq_some_iff.1 q).1) fun q => by have := hs _ q; have := (h.ids.ge j hj).1; omega, (hd.tch.block bo (Array.getElem?_eq_some_iff.1 h.opc).1 fun q => by have := hge _ q; omega).trans h.opc, Nat.le_trans h.sz hd.tch.size⟩
  have := hs _ q
  rcases hj with q | q | q | q | q
  · have := (h.ts.wk.ge j q).1; omega
  · have := (h.ts.un.ge j q).1; omega
  · have := (h.ts.ks.ge j q).1; omega
  · have := (h.ts.is.ge j q).1; omega
  · have := (h.ts.dp.ge j q).1; omega
end
end Go.Proofs.Ytoofljkgdjjllab

namespace Go.Proofs.Ytoofljkgdjjllab
open Go.RowKit
set_option linter.unusedVariables false
set_option linter.unusedSimpArgs false

theorem op_boxR (w : World) (o : OpV) : (w.alloc (.cells o.c.toArray 57)).heap[w.heap.size]? = some (.cells o.c.toArray 57 (0, 0)) ∧ Below w.heap.size w (w.alloc (.cells o.c.toArray 57)) ∧ (w.alloc (.cells o.c.toArray 57)).heap.size = w.heap.size + 1 := ⟨heap_alloc_new _ _, (Below.refl _ _).alloc (Nat.le_refl _) _, by simp⟩
theorem op_rangeR {w : World} {b : Nat} {o : OpV} (h : w.heap[b]? = some (.cells o.c.toArray 57 (0, 0))) : w.rangeAt b 0 o.c := cells_range h
theorem dom_pres {f f2 : Fn} {D D2 : List IdK} (h : Dom f D) (h2 : Dom f2 D2) (hp : ∀ x, (f x).isSome = (f2 x).isSome) : D.length = D2.length :=
  Nat.le_antisymm (nodup_le h.nd (fun x hx => (h2.mem x).2 (by rw [← hp]; exact (h.mem x).1 hx))) (nodup_le h2.nd (fun x hx => (h.mem x).2 (by rw [hp]; exact (h2.mem x).1 hx)))
theorem pres_len {f : Fn} {D : List IdK} {P : IdK → Bool} (hD : Dom f D) (hp : ∀ x, (f x).isSome = P x) : ∀ m : Nat, (∃ f2 D2, Dom f2 D2 ∧ D2.length = m ∧ ∀ x, (f2 x).isSome = P x) → m = D.length := by
  rintro m ⟨f2, D2, d1, rfl, d3⟩
  exact (dom_pres hD d1 (fun x => by rw [hp, d3])).symm
theorem six_one {a b c d e f : Value} (h0 : a.oneCell' = true) (h1 : b.oneCell' = true) (h2 : c.oneCell' = true) (h3 : d.oneCell' = true) (h4 : e.oneCell' = true) (h5 : f.oneCell' = true) : (#[a, b, c, d, e, f] : Array Value).all Value.oneCell' = true := by
  simp [h0, h1, h2, h3, h4, h5]
/-- A move to where a node is. -/
theorem mC_stay {f : Fn} (hf : Forest f) {k : IdK} {m : NodeV} (hk : f k = some m) (hp : m.pr = false) : mC f k m.u = 0 ∧ upd f k (some ⟨m.u, m.key, false⟩) = f := by
  have hnd : nd f k = m := by rw [nd, hk]; rfl
  have hz : k ≠ zId := by rintro rfl; rw [hf.zero] at hk; cases hk
  have hb : Bears f m.u = true := by
    by_cases e : m.u = zId
    · exact bears_iff.2 (Or.inl e)
    · exact bears_iff.2 (Or.inr (hf.under k m hk hp e))
  have hab : ¬ Above f m.u k := by
    by_cases e : m.u = zId
    · have htop : Climb f m.u [] (nd f m.u).pr := .top (Or.inr (by rw [e, nd, hf.zero]; rfl))
      rintro (q | ⟨l', p', hc', hm⟩)
      · exact hz (by rw [← q, e])
      · obtain ⟨rfl, _⟩ := htop.same hc'
        cases hm
    · obtain ⟨l, p, hc⟩ := hf.ends m.u
      have h2 : Climb f k (m.u :: l) p := by
        have := Climb.up (f := f) (k := k) (l := l) (p := p) (by rw [hnd]; exact hp) (by rw [hnd]; exact e) (by rw [hnd]; exact hc)
        rwa [hnd] at this
      rintro (q | ⟨l', p', hc', hm⟩)
      · rw [q] at hc
        have := congrArg List.length (h2.same hc).1
        simp at this
      · obtain ⟨rfl, _⟩ := hc.same hc'
        obtain ⟨l2, h3, h4⟩ := hc.tail k hm
        have := congrArg List.length (h2.same h3).1
        simp at this
        omega
  refine ⟨?_, ?_⟩
  · unfold mC
    rw [if_neg (by rw [hk]; simp), if_neg (by rw [hb]; decide), if_neg hab]
  · funext x
    by_cases e : x = k
    · subst e
      rw [upd_same, hk]
      obtain ⟨u, key, pr⟩ := m
      simp only at hp
      subst hp
      rfl
    · rw [upd_ne e]
set_option maxRecDepth 100000 in
set_option maxHeartbeats 8000000 in
theorem refused_all (a : Option Addr) (c : Nat) (L : List OpV) (o : OpV) (w : World) (hL : RowAt 69 OpV.c w a L) (ok : ∀ x ∈ L, x.ok) (hn : L.length ≤ 1256584717422) (oo : o.ok) :
    Calls Try.prog 6 #[.slice a L.length c, .agg o.c.toArray] w fun e w' => e = .returned (.bool true) ∧ Below w.heap.size w w' := by
  obtain ⟨n, hnn⟩ : ∃ n, L.length = n := ⟨_, rfl⟩
  have HNn := hidMk hnn
  have HLn := hidMk hn
  have HNM := hidMk (fun (W : World) (b : Below w.heap.size w W) => named_any a c L W (hL.below b) ok hn)
  have HCT := hidMk (fun (W : World) (b : Below w.heap.size w W) => count_any a c L W (hL.below b) ok hn)
  have HA := hidMk alive_any
  have HN1 := hidMk new_own
  have HGR := hidMk (fun (W w1 w2 : World) (s : Tr) (b0 : Below w.heap.size w W) (b1 : Below W.heap.size W w1) (b2 : Below w1.heap.size w1 w2) (h : Own w1.heap.size w2 s [] (fun _ => none)) => grown_any h b1.size b2.size (b1.trans (b2.mono b1.size)) (by simp) [] dom_none a c L (hL.below b0) ok hn (fun _ => false) (fun x => rfl))
  rw [hnn] at HNM HCT HGR
  rw [hnn]
  clear hnn hn
  go_enter Try.func6, Try.ntmps6
  go_upto_region 1 with fail
  obtain ⟨hbo, bx, zx⟩ := op_boxR w o
  generalize w.alloc (.cells o.c.toArray 57) = W at *
  have lbo : w.heap.size < W.heap.size := by omega
  have BX := hidMk bx
  clear zx bx
  obtain ⟨bo, hbb⟩ : ∃ bo, w.heap.size = bo := ⟨_, rfl⟩
  have HBB := hidMk hbb
  rw [hbb] at hbo lbo ⊢
  clear hbb
  go_upto_region 7 with (first
    | (go_at_call 8; refine (HA.out W).mono ?_; rintro e w1 ⟨rfl, b1⟩; clear HA)
    | (go_at_call 9; refine (HN1.out _).mono ?_; rintro e w2 ⟨s0, rfl, hs0, b2⟩; clear HN1)
    | (go_at_call 10; refine (HGR.out W w1 w2 s0 BX.out b1 b2 hs0).mono ?_; rintro e w3 ⟨s, H, f, bv, rfl, gs, hp, hl⟩; obtain ⟨D, hD, hDl⟩ := gs.dom; have gt := gs.t; have HLE := hidMk (len_own gs.own hD); rw [gt] at HLE; have HEM := hidMk (pres_len hD hp); clear HGR)
    | (go_at_call 12; refine HLE.out.mono ?_; rintro e w4 ⟨rfl, b4⟩; have b14 := gs.bel.trans (b4.mono gs.bel.size); clear HLE)
    | (go_at_call 11; refine (HCT.out _ (BX.out.trans (b14.mono BX.out.size))).mono ?_; rintro e w5 ⟨m, rfl, hm, b5⟩; obtain rfl := HEM.out m hm; clear HCT hm)
    | fail)
  have b15 : Below W.heap.size W w5 := b14.trans (b5.mono b14.size)
  have hbo5 : w5.heap[bo]? = some (.cells o.c.toArray 57 (0, 0)) := (b15.block _ lbo).trans hbo
  have own5 : Own w1.heap.size w5 s (H ++ []) f := (gs.own.below b4).below b5
  have sl : ∀ j ∈ s.bl, j < w5.heap.size := fun j hj => by have := gs.own.tree.tr.lt j hj; have := b4.size; have := b5.size; omega
  have lbo5 : bo < w5.heap.size := Nat.lt_of_lt_of_le lbo b15.size
  have hU : ∀ k, (nd f k).u.ok := fun k => by
    have hE := gs.own.eq
    unfold nd
    cases hq : f k with
    | none => exact zId_ok
    | some m =>
      rw [← hE] at hq
      exact gs.own.tree.tr.uok _ (M.look_mem hq)
  have hbw : Below w.heap.size w w5 := BX.out.trans (b15.mono BX.out.size)
  have z1 := b1.size
  have HDL := hidMk (show D.length ≤ 2600000000000 by have := HNn.out; have := HLn.out; simp at hDl; omega)
  have HNL := hidMk (show (namedL L ++ [o.id, o.under]).length ≤ 5500000000000 by have := HLn.out; rw [List.length_append, namedL, List.length_cons, pairs_len]; simp; omega)
  have okI : ∀ x ∈ namedL L ++ [o.id, o.under], x.ok := by
    intro x hx
    rcases List.mem_append.1 hx with q | q
    · exact namedL_ok ok x q
    · simp at q
      rcases q with rfl | rfl
      · exact oo.id
      · exact oo.under
  have bd : Below w5.heap.size w5 w5.drew := (Below.refl _ _).drew
  have app : ∀ (X : World) (v : Value), Below w5.heap.size w5 X → OwnI X w5.heap.size v (namedL L) → ∀ (A : Option Addr), IdsAt X A [o.id, o.under] → ∃ q w', (Builtin.append_ #[30, 30] 30 #[v, .slice A 2 2]).run Try.prog X = .ok q w' ∧ Below w5.heap.size w5 w' ∧ OwnI w' w5.heap.size q (namedL L ++ [o.id, o.under]) := fun X v bX ov A hA => by
    obtain ⟨q, w', e1, e2, e3, e4⟩ := run_appI X w5.heap.size v (namedL L) A [o.id, o.under] 2 ov hA (by intro x hx; exact okI x (List.mem_append.2 (Or.inr hx))) (by have := HNL.out; rw [List.length_append] at this; omega) bX.size
    refine ⟨q, w', e1, bX.trans ⟨e3.os, e3.tape, e3.output, e3.size, fun j hj => e3.block j (by have := bX.size; omega) (fun q => ?_)⟩, e2⟩
    have := (ov.ge j q.symm).1
    omega
  refine refused7 bo (.slice a n c) o.id.v o.under.v (.slice (some ⟨w5.drew.heap.size, 0, none⟩) 2 2) (w5.drew.alloc (.cells (o.id.c ++ o.under.c).toArray 35)) (fun X => Below w5.heap.size w5 X) (fun v X => Below w5.heap.size w5 X ∧ OwnI X w5.heap.size v (namedL L)) (fun q X => Below w5.heap.size w5 X ∧ OwnI X w5.heap.size q (namedL L ++ [o.id, o.under])) _ w5 _ rfl rfl rfl (fun X => by go_simp) (fun X => by go_simp) ?_ ?_ bd ?_ ?_ ?_ ?_ ?_ ?_ ?_
  · exact fun X bX => by have := op_id oo (op_rangeR ((bX.block _ lbo5).trans hbo5)); rwa [Nat.zero_add] at this
  · exact fun X bX => by have := op_under oo (op_rangeR ((bX.block _ lbo5).trans hbo5)); rwa [Nat.zero_add] at this
  · refine (HNM.out _ (hbw.trans (bd.mono hbw.size))).mono ?_
    rintro e X ⟨v, rfl, ov, bX⟩
    exact ⟨v, rfl, bd.trans (bX.mono bd.size), ov⟩
  · rintro v X ⟨bX, ov⟩
    have hb2 : Below X.heap.size X (X.alloc (.cells (o.id.c ++ o.under.c).toArray 35)) := (Below.refl _ _).alloc (Nat.le_refl _) _
    have bX2 := bX.trans (hb2.mono bX.size)
    obtain ⟨q, w', e1, e2, e3⟩ := app _ v bX2 (ov.below hb2) _ (ids_lit2 X o.id o.under oo.id 35)
    exact ⟨_, _, q, w', run_bs2I o.id o.under oo.id oo.under X, e1, bX, bX2, e2, e2, e3⟩
  · exact run_bs2I o.id o.under oo.id oo.under w5.drew
  · exact bd.alloc (Nat.le_refl _) _
  · have bA : Below w5.heap.size w5 (w5.drew.alloc (.cells (o.id.c ++ o.under.c).toArray 35)) := bd.alloc (Nat.le_refl _) _
    have iA := ids_lit2 w5.drew o.id o.under oo.id 35
    refine (HNM.out _ (hbw.trans (bA.mono hbw.size))).mono ?_
    rintro e X ⟨v, rfl, ov, bX⟩
    have bX2 := bA.trans (bX.mono bA.size)
    obtain ⟨q, w', e1, e2, e3⟩ := app X v bX2 (owI_base ov bA.size) _ (iA.below bX)
    exact ⟨v, rfl, bX2, q, w', e1, e2, e2, e3⟩
  all_goals
    rintro v nv qv a' w6 ⟨b6, ow6⟩ ha
    subst ha
    simp only [Act.put, List.setIfInBounds_toArray, List.set_cons_zero, List.set_cons_succ]
    obtain ⟨ai, ci, eqv, hi6, _⟩ := ow6.open okI
    have HTO := hidMk (told_any (own5.below b6) hD HDL.out ai ci _ hi6 okI HNL.out)
    rw [← eqv, gs.t] at HTO
    have OW6 := hidMk ow6
    have HBO6 := hidMk ((b6.block _ lbo5).trans hbo5)
    clear hi6 eqv ow6 app
    go_upto_region 9 with (first
      | (go_at_call 21; refine HTO.out.mono ?_; rintro e w7 ⟨tv, rfl, htv, b7⟩; obtain ⟨N, wa, wb, wc, wd, we, T, rfl, hBN, ts7, tl⟩ := htv; obtain ⟨wt, ea, es⟩ := tell_new w7 (.int .i64 (D.length : Int)) wa wb wc wd we (six_one rfl (sl_oneI ts7.wk) (sl_oneI ts7.un) (sl_one ts7.ks) (sl_one ts7.is) (sl_one ts7.dp)); have HEA := hidMk ea; have HES := hidMk es; clear ea es HTO)
      | (refine wpList_run rfl (exec_allocW w7 rfl (t := 49) (v := .pointer (some ⟨w7.heap.size, 0, none⟩)) (w2 := wt) rfl HEA.out) ?_)
      | (refine wpList_skip rfl rfl (exec_storeW wt rfl (t := 49) (xv := .pointer (some ⟨w7.heap.size, 0, none⟩)) (yv := .agg #[.int .i64 (D.length : Int), wa, wb, wc, wd, we]) rfl rfl rfl HES.out) ?_)
      | fail)
    have b8 : Below w7.heap.size w7 (w7.alloc (.cells #[.int .i64 (D.length : Int), wa, wb, wc, wd, we] 49)) := (Below.refl _ _).alloc (Nat.le_refl _) _
    have hbw8 := heap_alloc_new w7 (.cells #[.int .i64 (D.length : Int), wa, wb, wc, wd, we] 49)
    generalize w7.alloc (.cells #[.int .i64 (D.length : Int), wa, wb, wc, wd, we] 49) = w8 at *
    have b68 : Below w6.heap.size w6 w8 := b7.trans (b8.mono b7.size)
    have b58 : Below w5.heap.size w5 w8 := b6.trans (b68.mono b6.size)
    obtain ⟨bw, hbwn⟩ : ∃ bw, w7.heap.size = bw := ⟨_, rfl⟩
    rw [hbwn] at hbw8 ⊢
    have z6 := b6.size
    have z7 := b7.size
    have rc : RC W w5.heap.size bw bo w1.heap.size f D (namedL L ++ [o.id, o.under]) T N := ⟨by omega, by omega, lbo5, z1, by have := gs.sz; have := b2.size; have := b4.size; have := b5.size; omega, lbo, tl, hD, HDL.out, HNL.out, okI, hU⟩
    have rs : RS W w5.heap.size bw bo s0.t w1.heap.size o f D (namedL L ++ [o.id, o.under]) qv wa wb wc wd we T N w8 := ⟨b15.trans (b58.mono b15.size), ⟨s, H ++ [], own5.below b58, gs.t⟩, hbw8, ⟨owI_base (ts7.below b8).wk (by omega), (ts7.below b8).un, (ts7.below b8).ks, (ts7.below b8).is, (ts7.below b8).dp, ts7.wl⟩, OW6.out.below b68, (b68.block _ (by have := b6.size; omega)).trans HBO6.out, b58.size⟩
    have own8 := own5.below b58
    have gt := gs.t
    have HWW := hidMk b1
    have ck : w8.cell? ⟨bo, 0, none⟩ = some (.int .i64 o.kind) := op_rangeR rs.opc 0 _ rfl
    have HRS := hidMk rs
    have HRC := hidMk rc
    have HB8 := hidMk (show w1.heap.size ≤ w8.heap.size from Nat.le_trans rc.bB rs.sz)
    have L1 := hidMk (op_id oo (op_rangeR rs.opc))
    have L2 := hidMk (op_under oo (op_rangeR rs.opc))
    have L3 := hidMk (op_key oo (op_rangeR rs.opc))
    have HSL := hidMk sl
    have HU2 := hidMk hU
    clear rs rc b68 b58 b8 hbw8 hbwn z6 z7 b7 b6 ts7 tl hBN OW6 HBO6 hbo5 own5 lbo5 sl hbw b15 b5 b14 b4 hbo lbo HEA HES gs hp hl hs0 b2 z1 bd okI hD hDl hU
    by_cases k0 : o.kind = 0
    · rw [k0] at ck
      clear k0
      by_cases hc : gC f o.id o.under = 0
      · have HC := hidMk (step_ok hc (grow_all own8 HB8.out o.id o.under o.key oo.id oo.under))
        rw [gt] at HC
        clear hc
        go_upto_region 22 with (first
          | (refine wpList_val rfl (exec_load (t := 35) (u := .pointer (some ⟨bo, 0 + 1, none⟩)) rfl rfl L1.out) ?_)
          | (refine wpList_val rfl (exec_load (t := 35) (u := .pointer (some ⟨bo, 0 + 34, none⟩)) rfl rfl L2.out) ?_)
          | (refine wpList_val rfl (exec_load (t := 9) (u := .pointer (some ⟨bo, 0 + 67, none⟩)) rfl rfl L3.out) ?_)
          | (go_at_call 24; refine HC.out.mono ?_; rintro e w9 ⟨s2, r, hd⟩; obtain rfl := hd.ret; have HD := hidMk hd; clear hd)
          | fail)
        clear ck
        have bd9 : Below W.heap.size W w9.drew := (HRS.out.bel.trans (HD.out.tch.below HRS.out.bel.size fun j hj => by have := own8.ge j hj; have := HWW.out.size; omega)).drew
        refine refused22y (fun X => Below W.heap.size W X) bw (.pointer (some ⟨s0.t, 0, none⟩)) qv (.int .i64 0) _ w9 _ rfl rfl rfl rfl rfl bd9 (fun X => by go_simp) (fun X hX => by go_simp) ?_
        intro a' w' hw' ha
        subst ha
        simp only [Act.put, List.setIfInBounds_toArray, List.set_cons_zero, List.set_cons_succ]
        go_wp2
        go_ret
        exact ⟨rfl, BX.out.trans (hw'.mono BX.out.size)⟩
      · have HC := hidMk (step_no hc (grow_all own8 HB8.out o.id o.under o.key oo.id oo.under))
        rw [gt] at HC
        generalize gC f o.id o.under = cc at *
        go_upto_region 22 with (first
          | (refine wpList_val rfl (exec_load (t := 35) (u := .pointer (some ⟨bo, 0 + 1, none⟩)) rfl rfl L1.out) ?_)
          | (refine wpList_val rfl (exec_load (t := 35) (u := .pointer (some ⟨bo, 0 + 34, none⟩)) rfl rfl L2.out) ?_)
          | (refine wpList_val rfl (exec_load (t := 9) (u := .pointer (some ⟨bo, 0 + 67, none⟩)) rfl rfl L3.out) ?_)
          | (go_at_call 24; refine HC.out.mono ?_; rintro e w9 ⟨rfl, b9⟩)
          | fail)
        clear ck
        have rs9 := (HRS.out.below b9).below (Below.refl w9.heap.size w9).drew
        refine refused22n (fun X => RS W w5.heap.size bw bo s0.t w1.heap.size o f D (namedL L ++ [o.id, o.under]) qv wa wb wc wd we T N X) (fun v X => RS W w5.heap.size bw bo s0.t w1.heap.size o f D (namedL L ++ [o.id, o.under]) qv wa wb wc wd we T N X ∧ ∃ M, ToldV M X f D (namedL L ++ [o.id, o.under]) v) bw (.pointer (some ⟨s0.t, 0, none⟩)) qv (.agg #[.int .i64 (D.length : Int), wa, wb, wc, wd, we]) (.int .i64 cc) _ w9 _ rfl rfl rfl rfl rfl rs9 ?_ ?_ ?_ ?_ ?_ ?_
        · exact fun X hX => (RS.told HRC.out hX).mono fun e w' ⟨v, h1, h2, h3, h4⟩ => ⟨v, h1, h2, h3, _, h4⟩
        · rintro X v ⟨hX, M, hM⟩
          exact RS.same HRC.out hX hM
        · exact fun X => by go_simp
        · exact fun X hX => by go_simp
        · exact fun X hX => tell_load hX.bwk
        intro v a' w' hw' ha
        subst ha
        simp only [Act.put, List.setIfInBounds_toArray, List.set_cons_zero, List.set_cons_succ]
        have HW := hidMk hw'.bel
        clear hw' rs9
        go_wp2
        go_ret
        exact ⟨rfl, BX.out.trans (HW.out.mono BX.out.size)⟩
    · by_cases k1 : o.kind = 1
      · rw [k1] at ck
        clear k0 k1
        by_cases hc : mC f o.id o.under = 0
        · have HC := hidMk (step_ok hc (move_all own8 HB8.out o.id o.under o.key oo.id oo.under))
          rw [gt] at HC
          clear hc
          go_upto_region 22 with (first
            | (refine wpList_val rfl (exec_load (t := 35) (u := .pointer (some ⟨bo, 0 + 1, none⟩)) rfl rfl L1.out) ?_)
            | (refine wpList_val rfl (exec_load (t := 35) (u := .pointer (some ⟨bo, 0 + 34, none⟩)) rfl rfl L2.out) ?_)
            | (refine wpList_val rfl (exec_load (t := 9) (u := .pointer (some ⟨bo, 0 + 67, none⟩)) rfl rfl L3.out) ?_)
            | (go_at_call 25; refine HC.out.mono ?_; rintro e w9 ⟨s2, r, hd⟩; obtain rfl := hd.ret; have HD := hidMk hd; clear hd)
            | fail)
          clear ck
          have bd9 : Below W.heap.size W w9.drew := (HRS.out.bel.trans (HD.out.tch.below HRS.out.bel.size fun j hj => by have := own8.ge j hj; have := HWW.out.size; omega)).drew
          refine refused22y (fun X => Below W.heap.size W X) bw (.pointer (some ⟨s0.t, 0, none⟩)) qv (.int .i64 0) _ w9 _ rfl rfl rfl rfl rfl bd9 (fun X => by go_simp) (fun X hX => by go_simp) ?_
          intro a' w' hw' ha
          subst ha
          simp only [Act.put, List.setIfInBounds_toArray, List.set_cons_zero, List.set_cons_succ]
          go_wp2
          go_ret
          exact ⟨rfl, BX.out.trans (hw'.mono BX.out.size)⟩
        · have HC := hidMk (step_no hc (move_all own8 HB8.out o.id o.under o.key oo.id oo.under))
          rw [gt] at HC
          generalize mC f o.id o.under = cc at *
          go_upto_region 22 with (first
            | (refine wpList_val rfl (exec_load (t := 35) (u := .pointer (some ⟨bo, 0 + 1, none⟩)) rfl rfl L1.out) ?_)
            | (refine wpList_val rfl (exec_load (t := 35) (u := .pointer (some ⟨bo, 0 + 34, none⟩)) rfl rfl L2.out) ?_)
            | (refine wpList_val rfl (exec_load (t := 9) (u := .pointer (some ⟨bo, 0 + 67, none⟩)) rfl rfl L3.out) ?_)
            | (go_at_call 25; refine HC.out.mono ?_; rintro e w9 ⟨rfl, b9⟩)
            | fail)
          clear ck
          have rs9 := (HRS.out.below b9).below (Below.refl w9.heap.size w9).drew
          refine refused22n (fun X => RS W w5.heap.size bw bo s0.t w1.heap.size o f D (namedL L ++ [o.id, o.under]) qv wa wb wc wd we T N X) (fun v X => RS W w5.heap.size bw bo s0.t w1.heap.size o f D (namedL L ++ [o.id, o.under]) qv wa wb wc wd we T N X ∧ ∃ M, ToldV M X f D (namedL L ++ [o.id, o.under]) v) bw (.pointer (some ⟨s0.t, 0, none⟩)) qv (.agg #[.int .i64 (D.length : Int), wa, wb, wc, wd, we]) (.int .i64 cc) _ w9 _ rfl rfl rfl rfl rfl rs9 ?_ ?_ ?_ ?_ ?_ ?_
          · exact fun X hX => (RS.told HRC.out hX).mono fun e w' ⟨v, h1, h2, h3, h4⟩ => ⟨v, h1, h2, h3, _, h4⟩
          · rintro X v ⟨hX, M, hM⟩
            exact RS.same HRC.out hX hM
          · exact fun X => by go_simp
          · exact fun X hX => by go_simp
          · exact fun X hX => tell_load hX.bwk
          intro v a' w' hw' ha
          subst ha
          simp only [Act.put, List.setIfInBounds_toArray, List.set_cons_zero, List.set_cons_succ]
          have HW := hidMk hw'.bel
          clear hw' rs9
          go_wp2
          go_ret
          exact ⟨rfl, BX.out.trans (HW.out.mono BX.out.size)⟩
      · by_cases k2 : o.kind = 2
        · rw [k2] at ck
          clear k0 k1 k2
          by_cases hc : pC f o.id = 0
          · have HC := hidMk (step_ok hc (prune_all own8 HB8.out o.id oo.id))
            rw [gt] at HC
            clear hc
            go_upto_region 22 with (first
              | (refine wpList_val rfl (exec_load (t := 35) (u := .pointer (some ⟨bo, 0 + 1, none⟩)) rfl rfl L1.out) ?_)
              | (go_at_call 26; refine HC.out.mono ?_; rintro e w9 ⟨s2, r, hd⟩; obtain rfl := hd.ret; have HD := hidMk hd; clear hd)
              | fail)
            clear ck
            have bd9 : Below W.heap.size W w9.drew := (HRS.out.bel.trans (HD.out.tch.below HRS.out.bel.size fun j hj => by have := own8.ge j hj; have := HWW.out.size; omega)).drew
            refine refused22y (fun X => Below W.heap.size W X) bw (.pointer (some ⟨s0.t, 0, none⟩)) qv (.int .i64 0) _ w9 _ rfl rfl rfl rfl rfl bd9 (fun X => by go_simp) (fun X hX => by go_simp) ?_
            intro a' w' hw' ha
            subst ha
            simp only [Act.put, List.setIfInBounds_toArray, List.set_cons_zero, List.set_cons_succ]
            go_wp2
            go_ret
            exact ⟨rfl, BX.out.trans (hw'.mono BX.out.size)⟩
          · have HC := hidMk (step_no hc (prune_all own8 HB8.out o.id oo.id))
            rw [gt] at HC
            generalize pC f o.id = cc at *
            go_upto_region 22 with (first
              | (refine wpList_val rfl (exec_load (t := 35) (u := .pointer (some ⟨bo, 0 + 1, none⟩)) rfl rfl L1.out) ?_)
              | (go_at_call 26; refine HC.out.mono ?_; rintro e w9 ⟨rfl, b9⟩)
              | fail)
            clear ck
            have rs9 := (HRS.out.below b9).below (Below.refl w9.heap.size w9).drew
            refine refused22n (fun X => RS W w5.heap.size bw bo s0.t w1.heap.size o f D (namedL L ++ [o.id, o.under]) qv wa wb wc wd we T N X) (fun v X => RS W w5.heap.size bw bo s0.t w1.heap.size o f D (namedL L ++ [o.id, o.under]) qv wa wb wc wd we T N X ∧ ∃ M, ToldV M X f D (namedL L ++ [o.id, o.under]) v) bw (.pointer (some ⟨s0.t, 0, none⟩)) qv (.agg #[.int .i64 (D.length : Int), wa, wb, wc, wd, we]) (.int .i64 cc) _ w9 _ rfl rfl rfl rfl rfl rs9 ?_ ?_ ?_ ?_ ?_ ?_
            · exact fun X hX => (RS.told HRC.out hX).mono fun e w' ⟨v, h1, h2, h3, h4⟩ => ⟨v, h1, h2, h3, _, h4⟩
            · rintro X v ⟨hX, M, hM⟩
              exact RS.same HRC.out hX hM
            · exact fun X => by go_simp
            · exact fun X hX => by go_simp
            · exact fun X hX => tell_load hX.bwk
            intro v a' w' hw' ha
            subst ha
            simp only [Act.put, List.setIfInBounds_toArray, List.set_cons_zero, List.set_cons_succ]
            have HW := hidMk hw'.bel
            clear hw' rs9
            go_wp2
            go_ret
            exact ⟨rfl, BX.out.trans (HW.out.mono BX.out.size)⟩
        · have HUN := hidMk (under_own own8 o.id oo.id)
          rw [gt] at HUN
          have hst : ((f o.id).isSome && !(nd f o.id).pr) = true → mC f o.id (nd f o.id).u = 0 ∧ upd f o.id (some ⟨(nd f o.id).u, (nd f o.id).key, false⟩) = f := fun q => by
            cases hq : f o.id with
            | none => rw [hq] at q; cases q
            | some m =>
              have hnd : nd f o.id = m := by rw [nd, hq]; rfl
              rw [hnd] at q ⊢
              have hp : m.pr = false := by simp at q; exact q.2
              exact mC_stay own8.ft hq hp
          have HST := hidMk hst
          have HUO := HU2.out o.id
          generalize (nd f o.id).u = u at *
          generalize (nd f o.id).key = key at *
          generalize ((f o.id).isSome && !(nd f o.id).pr) = qb at *
          generalize o.kind = kz at *
          clear hst
          go_upto_region 12 with (first
            | (refine wpList_val rfl (exec_loadW w8 rfl (t := 35) (u := .pointer (some ⟨bo, 0 + 1, none⟩)) rfl rfl L1.out) ?_)
            | (go_at_call 14; refine HUN.out.mono ?_; rintro e w9 ⟨rfl, b9⟩; obtain ⟨w10, ea, es⟩ := id_newT w9 u HUO; have HEA := hidMk ea; have HES := hidMk es; clear ea es HUN)
            | (refine wpList_run rfl (exec_allocW w9 rfl (t := 35) (v := .pointer (some ⟨w9.heap.size, 0, none⟩)) (w2 := w10) rfl HEA.out) ?_)
            | (refine wpList_skip rfl rfl (exec_storeW w10 rfl (t := 35) (xv := .pointer (some ⟨w9.heap.size, 0, none⟩)) (yv := u.v) rfl rfl rfl HES.out) ?_)
            | fail)
          clear ck k0 k1 k2
          have b11 : Below w9.heap.size w9 (w9.alloc (.cells u.c.toArray 35)) := (Below.refl _ _).alloc (Nat.le_refl _) _
          have hub : IdAt (w9.alloc (.cells u.c.toArray 35)) w9.heap.size u := heap_alloc_new _ _
          generalize w9.alloc (.cells u.c.toArray 35) = w11 at *
          have b81 : Below w8.heap.size w8 w11 := b9.trans (b11.mono b9.size)
          have rs11 := HRS.out.below b81
          have HR11 := hidMk rs11
          have B81 := hidMk b81
          obtain ⟨ub, hubn⟩ : ∃ ub, w9.heap.size = ub := ⟨_, rfl⟩
          rw [hubn] at hub ⊢
          clear hubn HEA HES
          cases qb with
          | false =>
            clear b11 b81 rs11 hub
            go_wp2
            go_ret
            exact ⟨rfl, BX.out.trans (HR11.out.bel.mono BX.out.size)⟩
          | true =>
            obtain ⟨hm0, hup⟩ := HST.out rfl
            have own11 := own8.below b81
            have HMV := hidMk (step_ok hm0 (move_all own11 (Nat.le_trans HB8.out b81.size) o.id u key oo.id HUO))
            rw [gt] at HMV
            have M1 := hidMk (op_id oo (op_rangeR rs11.opc))
            have M2 := hidMk (load_id HUO hub)
            have HUP := hidMk hup
            have OWN := hidMk own11
            clear hm0 hup own11 rs11 hub b11 b81
            go_upto_region 15 with (first
              | (refine wpList_val rfl (exec_loadW w11 rfl (t := 35) (u := .pointer (some ⟨bo, 0 + 1, none⟩)) rfl rfl M1.out) ?_)
              | (refine wpList_val rfl (exec_loadW w11 rfl (t := 35) (u := .pointer (some ⟨ub, 0, none⟩)) rfl rfl M2.out) ?_)
              | (go_at_call 25; refine HMV.out.mono ?_; rintro e w12 ⟨s2, r, hd⟩; obtain rfl := hd.ret; have HD := hidMk hd; clear hd)
              | fail)
            have rs12 := (RS.step HRC.out HR11.out HSL.out gt OWN.out.ge HUP.out HD.out).below (Below.refl w12.heap.size w12).drew
            refine refused15 (fun X => RS W w5.heap.size bw bo s0.t w1.heap.size o f D (namedL L ++ [o.id, o.under]) qv wa wb wc wd we T N X) (fun v X => RS W w5.heap.size bw bo s0.t w1.heap.size o f D (namedL L ++ [o.id, o.under]) qv wa wb wc wd we T N X ∧ ∃ M, ToldV M X f D (namedL L ++ [o.id, o.under]) v) bw (.pointer (some ⟨s0.t, 0, none⟩)) qv (.agg #[.int .i64 (D.length : Int), wa, wb, wc, wd, we]) (.int .i64 0) _ w12 _ rfl rfl rfl rfl rfl rs12 ?_ ?_ ?_ ?_ ?_ ?_
            · exact fun X hX => (RS.told HRC.out hX).mono fun e w' ⟨v, h1, h2, h3, h4⟩ => ⟨v, h1, h2, h3, _, h4⟩
            · rintro X v ⟨hX, M, hM⟩
              exact RS.same HRC.out hX hM
            · exact fun X => by go_simp
            · exact fun X hX => by go_simp
            · exact fun X hX => tell_load hX.bwk
            intro v a' w' hw' ha
            subst ha
            simp only [Act.put, List.setIfInBounds_toArray, List.set_cons_zero, List.set_cons_succ]
            have HW := hidMk hw'.bel
            clear hw' rs12
            go_wp2
            go_ret
            exact ⟨rfl, BX.out.trans (HW.out.mono BX.out.size)⟩
end Go.Proofs.Ytoofljkgdjjllab

