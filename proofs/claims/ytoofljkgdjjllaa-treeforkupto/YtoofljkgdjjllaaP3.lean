import Derived.Test.YtoofljkgdjjllaaRg
import Derived.Test.YtoofljkgdjjllaaP1
import Derived.Test.YtoofljkgdjjllaaP2
set_option maxRecDepth 100000
set_option maxHeartbeats 4000000
namespace Go.Proofs.Ytoofljkgdjjllaa
open Go.RowKit
set_option linter.unusedVariables false
set_option linter.unusedSimpArgs false
theorem exec_build4 {P : Program} {w : World} {a : Act} {o : Oper} {t : TypeId} {x y z r : Operand} {xv yv zv rv v : Value} (ho : o.op = .build t #[(0, x), (1, y), (2, z), (3, r)]) (hx : a.eval x = xv) (hy : a.eval y = yv) (hz : a.eval z = zv) (hr : a.eval r = rv) (hl : (Instr.build t #[(0, xv), (1, yv), (2, zv), (3, rv)]).run P w = .ok v w) : (execOp a.eval o).run P w = .ok (.value v) w := by
  unfold execOp; simp only [ho, List.map_toArray, List.map_cons, List.map_nil, hx, hy, hz, hr, Sem.run_bind, hl, Result.andThen_ok, Sem.run_pure]
theorem exec_build1 {P : Program} {w : World} {a : Act} {o : Oper} {t : TypeId} {x : Operand} {xv v : Value} (ho : o.op = .build t #[(0, x)]) (hx : a.eval x = xv) (hl : (Instr.build t #[(0, xv)]).run P w = .ok v w) : (execOp a.eval o).run P w = .ok (.value v) w := by
  unfold execOp; simp only [ho, List.map_toArray, List.map_cons, List.map_nil, hx, Sem.run_bind, hl, Result.andThen_ok, Sem.run_pure]
theorem shutMk {p : Prop} (h : p) : Shut p := h
theorem put_sort {a : Act} {i j : Nat} {u v : Value} (h : j < i) : (a.put (some i) u).put (some j) v = (a.put (some j) v).put (some i) u := by
  simp only [Act.put]
  rw [Array.setIfInBounds_comm _ _ (by omega)]
def rfork7_o0 : Oper := ⟨some 24, .move (.tmp 3), 27, "ref.go:31", #[], none⟩
def rfork7_o1 : Oper := ⟨some 25, .move (.tmp 3), 27, "ref.go:31", #[], none⟩
def rfork7_o2 : Oper := ⟨some 26, .nilCheck (.tmp 25), 0, "ref.go:31", #[⟨1, .data⟩], none⟩
def rfork7_o3 : Oper := ⟨some 27, .fieldAddr 86 (.tmp 26) 1, 0, "ref.go:31", #[⟨2, .data⟩], none⟩
def rfork7_o4 : Oper := ⟨some 28, .load 84 (.tmp 27), 84, "ref.go:31", #[⟨3, .data⟩], none⟩
def rfork7_o5 : Oper := ⟨some 29, .buildSlice 83 0 #[], 83, "ref.go:31", #[], none⟩
def rfork7_o6 : Oper := ⟨some 30, .move (.tmp 0), 27, "ref.go:31", #[], none⟩
def rfork7_o7 : Oper := ⟨some 31, .nilCheck (.tmp 30), 0, "ref.go:31", #[⟨6, .data⟩], none⟩
def rfork7_o8 : Oper := ⟨some 32, .fieldAddr 86 (.tmp 31) 1, 0, "ref.go:31", #[⟨7, .data⟩], none⟩
def rfork7_o9 : Oper := ⟨some 33, .load 84 (.tmp 32), 84, "ref.go:31", #[⟨8, .data⟩], none⟩
def rfork7_o10 : Oper := ⟨some 34, .move (.tmp 4), 3, "ref.go:31", #[], none⟩
def rfork7_o11 : Oper := ⟨some 35, .indexAddr 84 (.tmp 33) (.tmp 34), 0, "ref.go:31", #[⟨9, .data⟩, ⟨10, .data⟩], none⟩
def rfork7_o12 : Oper := ⟨some 36, .load 83 (.tmp 35), 83, "ref.go:31", #[⟨11, .data⟩], none⟩
def rfork7_o13 : Oper := ⟨some 37, .call { callee := Callee.builtin Builtin.append, args := #[.tmp 29, .tmp 36], argTypes := #[83, 83] }, 83, "ref.go:31", #[⟨5, .data⟩, ⟨12, .data⟩], none⟩
def rfork7_o14 : Oper := ⟨some 38, .buildSlice 84 1 #[(0, .tmp 37)], 84, "ref.go:31", #[⟨13, .data⟩], none⟩
def rfork7_o15 : Oper := ⟨some 39, .call { callee := Callee.builtin Builtin.append, args := #[.tmp 28, .tmp 38], argTypes := #[84, 84] }, 84, "ref.go:31", #[⟨4, .data⟩, ⟨14, .data⟩, ⟨13, .chain⟩], none⟩
def rfork7_o16 : Oper := ⟨some 40, .nilCheck (.tmp 24), 0, "ref.go:31", #[⟨0, .data⟩, ⟨0, .phase⟩, ⟨1, .phase⟩, ⟨2, .phase⟩, ⟨3, .phase⟩, ⟨4, .phase⟩, ⟨5, .phase⟩, ⟨6, .phase⟩, ⟨7, .phase⟩, ⟨8, .phase⟩, ⟨9, .phase⟩, ⟨10, .phase⟩, ⟨11, .phase⟩, ⟨12, .phase⟩, ⟨13, .phase⟩, ⟨14, .phase⟩, ⟨15, .phase⟩], none⟩
def rfork7_o17 : Oper := ⟨some 41, .fieldAddr 86 (.tmp 40) 1, 0, "ref.go:31", #[⟨16, .data⟩, ⟨0, .phase⟩, ⟨1, .phase⟩, ⟨2, .phase⟩, ⟨3, .phase⟩, ⟨4, .phase⟩, ⟨5, .phase⟩, ⟨6, .phase⟩, ⟨7, .phase⟩, ⟨8, .phase⟩, ⟨9, .phase⟩, ⟨10, .phase⟩, ⟨11, .phase⟩, ⟨12, .phase⟩, ⟨13, .phase⟩, ⟨14, .phase⟩, ⟨15, .phase⟩], none⟩
def rfork7_o18 : Oper := ⟨none, .store 84 (.tmp 41) (.tmp 39), 0, "ref.go:31", #[⟨17, .data⟩, ⟨15, .data⟩, ⟨15, .chain⟩, ⟨0, .phase⟩, ⟨1, .phase⟩, ⟨2, .phase⟩, ⟨3, .phase⟩, ⟨4, .phase⟩, ⟨5, .phase⟩, ⟨6, .phase⟩, ⟨7, .phase⟩, ⟨8, .phase⟩, ⟨9, .phase⟩, ⟨10, .phase⟩, ⟨11, .phase⟩, ⟨12, .phase⟩, ⟨13, .phase⟩, ⟨14, .phase⟩, ⟨15, .phase⟩], none⟩
def rfork7_ops : Array Oper := #[rfork7_o0, rfork7_o1, rfork7_o2, rfork7_o3, rfork7_o4, rfork7_o5, rfork7_o6, rfork7_o7, rfork7_o8, rfork7_o9, rfork7_o10, rfork7_o11, rfork7_o12, rfork7_o13, rfork7_o14, rfork7_o15, rfork7_o16, rfork7_o17, rfork7_o18]
theorem rfork7 (d f : Nat) (f1 d1 uv iv xp nv pv ev cv lv qv : Value) (w1 w2 w3 w4 w5 : World) (S : World → Prop) (a : Act) (w : World) (Q : Exit → Act → World → Prop) (hsz : a.tmps.size = 43)
    (t0 : a.tmps.getD 0 undef = .pointer (some ⟨d, 0, none⟩))
    (t3 : a.tmps.getD 3 undef = .pointer (some ⟨f, 0, none⟩))
    (t4 : a.tmps.getD 4 undef = iv)
    (GF1 : ∀ W, (Instr.fieldAt 86 (.pointer (some ⟨f, 0, none⟩)) 1).run Try.prog W = .ok f1 W) (GD1 : ∀ W, (Instr.fieldAt 86 (.pointer (some ⟨d, 0, none⟩)) 1).run Try.prog W = .ok d1 W) (GL0 : ∀ W, S W → (Instr.loadAt 84 d1).run Try.prog W = .ok uv W) (GIX : ∀ W, (Instr.indexAt 84 uv iv).run Try.prog W = .ok xp W) (GL2 : ∀ W, S W → (Instr.loadAt 83 xp).run Try.prog W = .ok nv W)
    (S0 : S w.drew) (S1 : S w1) (S2 : S w2) (S3 : S w3) (S4 : S w4) (S5 : S w5)
    (K0 : (Instr.loadAt 84 f1).run Try.prog w.drew = .ok pv w.drew) (K1 : (Instr.loadAt 84 f1).run Try.prog w1 = .ok pv w1) (K2 : (Instr.loadAt 84 f1).run Try.prog w2 = .ok pv w2) (K3 : (Instr.loadAt 84 f1).run Try.prog w3 = .ok pv w3)
    (EB0 : (Instr.buildSlice 83 0 #[]).run Try.prog w.drew = .ok ev w1) (EA1 : (Builtin.append_ #[83, 83] 83 #[ev, nv]).run Try.prog w1 = .ok cv w2)
    (EB1 : (Instr.buildSlice 84 1 #[(0, cv)]).run Try.prog w2 = .ok lv w3) (EA2 : (Builtin.append_ #[84, 84] 84 #[pv, lv]).run Try.prog w3 = .ok qv w4) (ES : (Instr.storeAt 84 f1 qv).run Try.prog w4 = .ok () w5)
    (h1 : ∀ (a' : Act) (w' : World), w' = w5 → a' = ((((((((((((((((((a).put (some 24) (.pointer (some ⟨f, 0, none⟩))).put (some 25) (.pointer (some ⟨f, 0, none⟩))).put (some 26) (.pointer (some ⟨f, 0, none⟩))).put (some 27) (f1)).put (some 30) (.pointer (some ⟨d, 0, none⟩))).put (some 31) (.pointer (some ⟨d, 0, none⟩))).put (some 32) (d1)).put (some 33) (uv)).put (some 34) (iv)).put (some 35) (xp)).put (some 36) (nv)).put (some 28) (pv)).put (some 29) (ev)).put (some 37) (cv)).put (some 38) (lv)).put (some 39) (qv)).put (some 40) (.pointer (some ⟨f, 0, none⟩))).put (some 41) (f1) → Q .normal a' w')
    (h2 : ∀ (a' : Act) (w' : World), w' = w5 → a' = ((((((((((((((((((a).put (some 24) (.pointer (some ⟨f, 0, none⟩))).put (some 25) (.pointer (some ⟨f, 0, none⟩))).put (some 26) (.pointer (some ⟨f, 0, none⟩))).put (some 27) (f1)).put (some 30) (.pointer (some ⟨d, 0, none⟩))).put (some 31) (.pointer (some ⟨d, 0, none⟩))).put (some 32) (d1)).put (some 33) (uv)).put (some 34) (iv)).put (some 35) (xp)).put (some 36) (nv)).put (some 29) (ev)).put (some 28) (pv)).put (some 37) (cv)).put (some 38) (lv)).put (some 39) (qv)).put (some 40) (.pointer (some ⟨f, 0, none⟩))).put (some 41) (f1) → Q .normal a' w')
    (h3 : ∀ (a' : Act) (w' : World), w' = w5 → a' = ((((((((((((((((((a).put (some 24) (.pointer (some ⟨f, 0, none⟩))).put (some 25) (.pointer (some ⟨f, 0, none⟩))).put (some 26) (.pointer (some ⟨f, 0, none⟩))).put (some 27) (f1)).put (some 30) (.pointer (some ⟨d, 0, none⟩))).put (some 31) (.pointer (some ⟨d, 0, none⟩))).put (some 32) (d1)).put (some 33) (uv)).put (some 34) (iv)).put (some 35) (xp)).put (some 36) (nv)).put (some 29) (ev)).put (some 37) (cv)).put (some 28) (pv)).put (some 38) (lv)).put (some 39) (qv)).put (some 40) (.pointer (some ⟨f, 0, none⟩))).put (some 41) (f1) → Q .normal a' w')
    (h4 : ∀ (a' : Act) (w' : World), w' = w5 → a' = ((((((((((((((((((a).put (some 24) (.pointer (some ⟨f, 0, none⟩))).put (some 25) (.pointer (some ⟨f, 0, none⟩))).put (some 26) (.pointer (some ⟨f, 0, none⟩))).put (some 27) (f1)).put (some 30) (.pointer (some ⟨d, 0, none⟩))).put (some 31) (.pointer (some ⟨d, 0, none⟩))).put (some 32) (d1)).put (some 33) (uv)).put (some 34) (iv)).put (some 35) (xp)).put (some 36) (nv)).put (some 29) (ev)).put (some 37) (cv)).put (some 38) (lv)).put (some 28) (pv)).put (some 39) (qv)).put (some 40) (.pointer (some ⟨f, 0, none⟩))).put (some 41) (f1) → Q .normal a' w') :
    (Code.region 7 rfork7_ops true).wp Try.prog Q a w := by
  refine wp_region_noPanic ?_
  refine wp_region_held_drew (S := fun w' => S w') (by kernel_rfl) (S0) (fun hHeld => ?_)
  refine tk 0 rfork7_o0 (.pointer (some ⟨f, 0, none⟩)) (by rfl) (fun w1 hw => exec_move rfl t3) hHeld (fun a1 e1 => ?_)
  rw [← e1] at h1 h2 h3 h4
  have z1 := pz e1 hsz
  replace t0 := pk e1 t0
  replace t3 := pk e1 t3
  replace t4 := pk e1 t4
  have t24 := pq e1 hsz
  clear e1 hsz
  refine tk 1 rfork7_o1 (.pointer (some ⟨f, 0, none⟩)) (by rfl) (fun w1 hw => exec_move rfl t3) hHeld (fun a2 e2 => ?_)
  rw [← e2] at h1 h2 h3 h4
  have z2 := pz e2 z1
  replace t0 := pk e2 t0
  replace t4 := pk e2 t4
  replace t24 := pk e2 t24
  clear t3
  have t25 := pq e2 z1
  clear e2 z1
  refine tk 2 rfork7_o2 (.pointer (some ⟨f, 0, none⟩)) (by rfl) (fun w1 hw => exec_nilCheck rfl t25) hHeld (fun a3 e3 => ?_)
  rw [← e3] at h1 h2 h3 h4
  have z3 := pz e3 z2
  replace t0 := pk e3 t0
  replace t4 := pk e3 t4
  replace t24 := pk e3 t24
  clear t25
  have t26 := pq e3 z2
  clear e3 z2
  refine tk 3 rfork7_o3 (f1) (by rfl) (fun w1 hw => exec_fieldAt rfl t26 (GF1 _)) hHeld (fun a4 e4 => ?_)
  rw [← e4] at h1 h2 h3 h4
  have z4 := pz e4 z3
  replace t0 := pk e4 t0
  replace t4 := pk e4 t4
  replace t24 := pk e4 t24
  clear t26
  have t27 := pq e4 z3
  clear e4 z3
  refine tk 6 rfork7_o6 (.pointer (some ⟨d, 0, none⟩)) (by rfl) (fun w1 hw => exec_move rfl t0) hHeld (fun a5 e5 => ?_)
  rw [← e5] at h1 h2 h3 h4
  have z5 := pz e5 z4
  replace t4 := pk e5 t4
  replace t24 := pk e5 t24
  replace t27 := pk e5 t27
  clear t0
  have t30 := pq e5 z4
  clear e5 z4
  refine tk 7 rfork7_o7 (.pointer (some ⟨d, 0, none⟩)) (by rfl) (fun w1 hw => exec_nilCheck rfl t30) hHeld (fun a6 e6 => ?_)
  rw [← e6] at h1 h2 h3 h4
  have z6 := pz e6 z5
  replace t4 := pk e6 t4
  replace t24 := pk e6 t24
  replace t27 := pk e6 t27
  clear t30
  have t31 := pq e6 z5
  clear e6 z5
  refine tk 8 rfork7_o8 (d1) (by rfl) (fun w1 hw => exec_fieldAt rfl t31 (GD1 _)) hHeld (fun a7 e7 => ?_)
  rw [← e7] at h1 h2 h3 h4
  have z7 := pz e7 z6
  replace t4 := pk e7 t4
  replace t24 := pk e7 t24
  replace t27 := pk e7 t27
  clear t31
  have t32 := pq e7 z6
  clear e7 z6
  refine tk 9 rfork7_o9 (uv) (by rfl) (fun w1 hw => exec_load rfl t32 (GL0 _ hw)) hHeld (fun a8 e8 => ?_)
  rw [← e8] at h1 h2 h3 h4
  have z8 := pz e8 z7
  replace t4 := pk e8 t4
  replace t24 := pk e8 t24
  replace t27 := pk e8 t27
  clear t32
  have t33 := pq e8 z7
  clear e8 z7
  refine tk 10 rfork7_o10 (iv) (by rfl) (fun w1 hw => exec_move rfl t4) hHeld (fun a9 e9 => ?_)
  rw [← e9] at h1 h2 h3 h4
  have z9 := pz e9 z8
  replace t24 := pk e9 t24
  replace t27 := pk e9 t27
  replace t33 := pk e9 t33
  clear t4
  have t34 := pq e9 z8
  clear e9 z8
  refine tk 11 rfork7_o11 (xp) (by rfl) (fun w1 hw => exec_indexAt rfl t33 t34 (GIX _)) hHeld (fun a10 e10 => ?_)
  rw [← e10] at h1 h2 h3 h4
  have z10 := pz e10 z9
  replace t24 := pk e10 t24
  replace t27 := pk e10 t27
  clear t33 t34
  have t35 := pq e10 z9
  clear e10 z9
  refine tk 12 rfork7_o12 (nv) (by rfl) (fun w1 hw => exec_load rfl t35 (GL2 _ hw)) hHeld (fun a11 e11 => ?_)
  rw [← e11] at h1 h2 h3 h4
  have z11 := pz e11 z10
  replace t24 := pk e11 t24
  replace t27 := pk e11 t27
  clear t35
  have t36 := pq e11 z10
  clear e11 z10
  refine wpAnyH_ready (rs := [4, 5]) (by kernel_rfl) (by simp) ?_
  refine AllReadyH.cons (o := rfork7_o4) rfl (fun K hK => ?_) (AllReadyH.cons (o := rfork7_o5) rfl (fun K hK => ?_) (AllReadyH.nil))
  · clear h2 h3 h4
    have X := exec_load (P := Try.prog) (a := a11) (o := rfork7_o4) rfl t27 K0
    rw [if_pos (by rfl), Oper.wp, X]
    show K _ _
    clear X
    refine hK.out _ _ (S0) (fun hHeld => ?_)
    clear hK K
    change wpAnyH _ _ _ _ _ _ _ (a11.put (some 28) (pv)) _
    obtain ⟨a12, e12⟩ : ∃ act, act = a11.put (some 28) (pv) := ⟨_, rfl⟩
    rw [← e12] at h1 ⊢
    have z12 := pz e12 z11
    replace t24 := pk e12 t24
    replace t36 := pk e12 t36
    clear t27
    have t28 := pq e12 z11
    clear e12 z11
    refine wpAnyH_ready (rs := [5]) (by kernel_rfl) (by simp) ?_
    refine AllReadyH.cons (o := rfork7_o5) rfl (fun K hK => ?_) AllReadyH.nil
    have X := exec_buildSlice0 (P := Try.prog) (a := a12) (o := rfork7_o5) rfl EB0
    rw [if_pos (by rfl), Oper.wp, X]
    show K _ _
    clear X
    refine hK.out _ _ (S1) (fun hHeld => ?_)
    clear hK K
    change wpAnyH _ _ _ _ _ _ _ (a12.put (some 29) (ev)) _
    obtain ⟨a13, e13⟩ : ∃ act, act = a12.put (some 29) (ev) := ⟨_, rfl⟩
    rw [← e13] at h1 ⊢
    have z13 := pz e13 z12
    replace t24 := pk e13 t24
    replace t36 := pk e13 t36
    replace t28 := pk e13 t28
    have t29 := pq e13 z12
    clear e13 z12
    refine wpAnyH_ready (rs := [13]) (by kernel_rfl) (by simp) ?_
    refine AllReadyH.cons (o := rfork7_o13) rfl (fun K hK => ?_) AllReadyH.nil
    have X := exec_append (P := Try.prog) (a := a13) (o := rfork7_o13) rfl t29 t36 EA1
    rw [if_pos (by rfl), Oper.wp, X]
    show K _ _
    clear X
    refine hK.out _ _ (S2) (fun hHeld => ?_)
    clear hK K
    change wpAnyH _ _ _ _ _ _ _ (a13.put (some 37) (cv)) _
    obtain ⟨a14, e14⟩ : ∃ act, act = a13.put (some 37) (cv) := ⟨_, rfl⟩
    rw [← e14] at h1 ⊢
    have z14 := pz e14 z13
    replace t24 := pk e14 t24
    replace t28 := pk e14 t28
    clear t36 t29
    have t37 := pq e14 z13
    clear e14 z13
    refine wpAnyH_ready (rs := [14]) (by kernel_rfl) (by simp) ?_
    refine AllReadyH.cons (o := rfork7_o14) rfl (fun K hK => ?_) AllReadyH.nil
    have X := exec_buildSlice (P := Try.prog) (a := a14) (o := rfork7_o14) rfl t37 EB1
    rw [if_pos (by rfl), Oper.wp, X]
    show K _ _
    clear X
    refine hK.out _ _ (S3) (fun hHeld => ?_)
    clear hK K
    change wpAnyH _ _ _ _ _ _ _ (a14.put (some 38) (lv)) _
    obtain ⟨a15, e15⟩ : ∃ act, act = a14.put (some 38) (lv) := ⟨_, rfl⟩
    rw [← e15] at h1 ⊢
    have z15 := pz e15 z14
    replace t24 := pk e15 t24
    replace t28 := pk e15 t28
    clear t37
    have t38 := pq e15 z14
    clear e15 z14
    refine wpAnyH_ready (rs := [15]) (by kernel_rfl) (by simp) ?_
    refine AllReadyH.cons (o := rfork7_o15) rfl (fun K hK => ?_) AllReadyH.nil
    have X := exec_append (P := Try.prog) (a := a15) (o := rfork7_o15) rfl t28 t38 EA2
    rw [if_pos (by rfl), Oper.wp, X]
    show K _ _
    clear X
    refine hK.out _ _ (S4) (fun hHeld => ?_)
    clear hK K
    change wpAnyH _ _ _ _ _ _ _ (a15.put (some 39) (qv)) _
    obtain ⟨a16, e16⟩ : ∃ act, act = a15.put (some 39) (qv) := ⟨_, rfl⟩
    rw [← e16] at h1 ⊢
    have z16 := pz e16 z15
    replace t24 := pk e16 t24
    clear t28 t38
    have t39 := pq e16 z15
    clear e16 z15
    refine tk 16 rfork7_o16 (.pointer (some ⟨f, 0, none⟩)) (by rfl) (fun w1 hw => exec_nilCheck rfl t24) hHeld (fun a17 e17 => ?_)
    rw [← e17] at h1
    have z17 := pz e17 z16
    replace t39 := pk e17 t39
    clear t24
    have t40 := pq e17 z16
    clear e17 z16
    refine tk 17 rfork7_o17 (f1) (by rfl) (fun w1 hw => exec_fieldAt rfl t40 (GF1 _)) hHeld (fun a18 e18 => ?_)
    rw [← e18] at h1
    have z18 := pz e18 z17
    replace t39 := pk e18 t39
    clear t40
    have t41 := pq e18 z17
    clear e18 z17
    refine wpAnyH_ready (rs := [18]) (by kernel_rfl) (by simp) ?_
    refine AllReadyH.cons (o := rfork7_o18) rfl (fun K hK => ?_) AllReadyH.nil
    have X := exec_store (P := Try.prog) (a := a18) (o := rfork7_o18) rfl t41 t39 ES
    rw [if_pos (by rfl), Oper.wp, X]
    show K _ _
    clear X
    refine hK.out _ _ (S5) (fun hHeld => ?_)
    clear hK K
    exact wpAnyH_done (by kernel_rfl) (NoPanic.normal (h1 _ _ (rfl) rfl)) _
  · clear h1
    have X := exec_buildSlice0 (P := Try.prog) (a := a11) (o := rfork7_o5) rfl EB0
    rw [if_pos (by rfl), Oper.wp, X]
    show K _ _
    clear X
    refine hK.out _ _ (S1) (fun hHeld => ?_)
    clear hK K
    change wpAnyH _ _ _ _ _ _ _ (a11.put (some 29) (ev)) _
    obtain ⟨a20, e20⟩ : ∃ act, act = a11.put (some 29) (ev) := ⟨_, rfl⟩
    rw [← e20] at h2 h3 h4 ⊢
    have z20 := pz e20 z11
    replace t24 := pk e20 t24
    replace t27 := pk e20 t27
    replace t36 := pk e20 t36
    have t29 := pq e20 z11
    clear e20 z11
    refine wpAnyH_ready (rs := [4, 13]) (by kernel_rfl) (by simp) ?_
    refine AllReadyH.cons (o := rfork7_o4) rfl (fun K hK => ?_) (AllReadyH.cons (o := rfork7_o13) rfl (fun K hK => ?_) (AllReadyH.nil))
    · clear h3 h4
      have X := exec_load (P := Try.prog) (a := a20) (o := rfork7_o4) rfl t27 K1
      rw [if_pos (by rfl), Oper.wp, X]
      show K _ _
      clear X
      refine hK.out _ _ (S1) (fun hHeld => ?_)
      clear hK K
      change wpAnyH _ _ _ _ _ _ _ (a20.put (some 28) (pv)) _
      obtain ⟨a21, e21⟩ : ∃ act, act = a20.put (some 28) (pv) := ⟨_, rfl⟩
      rw [← e21] at h2 ⊢
      have z21 := pz e21 z20
      replace t24 := pk e21 t24
      replace t36 := pk e21 t36
      replace t29 := pk e21 t29
      clear t27
      have t28 := pq e21 z20
      clear e21 z20
      refine wpAnyH_ready (rs := [13]) (by kernel_rfl) (by simp) ?_
      refine AllReadyH.cons (o := rfork7_o13) rfl (fun K hK => ?_) AllReadyH.nil
      have X := exec_append (P := Try.prog) (a := a21) (o := rfork7_o13) rfl t29 t36 EA1
      rw [if_pos (by rfl), Oper.wp, X]
      show K _ _
      clear X
      refine hK.out _ _ (S2) (fun hHeld => ?_)
      clear hK K
      change wpAnyH _ _ _ _ _ _ _ (a21.put (some 37) (cv)) _
      obtain ⟨a22, e22⟩ : ∃ act, act = a21.put (some 37) (cv) := ⟨_, rfl⟩
      rw [← e22] at h2 ⊢
      have z22 := pz e22 z21
      replace t24 := pk e22 t24
      replace t28 := pk e22 t28
      clear t36 t29
      have t37 := pq e22 z21
      clear e22 z21
      refine wpAnyH_ready (rs := [14]) (by kernel_rfl) (by simp) ?_
      refine AllReadyH.cons (o := rfork7_o14) rfl (fun K hK => ?_) AllReadyH.nil
      have X := exec_buildSlice (P := Try.prog) (a := a22) (o := rfork7_o14) rfl t37 EB1
      rw [if_pos (by rfl), Oper.wp, X]
      show K _ _
      clear X
      refine hK.out _ _ (S3) (fun hHeld => ?_)
      clear hK K
      change wpAnyH _ _ _ _ _ _ _ (a22.put (some 38) (lv)) _
      obtain ⟨a23, e23⟩ : ∃ act, act = a22.put (some 38) (lv) := ⟨_, rfl⟩
      rw [← e23] at h2 ⊢
      have z23 := pz e23 z22
      replace t24 := pk e23 t24
      replace t28 := pk e23 t28
      clear t37
      have t38 := pq e23 z22
      clear e23 z22
      refine wpAnyH_ready (rs := [15]) (by kernel_rfl) (by simp) ?_
      refine AllReadyH.cons (o := rfork7_o15) rfl (fun K hK => ?_) AllReadyH.nil
      have X := exec_append (P := Try.prog) (a := a23) (o := rfork7_o15) rfl t28 t38 EA2
      rw [if_pos (by rfl), Oper.wp, X]
      show K _ _
      clear X
      refine hK.out _ _ (S4) (fun hHeld => ?_)
      clear hK K
      change wpAnyH _ _ _ _ _ _ _ (a23.put (some 39) (qv)) _
      obtain ⟨a24, e24⟩ : ∃ act, act = a23.put (some 39) (qv) := ⟨_, rfl⟩
      rw [← e24] at h2 ⊢
      have z24 := pz e24 z23
      replace t24 := pk e24 t24
      clear t28 t38
      have t39 := pq e24 z23
      clear e24 z23
      refine tk 16 rfork7_o16 (.pointer (some ⟨f, 0, none⟩)) (by rfl) (fun w1 hw => exec_nilCheck rfl t24) hHeld (fun a25 e25 => ?_)
      rw [← e25] at h2
      have z25 := pz e25 z24
      replace t39 := pk e25 t39
      clear t24
      have t40 := pq e25 z24
      clear e25 z24
      refine tk 17 rfork7_o17 (f1) (by rfl) (fun w1 hw => exec_fieldAt rfl t40 (GF1 _)) hHeld (fun a26 e26 => ?_)
      rw [← e26] at h2
      have z26 := pz e26 z25
      replace t39 := pk e26 t39
      clear t40
      have t41 := pq e26 z25
      clear e26 z25
      refine wpAnyH_ready (rs := [18]) (by kernel_rfl) (by simp) ?_
      refine AllReadyH.cons (o := rfork7_o18) rfl (fun K hK => ?_) AllReadyH.nil
      have X := exec_store (P := Try.prog) (a := a26) (o := rfork7_o18) rfl t41 t39 ES
      rw [if_pos (by rfl), Oper.wp, X]
      show K _ _
      clear X
      refine hK.out _ _ (S5) (fun hHeld => ?_)
      clear hK K
      exact wpAnyH_done (by kernel_rfl) (NoPanic.normal (h2 _ _ (rfl) rfl)) _
    · clear h2
      have X := exec_append (P := Try.prog) (a := a20) (o := rfork7_o13) rfl t29 t36 EA1
      rw [if_pos (by rfl), Oper.wp, X]
      show K _ _
      clear X
      refine hK.out _ _ (S2) (fun hHeld => ?_)
      clear hK K
      change wpAnyH _ _ _ _ _ _ _ (a20.put (some 37) (cv)) _
      obtain ⟨a28, e28⟩ : ∃ act, act = a20.put (some 37) (cv) := ⟨_, rfl⟩
      rw [← e28] at h3 h4 ⊢
      have z28 := pz e28 z20
      replace t24 := pk e28 t24
      replace t27 := pk e28 t27
      clear t36 t29
      have t37 := pq e28 z20
      clear e28 z20
      refine wpAnyH_ready (rs := [4, 14]) (by kernel_rfl) (by simp) ?_
      refine AllReadyH.cons (o := rfork7_o4) rfl (fun K hK => ?_) (AllReadyH.cons (o := rfork7_o14) rfl (fun K hK => ?_) (AllReadyH.nil))
      · clear h4
        have X := exec_load (P := Try.prog) (a := a28) (o := rfork7_o4) rfl t27 K2
        rw [if_pos (by rfl), Oper.wp, X]
        show K _ _
        clear X
        refine hK.out _ _ (S2) (fun hHeld => ?_)
        clear hK K
        change wpAnyH _ _ _ _ _ _ _ (a28.put (some 28) (pv)) _
        obtain ⟨a29, e29⟩ : ∃ act, act = a28.put (some 28) (pv) := ⟨_, rfl⟩
        rw [← e29] at h3 ⊢
        have z29 := pz e29 z28
        replace t24 := pk e29 t24
        replace t37 := pk e29 t37
        clear t27
        have t28 := pq e29 z28
        clear e29 z28
        refine wpAnyH_ready (rs := [14]) (by kernel_rfl) (by simp) ?_
        refine AllReadyH.cons (o := rfork7_o14) rfl (fun K hK => ?_) AllReadyH.nil
        have X := exec_buildSlice (P := Try.prog) (a := a29) (o := rfork7_o14) rfl t37 EB1
        rw [if_pos (by rfl), Oper.wp, X]
        show K _ _
        clear X
        refine hK.out _ _ (S3) (fun hHeld => ?_)
        clear hK K
        change wpAnyH _ _ _ _ _ _ _ (a29.put (some 38) (lv)) _
        obtain ⟨a30, e30⟩ : ∃ act, act = a29.put (some 38) (lv) := ⟨_, rfl⟩
        rw [← e30] at h3 ⊢
        have z30 := pz e30 z29
        replace t24 := pk e30 t24
        replace t28 := pk e30 t28
        clear t37
        have t38 := pq e30 z29
        clear e30 z29
        refine wpAnyH_ready (rs := [15]) (by kernel_rfl) (by simp) ?_
        refine AllReadyH.cons (o := rfork7_o15) rfl (fun K hK => ?_) AllReadyH.nil
        have X := exec_append (P := Try.prog) (a := a30) (o := rfork7_o15) rfl t28 t38 EA2
        rw [if_pos (by rfl), Oper.wp, X]
        show K _ _
        clear X
        refine hK.out _ _ (S4) (fun hHeld => ?_)
        clear hK K
        change wpAnyH _ _ _ _ _ _ _ (a30.put (some 39) (qv)) _
        obtain ⟨a31, e31⟩ : ∃ act, act = a30.put (some 39) (qv) := ⟨_, rfl⟩
        rw [← e31] at h3 ⊢
        have z31 := pz e31 z30
        replace t24 := pk e31 t24
        clear t28 t38
        have t39 := pq e31 z30
        clear e31 z30
        refine tk 16 rfork7_o16 (.pointer (some ⟨f, 0, none⟩)) (by rfl) (fun w1 hw => exec_nilCheck rfl t24) hHeld (fun a32 e32 => ?_)
        rw [← e32] at h3
        have z32 := pz e32 z31
        replace t39 := pk e32 t39
        clear t24
        have t40 := pq e32 z31
        clear e32 z31
        refine tk 17 rfork7_o17 (f1) (by rfl) (fun w1 hw => exec_fieldAt rfl t40 (GF1 _)) hHeld (fun a33 e33 => ?_)
        rw [← e33] at h3
        have z33 := pz e33 z32
        replace t39 := pk e33 t39
        clear t40
        have t41 := pq e33 z32
        clear e33 z32
        refine wpAnyH_ready (rs := [18]) (by kernel_rfl) (by simp) ?_
        refine AllReadyH.cons (o := rfork7_o18) rfl (fun K hK => ?_) AllReadyH.nil
        have X := exec_store (P := Try.prog) (a := a33) (o := rfork7_o18) rfl t41 t39 ES
        rw [if_pos (by rfl), Oper.wp, X]
        show K _ _
        clear X
        refine hK.out _ _ (S5) (fun hHeld => ?_)
        clear hK K
        exact wpAnyH_done (by kernel_rfl) (NoPanic.normal (h3 _ _ (rfl) rfl)) _
      · clear h3
        have X := exec_buildSlice (P := Try.prog) (a := a28) (o := rfork7_o14) rfl t37 EB1
        rw [if_pos (by rfl), Oper.wp, X]
        show K _ _
        clear X
        refine hK.out _ _ (S3) (fun hHeld => ?_)
        clear hK K
        change wpAnyH _ _ _ _ _ _ _ (a28.put (some 38) (lv)) _
        obtain ⟨a35, e35⟩ : ∃ act, act = a28.put (some 38) (lv) := ⟨_, rfl⟩
        rw [← e35] at h4 ⊢
        have z35 := pz e35 z28
        replace t24 := pk e35 t24
        replace t27 := pk e35 t27
        clear t37
        have t38 := pq e35 z28
        clear e35 z28
        refine wpAnyH_ready (rs := [4]) (by kernel_rfl) (by simp) ?_
        refine AllReadyH.cons (o := rfork7_o4) rfl (fun K hK => ?_) AllReadyH.nil
        have X := exec_load (P := Try.prog) (a := a35) (o := rfork7_o4) rfl t27 K3
        rw [if_pos (by rfl), Oper.wp, X]
        show K _ _
        clear X
        refine hK.out _ _ (S3) (fun hHeld => ?_)
        clear hK K
        change wpAnyH _ _ _ _ _ _ _ (a35.put (some 28) (pv)) _
        obtain ⟨a36, e36⟩ : ∃ act, act = a35.put (some 28) (pv) := ⟨_, rfl⟩
        rw [← e36] at h4 ⊢
        have z36 := pz e36 z35
        replace t24 := pk e36 t24
        replace t38 := pk e36 t38
        clear t27
        have t28 := pq e36 z35
        clear e36 z35
        refine wpAnyH_ready (rs := [15]) (by kernel_rfl) (by simp) ?_
        refine AllReadyH.cons (o := rfork7_o15) rfl (fun K hK => ?_) AllReadyH.nil
        have X := exec_append (P := Try.prog) (a := a36) (o := rfork7_o15) rfl t28 t38 EA2
        rw [if_pos (by rfl), Oper.wp, X]
        show K _ _
        clear X
        refine hK.out _ _ (S4) (fun hHeld => ?_)
        clear hK K
        change wpAnyH _ _ _ _ _ _ _ (a36.put (some 39) (qv)) _
        obtain ⟨a37, e37⟩ : ∃ act, act = a36.put (some 39) (qv) := ⟨_, rfl⟩
        rw [← e37] at h4 ⊢
        have z37 := pz e37 z36
        replace t24 := pk e37 t24
        clear t38 t28
        have t39 := pq e37 z36
        clear e37 z36
        refine tk 16 rfork7_o16 (.pointer (some ⟨f, 0, none⟩)) (by rfl) (fun w1 hw => exec_nilCheck rfl t24) hHeld (fun a38 e38 => ?_)
        rw [← e38] at h4
        have z38 := pz e38 z37
        replace t39 := pk e38 t39
        clear t24
        have t40 := pq e38 z37
        clear e38 z37
        refine tk 17 rfork7_o17 (f1) (by rfl) (fun w1 hw => exec_fieldAt rfl t40 (GF1 _)) hHeld (fun a39 e39 => ?_)
        rw [← e39] at h4
        have z39 := pz e39 z38
        replace t39 := pk e39 t39
        clear t40
        have t41 := pq e39 z38
        clear e39 z38
        refine wpAnyH_ready (rs := [18]) (by kernel_rfl) (by simp) ?_
        refine AllReadyH.cons (o := rfork7_o18) rfl (fun K hK => ?_) AllReadyH.nil
        have X := exec_store (P := Try.prog) (a := a39) (o := rfork7_o18) rfl t41 t39 ES
        rw [if_pos (by rfl), Oper.wp, X]
        show K _ _
        clear X
        refine hK.out _ _ (S5) (fun hHeld => ?_)
        clear hK K
        exact wpAnyH_done (by kernel_rfl) (NoPanic.normal (h4 _ _ (rfl) rfl)) _
def rfork3_o0 : Oper := ⟨some 7, .buildSlice 83 0 #[], 83, "ref.go:29", #[], none⟩
def rfork3_o1 : Oper := ⟨some 8, .move (.tmp 0), 27, "ref.go:29", #[], none⟩
def rfork3_o2 : Oper := ⟨some 9, .nilCheck (.tmp 8), 0, "ref.go:29", #[⟨1, .data⟩], none⟩
def rfork3_o3 : Oper := ⟨some 10, .fieldAddr 86 (.tmp 9) 0, 0, "ref.go:29", #[⟨2, .data⟩], none⟩
def rfork3_o4 : Oper := ⟨some 11, .load 83 (.tmp 10), 83, "ref.go:29", #[⟨3, .data⟩], none⟩
def rfork3_o5 : Oper := ⟨some 12, .call { callee := Callee.builtin Builtin.append, args := #[.tmp 7, .tmp 11], argTypes := #[83, 83] }, 83, "ref.go:29", #[⟨0, .data⟩, ⟨4, .data⟩], none⟩
def rfork3_o6 : Oper := ⟨some 13, .build 86 #[(0, .tmp 12)], 86, "ref.go:29", #[⟨5, .data⟩], none⟩
def rfork3_o7 : Oper := ⟨some 14, .box 86 (.tmp 13), 27, "ref.go:29", #[⟨6, .data⟩], none⟩
def rfork3_o8 : Oper := ⟨some 3, .assign (.tmp 14), 27, "ref.go:29", #[⟨7, .data⟩, ⟨5, .chain⟩, ⟨0, .phase⟩, ⟨1, .phase⟩, ⟨2, .phase⟩, ⟨3, .phase⟩, ⟨4, .phase⟩, ⟨5, .phase⟩, ⟨6, .phase⟩, ⟨7, .phase⟩], none⟩
def rfork3_ops : Array Oper := #[rfork3_o0, rfork3_o1, rfork3_o2, rfork3_o3, rfork3_o4, rfork3_o5, rfork3_o6, rfork3_o7, rfork3_o8]
theorem rfork3 (d : Nat) (nv ev cv bv pv : Value) (w1 w2 w3 : World) (a : Act) (w : World) (Q : Exit → Act → World → Prop) (hsz : a.tmps.size = 43)
    (t0 : a.tmps.getD 0 undef = .pointer (some ⟨d, 0, none⟩))
    (E0 : (Instr.buildSlice 83 0 #[]).run Try.prog w = .ok ev w1) (GL : (Instr.loadAt 83 (.pointer (some ⟨d, 0 + 0, none⟩))).run Try.prog w1 = .ok nv w1) (E5 : (Builtin.append_ #[83, 83] 83 #[ev, nv]).run Try.prog w1 = .ok cv w2) (GB : ∀ W, (Instr.build 86 #[(0, cv)]).run Try.prog W = .ok bv W) (E7 : (Instr.box 86 bv).run Try.prog w2 = .ok pv w3)
    (h : ∀ (a' : Act) (w' : World), w' = w3 → a' = (((((((((a).put (some 7) (ev)).put (some 8) (.pointer (some ⟨d, 0, none⟩))).put (some 9) (.pointer (some ⟨d, 0, none⟩))).put (some 10) (.pointer (some ⟨d, 0 + 0, none⟩))).put (some 11) (nv)).put (some 12) (cv)).put (some 13) (bv)).put (some 14) (pv)).put (some 3) (pv) → Q .normal a' w') :
    (Code.region 3 rfork3_ops false).wp Try.prog Q a w := by
  refine wp_region_list ?_
  change wpList _ _ _ [rfork3_o0, rfork3_o1, rfork3_o2, rfork3_o3, rfork3_o4, rfork3_o5, rfork3_o6, rfork3_o7, rfork3_o8] _ _
  refine qk (v := ev) (by rfl) (exec_buildSlice0 rfl E0) (fun a0 e0 => ?_)
  rw [← e0] at h
  have z0 := pz e0 hsz
  replace t0 := pk e0 t0
  have t7 := pq e0 hsz
  clear e0 hsz
  refine qv (v := .pointer (some ⟨d, 0, none⟩)) (by rfl) (exec_move rfl t0) (fun a1 e1 => ?_)
  rw [← e1] at h
  have z1 := pz e1 z0
  replace t7 := pk e1 t7
  clear t0
  have t8 := pq e1 z0
  clear e1 z0
  refine qv (v := .pointer (some ⟨d, 0, none⟩)) (by rfl) (exec_nilCheck rfl t8) (fun a2 e2 => ?_)
  rw [← e2] at h
  have z2 := pz e2 z1
  replace t7 := pk e2 t7
  clear t8
  have t9 := pq e2 z1
  clear e2 z1
  refine qv (v := .pointer (some ⟨d, 0 + 0, none⟩)) (by rfl) (exec_fieldAt rfl t9 (fg_86_0 _ _ _)) (fun a3 e3 => ?_)
  rw [← e3] at h
  have z3 := pz e3 z2
  replace t7 := pk e3 t7
  clear t9
  have t10 := pq e3 z2
  clear e3 z2
  refine qv (v := nv) (by rfl) (exec_load rfl t10 GL) (fun a4 e4 => ?_)
  rw [← e4] at h
  have z4 := pz e4 z3
  replace t7 := pk e4 t7
  clear t10
  have t11 := pq e4 z3
  clear e4 z3
  refine qk (v := cv) (by rfl) (exec_append rfl t7 t11 E5) (fun a5 e5 => ?_)
  rw [← e5] at h
  have z5 := pz e5 z4
  clear t7 t11
  have t12 := pq e5 z4
  clear e5 z4
  refine qv (v := bv) (by rfl) (exec_build1 rfl t12 (GB _)) (fun a6 e6 => ?_)
  rw [← e6] at h
  have z6 := pz e6 z5
  clear t12
  have t13 := pq e6 z5
  clear e6 z5
  refine qk (v := pv) (by rfl) (exec_box rfl t13 E7) (fun a7 e7 => ?_)
  rw [← e7] at h
  have z7 := pz e7 z6
  clear t13
  have t14 := pq e7 z6
  clear e7 z6
  refine qv (v := pv) (by rfl) (exec_assign rfl t14) (fun a8 e8 => ?_)
  rw [← e8] at h
  have z8 := pz e8 z7
  clear t14
  clear e8 z7
  exact wpList_nil (h _ _ (rfl) rfl)
def tfork9_o0 : Oper := ⟨some 31, .move (.tmp 7), 24, "law.go:161", #[], none⟩
def tfork9_o1 : Oper := ⟨some 32, .nilCheck (.tmp 31), 0, "law.go:161", #[⟨0, .data⟩], none⟩
def tfork9_o2 : Oper := ⟨some 33, .fieldAddr 32 (.tmp 32) 0, 0, "law.go:161", #[⟨1, .data⟩], none⟩
def tfork9_o3 : Oper := ⟨some 34, .load 25 (.tmp 33), 25, "law.go:161", #[⟨2, .data⟩], none⟩
def tfork9_o4 : Oper := ⟨some 35, .call { callee := Callee.value (Operand.func 15), args := #[.tmp 34], argTypes := #[25] }, 25, "law.go:161", #[⟨3, .data⟩], none⟩
def tfork9_o5 : Oper := ⟨some 36, .move (.tmp 7), 24, "law.go:161", #[], none⟩
def tfork9_o6 : Oper := ⟨some 37, .nilCheck (.tmp 36), 0, "law.go:161", #[⟨5, .data⟩], none⟩
def tfork9_o7 : Oper := ⟨some 38, .fieldAddr 32 (.tmp 37) 1, 0, "law.go:161", #[⟨6, .data⟩], none⟩
def tfork9_o8 : Oper := ⟨some 39, .load 27 (.tmp 38), 27, "law.go:161", #[⟨7, .data⟩], none⟩
def tfork9_o9 : Oper := ⟨some 40, .call { callee := Callee.value (Operand.func 16), args := #[.tmp 39], argTypes := #[27] }, 27, "law.go:161", #[⟨8, .data⟩, ⟨4, .chain⟩], none⟩
def tfork9_o10 : Oper := ⟨some 41, .buildSlice 29 0 #[], 29, "law.go:161", #[], none⟩
def tfork9_o11 : Oper := ⟨some 42, .move (.tmp 7), 24, "law.go:161", #[], none⟩
def tfork9_o12 : Oper := ⟨some 43, .nilCheck (.tmp 42), 0, "law.go:161", #[⟨11, .data⟩], none⟩
def tfork9_o13 : Oper := ⟨some 44, .fieldAddr 32 (.tmp 43) 2, 0, "law.go:161", #[⟨12, .data⟩], none⟩
def tfork9_o14 : Oper := ⟨some 45, .load 29 (.tmp 44), 29, "law.go:161", #[⟨13, .data⟩], none⟩
def tfork9_o15 : Oper := ⟨some 46, .call { callee := Callee.builtin Builtin.append, args := #[.tmp 41, .tmp 45], argTypes := #[29, 29] }, 29, "law.go:161", #[⟨10, .data⟩, ⟨14, .data⟩, ⟨9, .chain⟩], none⟩
def tfork9_o16 : Oper := ⟨some 47, .buildSlice 30 0 #[], 30, "law.go:161", #[], none⟩
def tfork9_o17 : Oper := ⟨some 48, .move (.tmp 7), 24, "law.go:161", #[], none⟩
def tfork9_o18 : Oper := ⟨some 49, .nilCheck (.tmp 48), 0, "law.go:161", #[⟨17, .data⟩], none⟩
def tfork9_o19 : Oper := ⟨some 50, .fieldAddr 32 (.tmp 49) 3, 0, "law.go:161", #[⟨18, .data⟩], none⟩
def tfork9_o20 : Oper := ⟨some 51, .load 30 (.tmp 50), 30, "law.go:161", #[⟨19, .data⟩], none⟩
def tfork9_o21 : Oper := ⟨some 52, .call { callee := Callee.builtin Builtin.append, args := #[.tmp 47, .tmp 51], argTypes := #[30, 30] }, 30, "law.go:161", #[⟨16, .data⟩, ⟨20, .data⟩, ⟨15, .chain⟩], none⟩
def tfork9_o22 : Oper := ⟨some 53, .build 32 #[(0, .tmp 35), (1, .tmp 40), (2, .tmp 46), (3, .tmp 52)], 32, "law.go:161", #[⟨4, .data⟩, ⟨9, .data⟩, ⟨15, .data⟩, ⟨21, .data⟩], none⟩
def tfork9_o23 : Oper := ⟨some 54, .box 32 (.tmp 53), 24, "law.go:161", #[⟨22, .data⟩], none⟩
def tfork9_o24 : Oper := ⟨some 9, .assign (.tmp 54), 24, "law.go:161", #[⟨23, .data⟩, ⟨21, .chain⟩, ⟨0, .phase⟩, ⟨1, .phase⟩, ⟨2, .phase⟩, ⟨3, .phase⟩, ⟨4, .phase⟩, ⟨5, .phase⟩, ⟨6, .phase⟩, ⟨7, .phase⟩, ⟨8, .phase⟩, ⟨9, .phase⟩, ⟨10, .phase⟩, ⟨11, .phase⟩, ⟨12, .phase⟩, ⟨13, .phase⟩, ⟨14, .phase⟩, ⟨15, .phase⟩, ⟨16, .phase⟩, ⟨17, .phase⟩, ⟨18, .phase⟩, ⟨19, .phase⟩, ⟨20, .phase⟩, ⟨21, .phase⟩, ⟨22, .phase⟩, ⟨23, .phase⟩], none⟩
def tfork9_ops : Array Oper := #[tfork9_o0, tfork9_o1, tfork9_o2, tfork9_o3, tfork9_o4, tfork9_o5, tfork9_o6, tfork9_o7, tfork9_o8, tfork9_o9, tfork9_o10, tfork9_o11, tfork9_o12, tfork9_o13, tfork9_o14, tfork9_o15, tfork9_o16, tfork9_o17, tfork9_o18, tfork9_o19, tfork9_o20, tfork9_o21, tfork9_o22, tfork9_o23, tfork9_o24]
set_option linter.unusedSectionVars false
section
variable {S : World → Prop} {St : World → Option Value → Option Value → Option Value → Option Value → Option Value → Option Value → Prop} {Fin : Value → Value → Value → Value → Value → World → Prop} {x : Nat} {tv dv bv0 sv0 : Value} {p : Act} {Q : Exit → Act → World → Prop}
    (SS : ∀ W o4 o9 o10 o15 o16 o21, St W o4 o9 o10 o15 o16 o21 → S W) 
    (K4 : ∀ W o10 o16, St W none none o10 none o16 none → Calls Try.prog 15 #[tv] W fun e w' => ∃ v, e = .returned v ∧ St w' (some v) none o10 none o16 none)
    (K9 : ∀ W v4 o10 o16, St W (some v4) none o10 none o16 none → Calls Try.prog 16 #[dv] W fun e w' => ∃ v, e = .returned v ∧ St w' (some v4) (some v) o10 none o16 none)
    (K10 : ∀ W o4 o9 o16, St W o4 o9 none none o16 none → ∃ v w2, (Instr.buildSlice 29 0 #[]).run Try.prog W = .ok v w2 ∧ St w2 o4 o9 (some v) none o16 none)
    (K16 : ∀ W o4 o9 o10 o15, St W o4 o9 o10 o15 none none → ∃ v w2, (Instr.buildSlice 30 0 #[]).run Try.prog W = .ok v w2 ∧ St w2 o4 o9 o10 o15 (some v) none)
    (K15 : ∀ W v4 v9 v10 o16, St W (some v4) (some v9) (some v10) none o16 none → ∃ v w2, (Builtin.append_ #[29, 29] 29 #[v10, bv0]).run Try.prog W = .ok v w2 ∧ St w2 (some v4) (some v9) (some v10) (some v) o16 none)
    (K21 : ∀ W v4 v9 v10 v15 v16, St W (some v4) (some v9) (some v10) (some v15) (some v16) none → ∃ v w2, (Builtin.append_ #[30, 30] 30 #[v16, sv0]).run Try.prog W = .ok v w2 ∧ St w2 (some v4) (some v9) (some v10) (some v15) (some v16) (some v))
    (KB : ∀ W v4 v9 v10 v15 v16 v21, St W (some v4) (some v9) (some v10) (some v15) (some v16) (some v21) → ∃ bv pv w2, (∀ W', (Instr.build 32 #[(0, v4), (1, v9), (2, v15), (3, v21)]).run Try.prog W' = .ok bv W') ∧ (Instr.box 32 bv).run Try.prog W = .ok pv w2 ∧ S w2 ∧ Fin v4 v9 v15 v21 pv w2)
    (h : ∀ (v4 v9 v10 v15 v16 v21 bv pv : Value) (a' : Act) (w' : World), Fin v4 v9 v15 v21 pv w' → a' = (((((((((p).put (some 35) v4).put (some 40) v9).put (some 41) v10).put (some 46) v15).put (some 47) v16).put (some 52) v21).put (some 53) bv).put (some 54) pv).put (some 9) pv → Q .normal a' w')
include SS K4 K9 K10 K16 K15 K21 KB h
theorem tf9_4_9_10_15_16_21 (L : Array Bool) (n : Nat) (hL : L = #[true, true, true, true, true, true, true, true, true, true, true, true, true, true, true, true, true, true, true, true, true, true, false, false, false]) (hn : n = 3) (v4 v9 v10 v15 v16 v21 : Value) (c : Act) (W : World) (hc : c = ((((((p).put (some 35) v4).put (some 40) v9).put (some 41) v10).put (some 46) v15).put (some 47) v16).put (some 52) v21) (z : c.tmps.size = 143) (t35 : c.tmps.getD 35 undef = v4) (t40 : c.tmps.getD 40 undef = v9) (t46 : c.tmps.getD 46 undef = v15) (t52 : c.tmps.getD 52 undef = v21) (st : St W (some v4) (some v9) (some v10) (some v15) (some v16) (some v21)) :
    wpAnyH Try.prog .any tfork9_ops (NoPanic Q) S n L c W := by
  subst hL hn
  have HC := shutMk hc
  clear hc
  obtain ⟨bv, pv, yb, GB, EB, SF, HF⟩ := KB _ _ _ _ _ _ _ st
  refine tk 22 tfork9_o22 bv (by rfl) (fun w1 hw => exec_build4 rfl t35 t40 t46 t52 (GB _)) (SS _ _ _ _ _ _ _ st) (fun a1 e1 => ?_)
  have z1 := pz e1 z
  have t53 := pq e1 z
  refine wpAnyH_ready (rs := [23]) (by kernel_rfl) (by simp) ?_
  refine AllReadyH.cons (o := tfork9_o23) rfl (fun K hK => ?_) AllReadyH.nil
  have X := exec_box (P := Try.prog) (a := a1) (o := tfork9_o23) rfl t53 EB
  rw [if_pos (by rfl), Oper.wp, X]
  show K _ _
  clear X
  refine hK.out _ _ SF (fun hHeld => ?_)
  clear hK K
  change wpAnyH _ _ _ _ _ _ _ (a1.put (some 54) pv) _
  obtain ⟨a2, e2⟩ : ∃ act, act = a1.put (some 54) pv := ⟨_, rfl⟩
  rw [← e2]
  have z2 := pz e2 z1
  have t54 := pq e2 z1
  refine tk 24 tfork9_o24 pv (by rfl) (fun w1 hw => exec_assign rfl t54) hHeld (fun a3 e3 => ?_)
  exact wpAnyH_done (by kernel_rfl) (NoPanic.normal (h _ _ _ _ _ _ _ _ _ _ HF (by rw [e3, e2, e1, HC.out]))) _
theorem tf9_4_9_10_15_16 (L : Array Bool) (n : Nat) (hL : L = #[true, true, true, true, true, true, true, true, true, true, true, true, true, true, true, true, true, true, true, true, true, false, false, false, false]) (hn : n = 4) (v4 v9 v10 v15 v16 : Value) (c : Act) (W : World) (hc : c = (((((p).put (some 35) v4).put (some 40) v9).put (some 41) v10).put (some 46) v15).put (some 47) v16) (z : c.tmps.size = 143) (t47 : c.tmps.getD 47 undef = v16) (t51 : c.tmps.getD 51 undef = sv0) (t35 : c.tmps.getD 35 undef = v4) (t40 : c.tmps.getD 40 undef = v9) (t46 : c.tmps.getD 46 undef = v15) (st : St W (some v4) (some v9) (some v10) (some v15) (some v16) none) :
    wpAnyH Try.prog .any tfork9_ops (NoPanic Q) S n L c W := by
  subst hL hn
  have HC := shutMk hc
  clear hc
  refine wpAnyH_ready (rs := [21]) (by kernel_rfl) (by simp) ?_
  refine AllReadyH.cons (o := tfork9_o21) rfl (fun K hK => ?_) (AllReadyH.nil)
  · obtain ⟨v21, y, E, st⟩ := K21 _ _ _ _ _ _ st
    have X := exec_append (P := Try.prog) (a := c) (o := tfork9_o21) rfl t47 t51 E
    rw [if_pos (by rfl), Oper.wp, X]
    show K _ _
    clear X
    refine hK.out _ _ (SS _ _ _ _ _ _ _ st) (fun hHeld => ?_)
    clear hK K
    change wpAnyH _ _ _ _ _ _ _ (c.put (some 52) v21) _
    obtain ⟨c2, e⟩ : ∃ act, act = c.put (some 52) v21 := ⟨_, rfl⟩
    rw [← e]
    exact tf9_4_9_10_15_16_21 SS K4 K9 K10 K16 K15 K21 KB h _ _ (by kernel_rfl) (by kernel_rfl) v4 v9 v10 v15 v16 v21 c2 _ (by rw [e, HC.out]) (pz e z) (pk e t35) (pk e t40) (pk e t46) (pq e z) st
theorem tf9_4_9_10_15 (L : Array Bool) (n : Nat) (hL : L = #[true, true, true, true, true, true, true, true, true, true, true, true, true, true, true, true, false, true, true, true, true, false, false, false, false]) (hn : n = 5) (v4 v9 v10 v15 : Value) (c : Act) (W : World) (hc : c = ((((p).put (some 35) v4).put (some 40) v9).put (some 41) v10).put (some 46) v15) (z : c.tmps.size = 143) (t51 : c.tmps.getD 51 undef = sv0) (t35 : c.tmps.getD 35 undef = v4) (t40 : c.tmps.getD 40 undef = v9) (t46 : c.tmps.getD 46 undef = v15) (st : St W (some v4) (some v9) (some v10) (some v15) none none) :
    wpAnyH Try.prog .any tfork9_ops (NoPanic Q) S n L c W := by
  subst hL hn
  have HC := shutMk hc
  clear hc
  refine wpAnyH_ready (rs := [16]) (by kernel_rfl) (by simp) ?_
  refine AllReadyH.cons (o := tfork9_o16) rfl (fun K hK => ?_) (AllReadyH.nil)
  · obtain ⟨v16, y, E, st⟩ := K16 _ _ _ _ _ st
    have X := exec_buildSlice0 (P := Try.prog) (a := c) (o := tfork9_o16) rfl E
    rw [if_pos (by rfl), Oper.wp, X]
    show K _ _
    clear X
    refine hK.out _ _ (SS _ _ _ _ _ _ _ st) (fun hHeld => ?_)
    clear hK K
    change wpAnyH _ _ _ _ _ _ _ (c.put (some 47) v16) _
    obtain ⟨c2, e⟩ : ∃ act, act = c.put (some 47) v16 := ⟨_, rfl⟩
    rw [← e]
    exact tf9_4_9_10_15_16 SS K4 K9 K10 K16 K15 K21 KB h _ _ (by kernel_rfl) (by kernel_rfl) v4 v9 v10 v15 v16 c2 _ (by rw [e, HC.out]) (pz e z) (pq e z) (pk e t51) (pk e t35) (pk e t40) (pk e t46) st
theorem tf9_4_9_10_16 (L : Array Bool) (n : Nat) (hL : L = #[true, true, true, true, true, true, true, true, true, true, true, true, true, true, true, false, true, true, true, true, true, false, false, false, false]) (hn : n = 5) (v4 v9 v10 v16 : Value) (c : Act) (W : World) (hc : c = ((((p).put (some 35) v4).put (some 40) v9).put (some 41) v10).put (some 47) v16) (z : c.tmps.size = 143) (t41 : c.tmps.getD 41 undef = v10) (t45 : c.tmps.getD 45 undef = bv0) (t47 : c.tmps.getD 47 undef = v16) (t51 : c.tmps.getD 51 undef = sv0) (t35 : c.tmps.getD 35 undef = v4) (t40 : c.tmps.getD 40 undef = v9) (st : St W (some v4) (some v9) (some v10) none (some v16) none) :
    wpAnyH Try.prog .any tfork9_ops (NoPanic Q) S n L c W := by
  subst hL hn
  have HC := shutMk hc
  clear hc
  refine wpAnyH_ready (rs := [15]) (by kernel_rfl) (by simp) ?_
  refine AllReadyH.cons (o := tfork9_o15) rfl (fun K hK => ?_) (AllReadyH.nil)
  · obtain ⟨v15, y, E, st⟩ := K15 _ _ _ _ _ st
    have X := exec_append (P := Try.prog) (a := c) (o := tfork9_o15) rfl t41 t45 E
    rw [if_pos (by rfl), Oper.wp, X]
    show K _ _
    clear X
    refine hK.out _ _ (SS _ _ _ _ _ _ _ st) (fun hHeld => ?_)
    clear hK K
    change wpAnyH _ _ _ _ _ _ _ (c.put (some 46) v15) _
    obtain ⟨c2, e⟩ : ∃ act, act = c.put (some 46) v15 := ⟨_, rfl⟩
    rw [← e]
    exact tf9_4_9_10_15_16 SS K4 K9 K10 K16 K15 K21 KB h _ _ (by kernel_rfl) (by kernel_rfl) v4 v9 v10 v15 v16 c2 _ (by rw [e, HC.out]; simp (disch := decide) only [put_sort]) (pz e z) (pk e t47) (pk e t51) (pk e t35) (pk e t40) (pq e z) st
theorem tf9_4_9_10 (L : Array Bool) (n : Nat) (hL : L = #[true, true, true, true, true, true, true, true, true, true, true, true, true, true, true, false, false, true, true, true, true, false, false, false, false]) (hn : n = 6) (v4 v9 v10 : Value) (c : Act) (W : World) (hc : c = (((p).put (some 35) v4).put (some 40) v9).put (some 41) v10) (z : c.tmps.size = 143) (t41 : c.tmps.getD 41 undef = v10) (t45 : c.tmps.getD 45 undef = bv0) (t51 : c.tmps.getD 51 undef = sv0) (t35 : c.tmps.getD 35 undef = v4) (t40 : c.tmps.getD 40 undef = v9) (st : St W (some v4) (some v9) (some v10) none none none) :
    wpAnyH Try.prog .any tfork9_ops (NoPanic Q) S n L c W := by
  subst hL hn
  have HC := shutMk hc
  clear hc
  refine wpAnyH_ready (rs := [15, 16]) (by kernel_rfl) (by simp) ?_
  refine AllReadyH.cons (o := tfork9_o15) rfl (fun K hK => ?_) (AllReadyH.cons (o := tfork9_o16) rfl (fun K hK => ?_) (AllReadyH.nil))
  · obtain ⟨v15, y, E, st⟩ := K15 _ _ _ _ _ st
    have X := exec_append (P := Try.prog) (a := c) (o := tfork9_o15) rfl t41 t45 E
    rw [if_pos (by rfl), Oper.wp, X]
    show K _ _
    clear X
    refine hK.out _ _ (SS _ _ _ _ _ _ _ st) (fun hHeld => ?_)
    clear hK K
    change wpAnyH _ _ _ _ _ _ _ (c.put (some 46) v15) _
    obtain ⟨c2, e⟩ : ∃ act, act = c.put (some 46) v15 := ⟨_, rfl⟩
    rw [← e]
    exact tf9_4_9_10_15 SS K4 K9 K10 K16 K15 K21 KB h _ _ (by kernel_rfl) (by kernel_rfl) v4 v9 v10 v15 c2 _ (by rw [e, HC.out]) (pz e z) (pk e t51) (pk e t35) (pk e t40) (pq e z) st
  · obtain ⟨v16, y, E, st⟩ := K16 _ _ _ _ _ st
    have X := exec_buildSlice0 (P := Try.prog) (a := c) (o := tfork9_o16) rfl E
    rw [if_pos (by rfl), Oper.wp, X]
    show K _ _
    clear X
    refine hK.out _ _ (SS _ _ _ _ _ _ _ st) (fun hHeld => ?_)
    clear hK K
    change wpAnyH _ _ _ _ _ _ _ (c.put (some 47) v16) _
    obtain ⟨c2, e⟩ : ∃ act, act = c.put (some 47) v16 := ⟨_, rfl⟩
    rw [← e]
    exact tf9_4_9_10_16 SS K4 K9 K10 K16 K15 K21 KB h _ _ (by kernel_rfl) (by kernel_rfl) v4 v9 v10 v16 c2 _ (by rw [e, HC.out]) (pz e z) (pk e t41) (pk e t45) (pq e z) (pk e t51) (pk e t35) (pk e t40) st
theorem tf9_4_9_16 (L : Array Bool) (n : Nat) (hL : L = #[true, true, true, true, true, true, true, true, true, true, false, true, true, true, true, false, true, true, true, true, true, false, false, false, false]) (hn : n = 6) (v4 v9 v16 : Value) (c : Act) (W : World) (hc : c = (((p).put (some 35) v4).put (some 40) v9).put (some 47) v16) (z : c.tmps.size = 143) (t45 : c.tmps.getD 45 undef = bv0) (t47 : c.tmps.getD 47 undef = v16) (t51 : c.tmps.getD 51 undef = sv0) (t35 : c.tmps.getD 35 undef = v4) (t40 : c.tmps.getD 40 undef = v9) (st : St W (some v4) (some v9) none none (some v16) none) :
    wpAnyH Try.prog .any tfork9_ops (NoPanic Q) S n L c W := by
  subst hL hn
  have HC := shutMk hc
  clear hc
  refine wpAnyH_ready (rs := [10]) (by kernel_rfl) (by simp) ?_
  refine AllReadyH.cons (o := tfork9_o10) rfl (fun K hK => ?_) (AllReadyH.nil)
  · obtain ⟨v10, y, E, st⟩ := K10 _ _ _ _ st
    have X := exec_buildSlice0 (P := Try.prog) (a := c) (o := tfork9_o10) rfl E
    rw [if_pos (by rfl), Oper.wp, X]
    show K _ _
    clear X
    refine hK.out _ _ (SS _ _ _ _ _ _ _ st) (fun hHeld => ?_)
    clear hK K
    change wpAnyH _ _ _ _ _ _ _ (c.put (some 41) v10) _
    obtain ⟨c2, e⟩ : ∃ act, act = c.put (some 41) v10 := ⟨_, rfl⟩
    rw [← e]
    exact tf9_4_9_10_16 SS K4 K9 K10 K16 K15 K21 KB h _ _ (by kernel_rfl) (by kernel_rfl) v4 v9 v10 v16 c2 _ (by rw [e, HC.out]; simp (disch := decide) only [put_sort]) (pz e z) (pq e z) (pk e t45) (pk e t47) (pk e t51) (pk e t35) (pk e t40) st
theorem tf9_4_9 (L : Array Bool) (n : Nat) (hL : L = #[true, true, true, true, true, true, true, true, true, true, false, true, true, true, true, false, false, true, true, true, true, false, false, false, false]) (hn : n = 7) (v4 v9 : Value) (c : Act) (W : World) (hc : c = ((p).put (some 35) v4).put (some 40) v9) (z : c.tmps.size = 143) (t45 : c.tmps.getD 45 undef = bv0) (t51 : c.tmps.getD 51 undef = sv0) (t35 : c.tmps.getD 35 undef = v4) (t40 : c.tmps.getD 40 undef = v9) (st : St W (some v4) (some v9) none none none none) :
    wpAnyH Try.prog .any tfork9_ops (NoPanic Q) S n L c W := by
  subst hL hn
  have HC := shutMk hc
  clear hc
  refine wpAnyH_ready (rs := [10, 16]) (by kernel_rfl) (by simp) ?_
  refine AllReadyH.cons (o := tfork9_o10) rfl (fun K hK => ?_) (AllReadyH.cons (o := tfork9_o16) rfl (fun K hK => ?_) (AllReadyH.nil))
  · obtain ⟨v10, y, E, st⟩ := K10 _ _ _ _ st
    have X := exec_buildSlice0 (P := Try.prog) (a := c) (o := tfork9_o10) rfl E
    rw [if_pos (by rfl), Oper.wp, X]
    show K _ _
    clear X
    refine hK.out _ _ (SS _ _ _ _ _ _ _ st) (fun hHeld => ?_)
    clear hK K
    change wpAnyH _ _ _ _ _ _ _ (c.put (some 41) v10) _
    obtain ⟨c2, e⟩ : ∃ act, act = c.put (some 41) v10 := ⟨_, rfl⟩
    rw [← e]
    exact tf9_4_9_10 SS K4 K9 K10 K16 K15 K21 KB h _ _ (by kernel_rfl) (by kernel_rfl) v4 v9 v10 c2 _ (by rw [e, HC.out]) (pz e z) (pq e z) (pk e t45) (pk e t51) (pk e t35) (pk e t40) st
  · obtain ⟨v16, y, E, st⟩ := K16 _ _ _ _ _ st
    have X := exec_buildSlice0 (P := Try.prog) (a := c) (o := tfork9_o16) rfl E
    rw [if_pos (by rfl), Oper.wp, X]
    show K _ _
    clear X
    refine hK.out _ _ (SS _ _ _ _ _ _ _ st) (fun hHeld => ?_)
    clear hK K
    change wpAnyH _ _ _ _ _ _ _ (c.put (some 47) v16) _
    obtain ⟨c2, e⟩ : ∃ act, act = c.put (some 47) v16 := ⟨_, rfl⟩
    rw [← e]
    exact tf9_4_9_16 SS K4 K9 K10 K16 K15 K21 KB h _ _ (by kernel_rfl) (by kernel_rfl) v4 v9 v16 c2 _ (by rw [e, HC.out]) (pz e z) (pk e t45) (pq e z) (pk e t51) (pk e t35) (pk e t40) st
theorem tf9_4_10_16 (L : Array Bool) (n : Nat) (hL : L = #[true, true, true, true, true, true, true, true, true, false, true, true, true, true, true, false, true, true, true, true, true, false, false, false, false]) (hn : n = 6) (v4 v10 v16 : Value) (c : Act) (W : World) (hc : c = (((p).put (some 35) v4).put (some 41) v10).put (some 47) v16) (z : c.tmps.size = 143) (t39 : c.tmps.getD 39 undef = dv) (t41 : c.tmps.getD 41 undef = v10) (t45 : c.tmps.getD 45 undef = bv0) (t47 : c.tmps.getD 47 undef = v16) (t51 : c.tmps.getD 51 undef = sv0) (t35 : c.tmps.getD 35 undef = v4) (st : St W (some v4) none (some v10) none (some v16) none) :
    wpAnyH Try.prog .any tfork9_ops (NoPanic Q) S n L c W := by
  subst hL hn
  have HC := shutMk hc
  clear hc
  refine wpAnyH_ready (rs := [9]) (by kernel_rfl) (by simp) ?_
  refine AllReadyH.cons (o := tfork9_o9) rfl (fun K hK => ?_) (AllReadyH.nil)
  · rw [if_pos (by rfl)]
    unfold tfork9_o9 at hK ⊢
    go_simp
    refine (K9 _ _ _ _ st).mono ?_
    rintro e y ⟨v9, rfl, st⟩
    try go_wp2_with fail
    refine hK.out _ _ (SS _ _ _ _ _ _ _ st) (fun hHeld => ?_)
    clear hK K
    change wpAnyH _ _ _ _ _ _ _ (c.put (some 40) v9) _
    obtain ⟨c2, e⟩ : ∃ act, act = c.put (some 40) v9 := ⟨_, rfl⟩
    rw [← e]
    exact tf9_4_9_10_16 SS K4 K9 K10 K16 K15 K21 KB h _ _ (by kernel_rfl) (by kernel_rfl) v4 v9 v10 v16 c2 _ (by rw [e, HC.out]; simp (disch := decide) only [put_sort]) (pz e z) (pk e t41) (pk e t45) (pk e t47) (pk e t51) (pk e t35) (pq e z) st
theorem tf9_4_10 (L : Array Bool) (n : Nat) (hL : L = #[true, true, true, true, true, true, true, true, true, false, true, true, true, true, true, false, false, true, true, true, true, false, false, false, false]) (hn : n = 7) (v4 v10 : Value) (c : Act) (W : World) (hc : c = ((p).put (some 35) v4).put (some 41) v10) (z : c.tmps.size = 143) (t39 : c.tmps.getD 39 undef = dv) (t41 : c.tmps.getD 41 undef = v10) (t45 : c.tmps.getD 45 undef = bv0) (t51 : c.tmps.getD 51 undef = sv0) (t35 : c.tmps.getD 35 undef = v4) (st : St W (some v4) none (some v10) none none none) :
    wpAnyH Try.prog .any tfork9_ops (NoPanic Q) S n L c W := by
  subst hL hn
  have HC := shutMk hc
  clear hc
  refine wpAnyH_ready (rs := [9, 16]) (by kernel_rfl) (by simp) ?_
  refine AllReadyH.cons (o := tfork9_o9) rfl (fun K hK => ?_) (AllReadyH.cons (o := tfork9_o16) rfl (fun K hK => ?_) (AllReadyH.nil))
  · rw [if_pos (by rfl)]
    unfold tfork9_o9 at hK ⊢
    go_simp
    refine (K9 _ _ _ _ st).mono ?_
    rintro e y ⟨v9, rfl, st⟩
    try go_wp2_with fail
    refine hK.out _ _ (SS _ _ _ _ _ _ _ st) (fun hHeld => ?_)
    clear hK K
    change wpAnyH _ _ _ _ _ _ _ (c.put (some 40) v9) _
    obtain ⟨c2, e⟩ : ∃ act, act = c.put (some 40) v9 := ⟨_, rfl⟩
    rw [← e]
    exact tf9_4_9_10 SS K4 K9 K10 K16 K15 K21 KB h _ _ (by kernel_rfl) (by kernel_rfl) v4 v9 v10 c2 _ (by rw [e, HC.out]; simp (disch := decide) only [put_sort]) (pz e z) (pk e t41) (pk e t45) (pk e t51) (pk e t35) (pq e z) st
  · obtain ⟨v16, y, E, st⟩ := K16 _ _ _ _ _ st
    have X := exec_buildSlice0 (P := Try.prog) (a := c) (o := tfork9_o16) rfl E
    rw [if_pos (by rfl), Oper.wp, X]
    show K _ _
    clear X
    refine hK.out _ _ (SS _ _ _ _ _ _ _ st) (fun hHeld => ?_)
    clear hK K
    change wpAnyH _ _ _ _ _ _ _ (c.put (some 47) v16) _
    obtain ⟨c2, e⟩ : ∃ act, act = c.put (some 47) v16 := ⟨_, rfl⟩
    rw [← e]
    exact tf9_4_10_16 SS K4 K9 K10 K16 K15 K21 KB h _ _ (by kernel_rfl) (by kernel_rfl) v4 v10 v16 c2 _ (by rw [e, HC.out]) (pz e z) (pk e t39) (pk e t41) (pk e t45) (pq e z) (pk e t51) (pk e t35) st
theorem tf9_4_16 (L : Array Bool) (n : Nat) (hL : L = #[true, true, true, true, true, true, true, true, true, false, false, true, true, true, true, false, true, true, true, true, true, false, false, false, false]) (hn : n = 7) (v4 v16 : Value) (c : Act) (W : World) (hc : c = ((p).put (some 35) v4).put (some 47) v16) (z : c.tmps.size = 143) (t39 : c.tmps.getD 39 undef = dv) (t45 : c.tmps.getD 45 undef = bv0) (t47 : c.tmps.getD 47 undef = v16) (t51 : c.tmps.getD 51 undef = sv0) (t35 : c.tmps.getD 35 undef = v4) (st : St W (some v4) none none none (some v16) none) :
    wpAnyH Try.prog .any tfork9_ops (NoPanic Q) S n L c W := by
  subst hL hn
  have HC := shutMk hc
  clear hc
  refine wpAnyH_ready (rs := [9, 10]) (by kernel_rfl) (by simp) ?_
  refine AllReadyH.cons (o := tfork9_o9) rfl (fun K hK => ?_) (AllReadyH.cons (o := tfork9_o10) rfl (fun K hK => ?_) (AllReadyH.nil))
  · rw [if_pos (by rfl)]
    unfold tfork9_o9 at hK ⊢
    go_simp
    refine (K9 _ _ _ _ st).mono ?_
    rintro e y ⟨v9, rfl, st⟩
    try go_wp2_with fail
    refine hK.out _ _ (SS _ _ _ _ _ _ _ st) (fun hHeld => ?_)
    clear hK K
    change wpAnyH _ _ _ _ _ _ _ (c.put (some 40) v9) _
    obtain ⟨c2, e⟩ : ∃ act, act = c.put (some 40) v9 := ⟨_, rfl⟩
    rw [← e]
    exact tf9_4_9_16 SS K4 K9 K10 K16 K15 K21 KB h _ _ (by kernel_rfl) (by kernel_rfl) v4 v9 v16 c2 _ (by rw [e, HC.out]; simp (disch := decide) only [put_sort]) (pz e z) (pk e t45) (pk e t47) (pk e t51) (pk e t35) (pq e z) st
  · obtain ⟨v10, y, E, st⟩ := K10 _ _ _ _ st
    have X := exec_buildSlice0 (P := Try.prog) (a := c) (o := tfork9_o10) rfl E
    rw [if_pos (by rfl), Oper.wp, X]
    show K _ _
    clear X
    refine hK.out _ _ (SS _ _ _ _ _ _ _ st) (fun hHeld => ?_)
    clear hK K
    change wpAnyH _ _ _ _ _ _ _ (c.put (some 41) v10) _
    obtain ⟨c2, e⟩ : ∃ act, act = c.put (some 41) v10 := ⟨_, rfl⟩
    rw [← e]
    exact tf9_4_10_16 SS K4 K9 K10 K16 K15 K21 KB h _ _ (by kernel_rfl) (by kernel_rfl) v4 v10 v16 c2 _ (by rw [e, HC.out]; simp (disch := decide) only [put_sort]) (pz e z) (pk e t39) (pq e z) (pk e t45) (pk e t47) (pk e t51) (pk e t35) st
theorem tf9_4 (L : Array Bool) (n : Nat) (hL : L = #[true, true, true, true, true, true, true, true, true, false, false, true, true, true, true, false, false, true, true, true, true, false, false, false, false]) (hn : n = 8) (v4 : Value) (c : Act) (W : World) (hc : c = (p).put (some 35) v4) (z : c.tmps.size = 143) (t39 : c.tmps.getD 39 undef = dv) (t45 : c.tmps.getD 45 undef = bv0) (t51 : c.tmps.getD 51 undef = sv0) (t35 : c.tmps.getD 35 undef = v4) (st : St W (some v4) none none none none none) :
    wpAnyH Try.prog .any tfork9_ops (NoPanic Q) S n L c W := by
  subst hL hn
  have HC := shutMk hc
  clear hc
  refine wpAnyH_ready (rs := [9, 10, 16]) (by kernel_rfl) (by simp) ?_
  refine AllReadyH.cons (o := tfork9_o9) rfl (fun K hK => ?_) (AllReadyH.cons (o := tfork9_o10) rfl (fun K hK => ?_) (AllReadyH.cons (o := tfork9_o16) rfl (fun K hK => ?_) (AllReadyH.nil)))
  · rw [if_pos (by rfl)]
    unfold tfork9_o9 at hK ⊢
    go_simp
    refine (K9 _ _ _ _ st).mono ?_
    rintro e y ⟨v9, rfl, st⟩
    try go_wp2_with fail
    refine hK.out _ _ (SS _ _ _ _ _ _ _ st) (fun hHeld => ?_)
    clear hK K
    change wpAnyH _ _ _ _ _ _ _ (c.put (some 40) v9) _
    obtain ⟨c2, e⟩ : ∃ act, act = c.put (some 40) v9 := ⟨_, rfl⟩
    rw [← e]
    exact tf9_4_9 SS K4 K9 K10 K16 K15 K21 KB h _ _ (by kernel_rfl) (by kernel_rfl) v4 v9 c2 _ (by rw [e, HC.out]) (pz e z) (pk e t45) (pk e t51) (pk e t35) (pq e z) st
  · obtain ⟨v10, y, E, st⟩ := K10 _ _ _ _ st
    have X := exec_buildSlice0 (P := Try.prog) (a := c) (o := tfork9_o10) rfl E
    rw [if_pos (by rfl), Oper.wp, X]
    show K _ _
    clear X
    refine hK.out _ _ (SS _ _ _ _ _ _ _ st) (fun hHeld => ?_)
    clear hK K
    change wpAnyH _ _ _ _ _ _ _ (c.put (some 41) v10) _
    obtain ⟨c2, e⟩ : ∃ act, act = c.put (some 41) v10 := ⟨_, rfl⟩
    rw [← e]
    exact tf9_4_10 SS K4 K9 K10 K16 K15 K21 KB h _ _ (by kernel_rfl) (by kernel_rfl) v4 v10 c2 _ (by rw [e, HC.out]) (pz e z) (pk e t39) (pq e z) (pk e t45) (pk e t51) (pk e t35) st
  · obtain ⟨v16, y, E, st⟩ := K16 _ _ _ _ _ st
    have X := exec_buildSlice0 (P := Try.prog) (a := c) (o := tfork9_o16) rfl E
    rw [if_pos (by rfl), Oper.wp, X]
    show K _ _
    clear X
    refine hK.out _ _ (SS _ _ _ _ _ _ _ st) (fun hHeld => ?_)
    clear hK K
    change wpAnyH _ _ _ _ _ _ _ (c.put (some 47) v16) _
    obtain ⟨c2, e⟩ : ∃ act, act = c.put (some 47) v16 := ⟨_, rfl⟩
    rw [← e]
    exact tf9_4_16 SS K4 K9 K10 K16 K15 K21 KB h _ _ (by kernel_rfl) (by kernel_rfl) v4 v16 c2 _ (by rw [e, HC.out]) (pz e z) (pk e t39) (pk e t45) (pq e z) (pk e t51) (pk e t35) st
theorem tf9_10_16 (L : Array Bool) (n : Nat) (hL : L = #[true, true, true, true, false, true, true, true, true, false, true, true, true, true, true, false, true, true, true, true, true, false, false, false, false]) (hn : n = 7) (v10 v16 : Value) (c : Act) (W : World) (hc : c = ((p).put (some 41) v10).put (some 47) v16) (z : c.tmps.size = 143) (t34 : c.tmps.getD 34 undef = tv) (t39 : c.tmps.getD 39 undef = dv) (t41 : c.tmps.getD 41 undef = v10) (t45 : c.tmps.getD 45 undef = bv0) (t47 : c.tmps.getD 47 undef = v16) (t51 : c.tmps.getD 51 undef = sv0) (st : St W none none (some v10) none (some v16) none) :
    wpAnyH Try.prog .any tfork9_ops (NoPanic Q) S n L c W := by
  subst hL hn
  have HC := shutMk hc
  clear hc
  refine wpAnyH_ready (rs := [4]) (by kernel_rfl) (by simp) ?_
  refine AllReadyH.cons (o := tfork9_o4) rfl (fun K hK => ?_) (AllReadyH.nil)
  · rw [if_pos (by rfl)]
    unfold tfork9_o4 at hK ⊢
    go_simp
    refine (K4 _ _ _ st).mono ?_
    rintro e y ⟨v4, rfl, st⟩
    try go_wp2_with fail
    refine hK.out _ _ (SS _ _ _ _ _ _ _ st) (fun hHeld => ?_)
    clear hK K
    change wpAnyH _ _ _ _ _ _ _ (c.put (some 35) v4) _
    obtain ⟨c2, e⟩ : ∃ act, act = c.put (some 35) v4 := ⟨_, rfl⟩
    rw [← e]
    exact tf9_4_10_16 SS K4 K9 K10 K16 K15 K21 KB h _ _ (by kernel_rfl) (by kernel_rfl) v4 v10 v16 c2 _ (by rw [e, HC.out]; simp (disch := decide) only [put_sort]) (pz e z) (pk e t39) (pk e t41) (pk e t45) (pk e t47) (pk e t51) (pq e z) st
theorem tf9_10 (L : Array Bool) (n : Nat) (hL : L = #[true, true, true, true, false, true, true, true, true, false, true, true, true, true, true, false, false, true, true, true, true, false, false, false, false]) (hn : n = 8) (v10 : Value) (c : Act) (W : World) (hc : c = (p).put (some 41) v10) (z : c.tmps.size = 143) (t34 : c.tmps.getD 34 undef = tv) (t39 : c.tmps.getD 39 undef = dv) (t41 : c.tmps.getD 41 undef = v10) (t45 : c.tmps.getD 45 undef = bv0) (t51 : c.tmps.getD 51 undef = sv0) (st : St W none none (some v10) none none none) :
    wpAnyH Try.prog .any tfork9_ops (NoPanic Q) S n L c W := by
  subst hL hn
  have HC := shutMk hc
  clear hc
  refine wpAnyH_ready (rs := [4, 16]) (by kernel_rfl) (by simp) ?_
  refine AllReadyH.cons (o := tfork9_o4) rfl (fun K hK => ?_) (AllReadyH.cons (o := tfork9_o16) rfl (fun K hK => ?_) (AllReadyH.nil))
  · rw [if_pos (by rfl)]
    unfold tfork9_o4 at hK ⊢
    go_simp
    refine (K4 _ _ _ st).mono ?_
    rintro e y ⟨v4, rfl, st⟩
    try go_wp2_with fail
    refine hK.out _ _ (SS _ _ _ _ _ _ _ st) (fun hHeld => ?_)
    clear hK K
    change wpAnyH _ _ _ _ _ _ _ (c.put (some 35) v4) _
    obtain ⟨c2, e⟩ : ∃ act, act = c.put (some 35) v4 := ⟨_, rfl⟩
    rw [← e]
    exact tf9_4_10 SS K4 K9 K10 K16 K15 K21 KB h _ _ (by kernel_rfl) (by kernel_rfl) v4 v10 c2 _ (by rw [e, HC.out]; simp (disch := decide) only [put_sort]) (pz e z) (pk e t39) (pk e t41) (pk e t45) (pk e t51) (pq e z) st
  · obtain ⟨v16, y, E, st⟩ := K16 _ _ _ _ _ st
    have X := exec_buildSlice0 (P := Try.prog) (a := c) (o := tfork9_o16) rfl E
    rw [if_pos (by rfl), Oper.wp, X]
    show K _ _
    clear X
    refine hK.out _ _ (SS _ _ _ _ _ _ _ st) (fun hHeld => ?_)
    clear hK K
    change wpAnyH _ _ _ _ _ _ _ (c.put (some 47) v16) _
    obtain ⟨c2, e⟩ : ∃ act, act = c.put (some 47) v16 := ⟨_, rfl⟩
    rw [← e]
    exact tf9_10_16 SS K4 K9 K10 K16 K15 K21 KB h _ _ (by kernel_rfl) (by kernel_rfl) v10 v16 c2 _ (by rw [e, HC.out]) (pz e z) (pk e t34) (pk e t39) (pk e t41) (pk e t45) (pq e z) (pk e t51) st
theorem tf9_16 (L : Array Bool) (n : Nat) (hL : L = #[true, true, true, true, false, true, true, true, true, false, false, true, true, true, true, false, true, true, true, true, true, false, false, false, false]) (hn : n = 8) (v16 : Value) (c : Act) (W : World) (hc : c = (p).put (some 47) v16) (z : c.tmps.size = 143) (t34 : c.tmps.getD 34 undef = tv) (t39 : c.tmps.getD 39 undef = dv) (t45 : c.tmps.getD 45 undef = bv0) (t47 : c.tmps.getD 47 undef = v16) (t51 : c.tmps.getD 51 undef = sv0) (st : St W none none none none (some v16) none) :
    wpAnyH Try.prog .any tfork9_ops (NoPanic Q) S n L c W := by
  subst hL hn
  have HC := shutMk hc
  clear hc
  refine wpAnyH_ready (rs := [4, 10]) (by kernel_rfl) (by simp) ?_
  refine AllReadyH.cons (o := tfork9_o4) rfl (fun K hK => ?_) (AllReadyH.cons (o := tfork9_o10) rfl (fun K hK => ?_) (AllReadyH.nil))
  · rw [if_pos (by rfl)]
    unfold tfork9_o4 at hK ⊢
    go_simp
    refine (K4 _ _ _ st).mono ?_
    rintro e y ⟨v4, rfl, st⟩
    try go_wp2_with fail
    refine hK.out _ _ (SS _ _ _ _ _ _ _ st) (fun hHeld => ?_)
    clear hK K
    change wpAnyH _ _ _ _ _ _ _ (c.put (some 35) v4) _
    obtain ⟨c2, e⟩ : ∃ act, act = c.put (some 35) v4 := ⟨_, rfl⟩
    rw [← e]
    exact tf9_4_16 SS K4 K9 K10 K16 K15 K21 KB h _ _ (by kernel_rfl) (by kernel_rfl) v4 v16 c2 _ (by rw [e, HC.out]; simp (disch := decide) only [put_sort]) (pz e z) (pk e t39) (pk e t45) (pk e t47) (pk e t51) (pq e z) st
  · obtain ⟨v10, y, E, st⟩ := K10 _ _ _ _ st
    have X := exec_buildSlice0 (P := Try.prog) (a := c) (o := tfork9_o10) rfl E
    rw [if_pos (by rfl), Oper.wp, X]
    show K _ _
    clear X
    refine hK.out _ _ (SS _ _ _ _ _ _ _ st) (fun hHeld => ?_)
    clear hK K
    change wpAnyH _ _ _ _ _ _ _ (c.put (some 41) v10) _
    obtain ⟨c2, e⟩ : ∃ act, act = c.put (some 41) v10 := ⟨_, rfl⟩
    rw [← e]
    exact tf9_10_16 SS K4 K9 K10 K16 K15 K21 KB h _ _ (by kernel_rfl) (by kernel_rfl) v10 v16 c2 _ (by rw [e, HC.out]; simp (disch := decide) only [put_sort]) (pz e z) (pk e t34) (pk e t39) (pq e z) (pk e t45) (pk e t47) (pk e t51) st
theorem tf9_0 (L : Array Bool) (n : Nat) (hL : L = #[true, true, true, true, false, true, true, true, true, false, false, true, true, true, true, false, false, true, true, true, true, false, false, false, false]) (hn : n = 9) (c : Act) (W : World) (hc : c = p) (z : c.tmps.size = 143) (t34 : c.tmps.getD 34 undef = tv) (t39 : c.tmps.getD 39 undef = dv) (t45 : c.tmps.getD 45 undef = bv0) (t51 : c.tmps.getD 51 undef = sv0) (st : St W none none none none none none) :
    wpAnyH Try.prog .any tfork9_ops (NoPanic Q) S n L c W := by
  subst hL hn
  have HC := shutMk hc
  clear hc
  refine wpAnyH_ready (rs := [4, 10, 16]) (by kernel_rfl) (by simp) ?_
  refine AllReadyH.cons (o := tfork9_o4) rfl (fun K hK => ?_) (AllReadyH.cons (o := tfork9_o10) rfl (fun K hK => ?_) (AllReadyH.cons (o := tfork9_o16) rfl (fun K hK => ?_) (AllReadyH.nil)))
  · rw [if_pos (by rfl)]
    unfold tfork9_o4 at hK ⊢
    go_simp
    refine (K4 _ _ _ st).mono ?_
    rintro e y ⟨v4, rfl, st⟩
    try go_wp2_with fail
    refine hK.out _ _ (SS _ _ _ _ _ _ _ st) (fun hHeld => ?_)
    clear hK K
    change wpAnyH _ _ _ _ _ _ _ (c.put (some 35) v4) _
    obtain ⟨c2, e⟩ : ∃ act, act = c.put (some 35) v4 := ⟨_, rfl⟩
    rw [← e]
    exact tf9_4 SS K4 K9 K10 K16 K15 K21 KB h _ _ (by kernel_rfl) (by kernel_rfl) v4 c2 _ (by rw [e, HC.out]) (pz e z) (pk e t39) (pk e t45) (pk e t51) (pq e z) st
  · obtain ⟨v10, y, E, st⟩ := K10 _ _ _ _ st
    have X := exec_buildSlice0 (P := Try.prog) (a := c) (o := tfork9_o10) rfl E
    rw [if_pos (by rfl), Oper.wp, X]
    show K _ _
    clear X
    refine hK.out _ _ (SS _ _ _ _ _ _ _ st) (fun hHeld => ?_)
    clear hK K
    change wpAnyH _ _ _ _ _ _ _ (c.put (some 41) v10) _
    obtain ⟨c2, e⟩ : ∃ act, act = c.put (some 41) v10 := ⟨_, rfl⟩
    rw [← e]
    exact tf9_10 SS K4 K9 K10 K16 K15 K21 KB h _ _ (by kernel_rfl) (by kernel_rfl) v10 c2 _ (by rw [e, HC.out]) (pz e z) (pk e t34) (pk e t39) (pq e z) (pk e t45) (pk e t51) st
  · obtain ⟨v16, y, E, st⟩ := K16 _ _ _ _ _ st
    have X := exec_buildSlice0 (P := Try.prog) (a := c) (o := tfork9_o16) rfl E
    rw [if_pos (by rfl), Oper.wp, X]
    show K _ _
    clear X
    refine hK.out _ _ (SS _ _ _ _ _ _ _ st) (fun hHeld => ?_)
    clear hK K
    change wpAnyH _ _ _ _ _ _ _ (c.put (some 47) v16) _
    obtain ⟨c2, e⟩ : ∃ act, act = c.put (some 47) v16 := ⟨_, rfl⟩
    rw [← e]
    exact tf9_16 SS K4 K9 K10 K16 K15 K21 KB h _ _ (by kernel_rfl) (by kernel_rfl) v16 c2 _ (by rw [e, HC.out]) (pz e z) (pk e t34) (pk e t39) (pk e t45) (pq e z) (pk e t51) st
end
theorem tfork9c (S : World → Prop) (St : World → Option Value → Option Value → Option Value → Option Value → Option Value → Option Value → Prop) (Fin : Value → Value → Value → Value → Value → World → Prop) (x : Nat) (tv dv bv0 sv0 : Value) (a : Act) (w : World) (Q : Exit → Act → World → Prop) (hsz : a.tmps.size = 143)
    (t7 : a.tmps.getD 7 undef = .pointer (some ⟨x, 0, none⟩))
    (SS : ∀ W o4 o9 o10 o15 o16 o21, St W o4 o9 o10 o15 o16 o21 → S W) (st : St w.drew none none none none none none)
    (K4 : ∀ W o10 o16, St W none none o10 none o16 none → Calls Try.prog 15 #[tv] W fun e w' => ∃ v, e = .returned v ∧ St w' (some v) none o10 none o16 none)
    (K9 : ∀ W v4 o10 o16, St W (some v4) none o10 none o16 none → Calls Try.prog 16 #[dv] W fun e w' => ∃ v, e = .returned v ∧ St w' (some v4) (some v) o10 none o16 none)
    (K10 : ∀ W o4 o9 o16, St W o4 o9 none none o16 none → ∃ v w2, (Instr.buildSlice 29 0 #[]).run Try.prog W = .ok v w2 ∧ St w2 o4 o9 (some v) none o16 none)
    (K16 : ∀ W o4 o9 o10 o15, St W o4 o9 o10 o15 none none → ∃ v w2, (Instr.buildSlice 30 0 #[]).run Try.prog W = .ok v w2 ∧ St w2 o4 o9 o10 o15 (some v) none)
    (K15 : ∀ W v4 v9 v10 o16, St W (some v4) (some v9) (some v10) none o16 none → ∃ v w2, (Builtin.append_ #[29, 29] 29 #[v10, bv0]).run Try.prog W = .ok v w2 ∧ St w2 (some v4) (some v9) (some v10) (some v) o16 none)
    (K21 : ∀ W v4 v9 v10 v15 v16, St W (some v4) (some v9) (some v10) (some v15) (some v16) none → ∃ v w2, (Builtin.append_ #[30, 30] 30 #[v16, sv0]).run Try.prog W = .ok v w2 ∧ St w2 (some v4) (some v9) (some v10) (some v15) (some v16) (some v))
    (KB : ∀ W v4 v9 v10 v15 v16 v21, St W (some v4) (some v9) (some v10) (some v15) (some v16) (some v21) → ∃ bv pv w2, (∀ W', (Instr.build 32 #[(0, v4), (1, v9), (2, v15), (3, v21)]).run Try.prog W' = .ok bv W') ∧ (Instr.box 32 bv).run Try.prog W = .ok pv w2 ∧ S w2 ∧ Fin v4 v9 v15 v21 pv w2)
    (G0 : ∀ W, S W → (Instr.loadAt 25 (.pointer (some ⟨x, 0 + 0, none⟩))).run Try.prog W = .ok tv W)
    (G1 : ∀ W, S W → (Instr.loadAt 27 (.pointer (some ⟨x, 0 + 1, none⟩))).run Try.prog W = .ok dv W)
    (G2 : ∀ W, S W → (Instr.loadAt 29 (.pointer (some ⟨x, 0 + 2, none⟩))).run Try.prog W = .ok bv0 W)
    (G3 : ∀ W, S W → (Instr.loadAt 30 (.pointer (some ⟨x, 0 + 3, none⟩))).run Try.prog W = .ok sv0 W)
    (h : ∀ (v4 v9 v10 v15 v16 v21 bv pv : Value) (a' : Act) (w' : World), Fin v4 v9 v15 v21 pv w' → a' = (((((((((((((((((((((((((a).put (some 31) (.pointer (some ⟨x, 0, none⟩))).put (some 32) (.pointer (some ⟨x, 0, none⟩))).put (some 33) (.pointer (some ⟨x, 0 + 0, none⟩))).put (some 34) (tv)).put (some 36) (.pointer (some ⟨x, 0, none⟩))).put (some 37) (.pointer (some ⟨x, 0, none⟩))).put (some 38) (.pointer (some ⟨x, 0 + 1, none⟩))).put (some 39) (dv)).put (some 42) (.pointer (some ⟨x, 0, none⟩))).put (some 43) (.pointer (some ⟨x, 0, none⟩))).put (some 44) (.pointer (some ⟨x, 0 + 2, none⟩))).put (some 45) (bv0)).put (some 48) (.pointer (some ⟨x, 0, none⟩))).put (some 49) (.pointer (some ⟨x, 0, none⟩))).put (some 50) (.pointer (some ⟨x, 0 + 3, none⟩))).put (some 51) (sv0)).put (some 35) v4).put (some 40) v9).put (some 41) v10).put (some 46) v15).put (some 47) v16).put (some 52) v21).put (some 53) bv).put (some 54) pv).put (some 9) pv → Q .normal a' w') :
    (Code.region 9 tfork9_ops true).wp Try.prog Q a w := by
  refine wp_region_noPanic ?_
  refine wp_region_held_drew (S := S) (by kernel_rfl) (SS _ _ _ _ _ _ _ st) (fun hHeld => ?_)
  refine tk 0 tfork9_o0 (.pointer (some ⟨x, 0, none⟩)) (by rfl) (fun w1 hw => exec_move rfl t7) hHeld (fun a0 e0 => ?_)
  rw [← e0] at h
  have z0 := pz e0 hsz
  replace t7 := pk e0 t7
  have t31 := pq e0 hsz
  clear e0 hsz
  refine tk 1 tfork9_o1 (.pointer (some ⟨x, 0, none⟩)) (by rfl) (fun w1 hw => exec_nilCheck rfl t31) hHeld (fun a1 e1 => ?_)
  rw [← e1] at h
  have z1 := pz e1 z0
  replace t7 := pk e1 t7
  clear t31
  have t32 := pq e1 z0
  clear e1 z0
  refine tk 2 tfork9_o2 (.pointer (some ⟨x, 0 + 0, none⟩)) (by rfl) (fun w1 hw => exec_fieldAt rfl t32 (fg_32_0 _ _ _)) hHeld (fun a2 e2 => ?_)
  rw [← e2] at h
  have z2 := pz e2 z1
  replace t7 := pk e2 t7
  clear t32
  have t33 := pq e2 z1
  clear e2 z1
  refine tk 3 tfork9_o3 (tv) (by rfl) (fun w1 hw => exec_load rfl t33 (G0 _ hw)) hHeld (fun a3 e3 => ?_)
  rw [← e3] at h
  have z3 := pz e3 z2
  replace t7 := pk e3 t7
  clear t33
  have t34 := pq e3 z2
  clear e3 z2
  refine tk 5 tfork9_o5 (.pointer (some ⟨x, 0, none⟩)) (by rfl) (fun w1 hw => exec_move rfl t7) hHeld (fun a4 e4 => ?_)
  rw [← e4] at h
  have z4 := pz e4 z3
  replace t7 := pk e4 t7
  replace t34 := pk e4 t34
  have t36 := pq e4 z3
  clear e4 z3
  refine tk 6 tfork9_o6 (.pointer (some ⟨x, 0, none⟩)) (by rfl) (fun w1 hw => exec_nilCheck rfl t36) hHeld (fun a5 e5 => ?_)
  rw [← e5] at h
  have z5 := pz e5 z4
  replace t7 := pk e5 t7
  replace t34 := pk e5 t34
  clear t36
  have t37 := pq e5 z4
  clear e5 z4
  refine tk 7 tfork9_o7 (.pointer (some ⟨x, 0 + 1, none⟩)) (by rfl) (fun w1 hw => exec_fieldAt rfl t37 (fg_32_1 _ _ _)) hHeld (fun a6 e6 => ?_)
  rw [← e6] at h
  have z6 := pz e6 z5
  replace t7 := pk e6 t7
  replace t34 := pk e6 t34
  clear t37
  have t38 := pq e6 z5
  clear e6 z5
  refine tk 8 tfork9_o8 (dv) (by rfl) (fun w1 hw => exec_load rfl t38 (G1 _ hw)) hHeld (fun a7 e7 => ?_)
  rw [← e7] at h
  have z7 := pz e7 z6
  replace t7 := pk e7 t7
  replace t34 := pk e7 t34
  clear t38
  have t39 := pq e7 z6
  clear e7 z6
  refine tk 11 tfork9_o11 (.pointer (some ⟨x, 0, none⟩)) (by rfl) (fun w1 hw => exec_move rfl t7) hHeld (fun a8 e8 => ?_)
  rw [← e8] at h
  have z8 := pz e8 z7
  replace t7 := pk e8 t7
  replace t34 := pk e8 t34
  replace t39 := pk e8 t39
  have t42 := pq e8 z7
  clear e8 z7
  refine tk 12 tfork9_o12 (.pointer (some ⟨x, 0, none⟩)) (by rfl) (fun w1 hw => exec_nilCheck rfl t42) hHeld (fun a9 e9 => ?_)
  rw [← e9] at h
  have z9 := pz e9 z8
  replace t7 := pk e9 t7
  replace t34 := pk e9 t34
  replace t39 := pk e9 t39
  clear t42
  have t43 := pq e9 z8
  clear e9 z8
  refine tk 13 tfork9_o13 (.pointer (some ⟨x, 0 + 2, none⟩)) (by rfl) (fun w1 hw => exec_fieldAt rfl t43 (fg_32_2 _ _ _)) hHeld (fun a10 e10 => ?_)
  rw [← e10] at h
  have z10 := pz e10 z9
  replace t7 := pk e10 t7
  replace t34 := pk e10 t34
  replace t39 := pk e10 t39
  clear t43
  have t44 := pq e10 z9
  clear e10 z9
  refine tk 14 tfork9_o14 (bv0) (by rfl) (fun w1 hw => exec_load rfl t44 (G2 _ hw)) hHeld (fun a11 e11 => ?_)
  rw [← e11] at h
  have z11 := pz e11 z10
  replace t7 := pk e11 t7
  replace t34 := pk e11 t34
  replace t39 := pk e11 t39
  clear t44
  have t45 := pq e11 z10
  clear e11 z10
  refine tk 17 tfork9_o17 (.pointer (some ⟨x, 0, none⟩)) (by rfl) (fun w1 hw => exec_move rfl t7) hHeld (fun a12 e12 => ?_)
  rw [← e12] at h
  have z12 := pz e12 z11
  clear t7
  replace t34 := pk e12 t34
  replace t39 := pk e12 t39
  replace t45 := pk e12 t45
  have t48 := pq e12 z11
  clear e12 z11
  refine tk 18 tfork9_o18 (.pointer (some ⟨x, 0, none⟩)) (by rfl) (fun w1 hw => exec_nilCheck rfl t48) hHeld (fun a13 e13 => ?_)
  rw [← e13] at h
  have z13 := pz e13 z12
  replace t34 := pk e13 t34
  replace t39 := pk e13 t39
  replace t45 := pk e13 t45
  clear t48
  have t49 := pq e13 z12
  clear e13 z12
  refine tk 19 tfork9_o19 (.pointer (some ⟨x, 0 + 3, none⟩)) (by rfl) (fun w1 hw => exec_fieldAt rfl t49 (fg_32_3 _ _ _)) hHeld (fun a14 e14 => ?_)
  rw [← e14] at h
  have z14 := pz e14 z13
  replace t34 := pk e14 t34
  replace t39 := pk e14 t39
  replace t45 := pk e14 t45
  clear t49
  have t50 := pq e14 z13
  clear e14 z13
  refine tk 20 tfork9_o20 (sv0) (by rfl) (fun w1 hw => exec_load rfl t50 (G3 _ hw)) hHeld (fun a15 e15 => ?_)
  rw [← e15] at h
  have z15 := pz e15 z14
  replace t34 := pk e15 t34
  replace t39 := pk e15 t39
  replace t45 := pk e15 t45
  clear t50
  have t51 := pq e15 z14
  clear e15 z14
  exact tf9_0 SS K4 K9 K10 K16 K15 K21 KB h _ _ (by kernel_rfl) (by kernel_rfl) a15 _ rfl z15 t34 t39 t45 t51 st
def tfork10_o0 : Oper := ⟨some 55, .move (.tmp 0), 23, "law.go:162", #[], none⟩
def tfork10_o1 : Oper := ⟨some 56, .call { callee := Callee.value (Operand.func 14), args := #[.tmp 55], argTypes := #[23] }, 41, "law.go:162", #[⟨0, .data⟩], none⟩
def tfork10_o2 : Oper := ⟨some 57, .move (.tmp 1), 23, "law.go:162", #[], none⟩
def tfork10_o3 : Oper := ⟨some 58, .call { callee := Callee.value (Operand.func 14), args := #[.tmp 57], argTypes := #[23] }, 41, "law.go:162", #[⟨2, .data⟩, ⟨1, .chain⟩], none⟩
def tfork10_o4 : Oper := ⟨some 59, .call { callee := Callee.builtin Builtin.append, args := #[.tmp 56, .tmp 58], argTypes := #[41, 41] }, 41, "law.go:162", #[⟨1, .data⟩, ⟨3, .data⟩, ⟨3, .chain⟩], none⟩
def tfork10_o5 : Oper := ⟨some 60, .move (.tmp 2), 23, "law.go:162", #[], none⟩
def tfork10_o6 : Oper := ⟨some 61, .call { callee := Callee.value (Operand.func 14), args := #[.tmp 60], argTypes := #[23] }, 41, "law.go:162", #[⟨5, .data⟩, ⟨4, .chain⟩], none⟩
def tfork10_o7 : Oper := ⟨some 62, .call { callee := Callee.builtin Builtin.append, args := #[.tmp 59, .tmp 61], argTypes := #[41, 41] }, 41, "law.go:162", #[⟨4, .data⟩, ⟨6, .data⟩, ⟨6, .chain⟩], none⟩
def tfork10_o8 : Oper := ⟨some 10, .assign (.tmp 62), 41, "law.go:162", #[⟨7, .data⟩, ⟨7, .chain⟩, ⟨0, .phase⟩, ⟨1, .phase⟩, ⟨2, .phase⟩, ⟨3, .phase⟩, ⟨4, .phase⟩, ⟨5, .phase⟩, ⟨6, .phase⟩, ⟨7, .phase⟩], none⟩
def tfork10_ops : Array Oper := #[tfork10_o0, tfork10_o1, tfork10_o2, tfork10_o3, tfork10_o4, tfork10_o5, tfork10_o6, tfork10_o7, tfork10_o8]
theorem tfork10 (lv av bw : Value) (Fin : Value → World → Prop) (a : Act) (w : World) (Q : Exit → Act → World → Prop) (hsz : a.tmps.size = 143)
    (t0 : a.tmps.getD 0 undef = lv)
    (t1 : a.tmps.getD 1 undef = av)
    (t2 : a.tmps.getD 2 undef = bw)
    (C1 : Calls Try.prog 14 #[lv] w fun e w' => ∃ v1, e = .returned v1 ∧ Calls Try.prog 14 #[av] w' fun e w' => ∃ v2 v3 w3, e = .returned v2 ∧ (Builtin.append_ #[41, 41] 41 #[v1, v2]).run Try.prog w' = .ok v3 w3 ∧ Calls Try.prog 14 #[bw] w3 fun e w' => ∃ v4 v5 w5, e = .returned v4 ∧ (Builtin.append_ #[41, 41] 41 #[v3, v4]).run Try.prog w' = .ok v5 w5 ∧ Fin v5 w5)
    (h : ∀ (v1 v2 v3 v4 v5 : Value) (a' : Act) (w' : World), Fin v5 w' → a' = (((((((((a).put (some 55) (lv)).put (some 56) (v1)).put (some 57) (av)).put (some 58) (v2)).put (some 59) (v3)).put (some 60) (bw)).put (some 61) (v4)).put (some 62) (v5)).put (some 10) (v5) → Q .normal a' w') :
    (Code.region 10 tfork10_ops false).wp Try.prog Q a w := by
  refine wp_region_list ?_
  change wpList _ _ _ [tfork10_o0, tfork10_o1, tfork10_o2, tfork10_o3, tfork10_o4, tfork10_o5, tfork10_o6, tfork10_o7, tfork10_o8] _ _
  refine qv (v := lv) (by rfl) (exec_move rfl t0) (fun a0 e0 => ?_)
  rw [← e0] at h
  have z0 := pz e0 hsz
  replace t1 := pk e0 t1
  replace t2 := pk e0 t2
  clear t0
  have t55 := pq e0 hsz
  clear e0 hsz
  refine qc (by rfl) (by unfold tfork10_o1; go_simp) (C1) (fun e x1 hx => ?_)
  obtain ⟨v1, rfl, C2⟩ := hx
  replace h := h v1
  refine ⟨_, rfl, fun a1 e1 => ?_⟩
  rw [← e1] at h
  have z1 := pz e1 z0
  replace t1 := pk e1 t1
  replace t2 := pk e1 t2
  clear t55
  have t56 := pq e1 z0
  clear e1 z0
  refine qv (v := av) (by rfl) (exec_move rfl t1) (fun a2 e2 => ?_)
  rw [← e2] at h
  have z2 := pz e2 z1
  replace t2 := pk e2 t2
  replace t56 := pk e2 t56
  clear t1
  have t57 := pq e2 z1
  clear e2 z1
  refine qc (by rfl) (by unfold tfork10_o3; go_simp) (C2) (fun e x3 hx => ?_)
  obtain ⟨v2, v3, y3, rfl, E3, C4⟩ := hx
  replace h := h v2 v3
  refine ⟨_, rfl, fun a3 e3 => ?_⟩
  rw [← e3] at h
  have z3 := pz e3 z2
  replace t2 := pk e3 t2
  replace t56 := pk e3 t56
  clear t57
  have t58 := pq e3 z2
  clear e3 z2
  refine qk (v := v3) (by rfl) (exec_append rfl t56 t58 E3) (fun a4 e4 => ?_)
  rw [← e4] at h
  have z4 := pz e4 z3
  replace t2 := pk e4 t2
  clear t56 t58
  have t59 := pq e4 z3
  clear e4 z3
  refine qv (v := bw) (by rfl) (exec_move rfl t2) (fun a5 e5 => ?_)
  rw [← e5] at h
  have z5 := pz e5 z4
  replace t59 := pk e5 t59
  clear t2
  have t60 := pq e5 z4
  clear e5 z4
  refine qc (by rfl) (by unfold tfork10_o6; go_simp) (C4) (fun e x6 hx => ?_)
  obtain ⟨v4, v5, y5, rfl, E5, HF⟩ := hx
  replace h := h v4 v5
  refine ⟨_, rfl, fun a6 e6 => ?_⟩
  rw [← e6] at h
  have z6 := pz e6 z5
  replace t59 := pk e6 t59
  clear t60
  have t61 := pq e6 z5
  clear e6 z5
  refine qk (v := v5) (by rfl) (exec_append rfl t59 t61 E5) (fun a7 e7 => ?_)
  rw [← e7] at h
  have z7 := pz e7 z6
  clear t59 t61
  have t62 := pq e7 z6
  clear e7 z6
  refine qv (v := v5) (by rfl) (exec_assign rfl t62) (fun a8 e8 => ?_)
  rw [← e8] at h
  have z8 := pz e8 z7
  clear t62
  clear e8 z7
  exact wpList_nil (h _ _ (HF) rfl)
def tfork7_o0 : Oper := ⟨some 24, .move (.tmp 7), 24, "law.go:157", #[], none⟩
def tfork7_o1 : Oper := ⟨some 25, .move (.tmp 0), 23, "law.go:157", #[], none⟩
def tfork7_o2 : Oper := ⟨some 26, .move (.tmp 8), 3, "law.go:157", #[], none⟩
def tfork7_o3 : Oper := ⟨some 27, .indexAddr 23 (.tmp 25) (.tmp 26), 0, "law.go:157", #[⟨1, .data⟩, ⟨2, .data⟩], none⟩
def tfork7_o4 : Oper := ⟨some 28, .load 39 (.tmp 27), 39, "law.go:157", #[⟨3, .data⟩], none⟩
def tfork7_o5 : Oper := ⟨some 29, .call { callee := Callee.value (Operand.func 12), args := #[.tmp 24, .tmp 28], argTypes := #[24, 39] }, 4, "law.go:157", #[⟨0, .data⟩, ⟨4, .data⟩], none⟩
def tfork7_o6 : Oper := ⟨some 30, .unOp UnOp.not 4 (.tmp 29), 4, "law.go:157", #[⟨5, .data⟩], none⟩
def tfork7_ops : Array Oper := #[tfork7_o0, tfork7_o1, tfork7_o2, tfork7_o3, tfork7_o4, tfork7_o5, tfork7_o6]
theorem tfork7 (x : Nat) (lv iv pi ov : Value) (Fin : World → Prop) (a : Act) (w : World) (Q : Exit → Act → World → Prop) (hsz : a.tmps.size = 143)
    (t7 : a.tmps.getD 7 undef = .pointer (some ⟨x, 0, none⟩))
    (t0 : a.tmps.getD 0 undef = lv)
    (t8 : a.tmps.getD 8 undef = iv)
    (CS : Calls Try.prog 12 #[.pointer (some ⟨x, 0, none⟩), ov] w fun e w' => e = .returned (.bool true) ∧ Fin w')
    (G1 : ∀ W, (Instr.indexAt 23 (lv) (iv)).run Try.prog W = .ok (pi) W)
    (G2 : (Instr.loadAt 39 (pi)).run Try.prog w = .ok (ov) w)
    (h : ∀ (a' : Act) (w' : World), Fin w' → a' = (((((((a).put (some 24) (.pointer (some ⟨x, 0, none⟩))).put (some 25) (lv)).put (some 26) (iv)).put (some 27) (pi)).put (some 28) (ov)).put (some 29) (.bool true)).put (some 30) (.bool false) → Q .normal a' w') :
    (Code.region 7 tfork7_ops false).wp Try.prog Q a w := by
  refine wp_region_list ?_
  change wpList _ _ _ [tfork7_o0, tfork7_o1, tfork7_o2, tfork7_o3, tfork7_o4, tfork7_o5, tfork7_o6] _ _
  refine qv (v := .pointer (some ⟨x, 0, none⟩)) (by rfl) (exec_move rfl t7) (fun a0 e0 => ?_)
  rw [← e0] at h
  have z0 := pz e0 hsz
  replace t0 := pk e0 t0
  replace t8 := pk e0 t8
  clear t7
  have t24 := pq e0 hsz
  clear e0 hsz
  refine qv (v := lv) (by rfl) (exec_move rfl t0) (fun a1 e1 => ?_)
  rw [← e1] at h
  have z1 := pz e1 z0
  replace t8 := pk e1 t8
  replace t24 := pk e1 t24
  clear t0
  have t25 := pq e1 z0
  clear e1 z0
  refine qv (v := iv) (by rfl) (exec_move rfl t8) (fun a2 e2 => ?_)
  rw [← e2] at h
  have z2 := pz e2 z1
  replace t24 := pk e2 t24
  replace t25 := pk e2 t25
  clear t8
  have t26 := pq e2 z1
  clear e2 z1
  refine qv (v := pi) (by rfl) (exec_indexAt rfl t25 t26 (G1 _)) (fun a3 e3 => ?_)
  rw [← e3] at h
  have z3 := pz e3 z2
  replace t24 := pk e3 t24
  clear t25 t26
  have t27 := pq e3 z2
  clear e3 z2
  refine qv (v := ov) (by rfl) (exec_load rfl t27 G2) (fun a4 e4 => ?_)
  rw [← e4] at h
  have z4 := pz e4 z3
  replace t24 := pk e4 t24
  clear t27
  have t28 := pq e4 z3
  clear e4 z3
  refine qc (by rfl) (by unfold tfork7_o5; go_simp) (CS) (fun e x5 hx => ?_)
  obtain ⟨rfl, HF⟩ := hx
  refine ⟨_, rfl, fun a5 e5 => ?_⟩
  rw [← e5] at h
  have z5 := pz e5 z4
  clear t24 t28
  have t29 := pq e5 z4
  clear e5 z4
  refine qv (v := .bool false) (by rfl) (by unfold tfork7_o6; go_simp) (fun a6 e6 => ?_)
  rw [← e6] at h
  have z6 := pz e6 z5
  clear t29
  clear e6 z5
  exact wpList_nil (h _ _ (HF) rfl)
def tfork11_o0 : Oper := ⟨some 63, .move (.tmp 9), 24, "law.go:163", #[], none⟩
def tfork11_o1 : Oper := ⟨some 64, .nilCheck (.tmp 63), 0, "law.go:163", #[⟨0, .data⟩], none⟩
def tfork11_o2 : Oper := ⟨some 65, .fieldAddr 32 (.tmp 64) 0, 0, "law.go:163", #[⟨1, .data⟩], none⟩
def tfork11_o3 : Oper := ⟨some 66, .load 25 (.tmp 65), 25, "law.go:163", #[⟨2, .data⟩], none⟩
def tfork11_o4 : Oper := ⟨some 67, .binOp BinOp.eql 25 (.tmp 66) (Operand.const (Value.pointer none)) 25, 4, "law.go:163", #[⟨3, .data⟩], none⟩
def tfork11_o5 : Oper := ⟨some 68, .move (.tmp 67), 4, "law.go:163", #[⟨4, .data⟩], none⟩
def tfork11_o6 : Oper := ⟨some 69, .move (.tmp 9), 24, "law.go:163", #[⟨5, .guard⟩], some (5, false)⟩
def tfork11_o7 : Oper := ⟨some 70, .nilCheck (.tmp 69), 0, "law.go:163", #[⟨6, .data⟩, ⟨5, .guard⟩], some (5, false)⟩
def tfork11_o8 : Oper := ⟨some 71, .fieldAddr 32 (.tmp 70) 0, 0, "law.go:163", #[⟨7, .data⟩, ⟨5, .guard⟩], some (5, false)⟩
def tfork11_o9 : Oper := ⟨some 72, .load 25 (.tmp 71), 25, "law.go:163", #[⟨8, .data⟩, ⟨5, .guard⟩], some (5, false)⟩
def tfork11_o10 : Oper := ⟨some 73, .move (.tmp 9), 24, "law.go:163", #[⟨5, .guard⟩], some (5, false)⟩
def tfork11_o11 : Oper := ⟨some 74, .nilCheck (.tmp 73), 0, "law.go:163", #[⟨10, .data⟩, ⟨5, .guard⟩], some (5, false)⟩
def tfork11_o12 : Oper := ⟨some 75, .fieldAddr 32 (.tmp 74) 1, 0, "law.go:163", #[⟨11, .data⟩, ⟨5, .guard⟩], some (5, false)⟩
def tfork11_o13 : Oper := ⟨some 76, .load 27 (.tmp 75), 27, "law.go:163", #[⟨12, .data⟩, ⟨5, .guard⟩], some (5, false)⟩
def tfork11_o14 : Oper := ⟨some 77, .move (.tmp 10), 41, "law.go:163", #[⟨5, .guard⟩], some (5, false)⟩
def tfork11_o15 : Oper := ⟨some 78, .call { callee := Callee.value (Operand.func 13), args := #[.tmp 72, .tmp 76, .tmp 77], argTypes := #[25, 27, 41] }, 4, "law.go:163", #[⟨9, .data⟩, ⟨13, .data⟩, ⟨14, .data⟩, ⟨5, .chain⟩, ⟨5, .guard⟩], some (5, false)⟩
def tfork11_o16 : Oper := ⟨some 79, .unOp UnOp.not 4 (.tmp 78), 4, "law.go:163", #[⟨15, .data⟩, ⟨5, .guard⟩], some (5, false)⟩
def tfork11_o17 : Oper := ⟨some 80, .pick (.tmp 68) (Operand.const (Value.bool true)) (.tmp 79), 4, "law.go:163", #[⟨5, .data⟩, ⟨16, .data⟩], none⟩
def tfork11_ops : Array Oper := #[tfork11_o0, tfork11_o1, tfork11_o2, tfork11_o3, tfork11_o4, tfork11_o5, tfork11_o6, tfork11_o7, tfork11_o8, tfork11_o9, tfork11_o10, tfork11_o11, tfork11_o12, tfork11_o13, tfork11_o14, tfork11_o15, tfork11_o16, tfork11_o17]
theorem tfork11 (S Fin : World → Prop) (y : Nat) (tv dv iv : Value) (a : Act) (w : World) (Q : Exit → Act → World → Prop) (hsz : a.tmps.size = 143)
    (t9 : a.tmps.getD 9 undef = .pointer (some ⟨y, 0, none⟩))
    (t10 : a.tmps.getD 10 undef = iv)
    (h0 : S w.drew) (CA : Calls Try.prog 13 #[tv, dv, iv] w.drew fun e w' => e = .returned (.bool true) ∧ S w' ∧ Fin w')
    (G1 : ∀ W, S W → (Instr.loadAt 25 (.pointer (some ⟨y, 0 + 0, none⟩))).run Try.prog W = .ok (tv) W)
    (G2 : ∀ W, (eqGuard BinOp.eql 25 (Operand.tmp 66) (Operand.const (Value.pointer none)) (tv) (.pointer none)).run Try.prog W = .ok () W)
    (G3 : ∀ W, S W → (binOp BinOp.eql 25 (tv) (.pointer none)).run Try.prog W = .ok (.bool false) W)
    (G4 : ∀ W, S W → (Instr.loadAt 27 (.pointer (some ⟨y, 0 + 1, none⟩))).run Try.prog W = .ok (dv) W)
    (h : ∀ (a' : Act) (w' : World), Fin w' → a' = ((((((((((((((((((a).put (some 63) (.pointer (some ⟨y, 0, none⟩))).put (some 64) (.pointer (some ⟨y, 0, none⟩))).put (some 65) (.pointer (some ⟨y, 0 + 0, none⟩))).put (some 66) (tv)).put (some 67) (.bool false)).put (some 68) (.bool false)).put (some 69) (.pointer (some ⟨y, 0, none⟩))).put (some 70) (.pointer (some ⟨y, 0, none⟩))).put (some 71) (.pointer (some ⟨y, 0 + 0, none⟩))).put (some 72) (tv)).put (some 73) (.pointer (some ⟨y, 0, none⟩))).put (some 74) (.pointer (some ⟨y, 0, none⟩))).put (some 75) (.pointer (some ⟨y, 0 + 1, none⟩))).put (some 76) (dv)).put (some 77) (iv)).put (some 78) (.bool true)).put (some 79) (.bool false)).put (some 80) (.bool false) → Q .normal a' w') :
    (Code.region 11 tfork11_ops true).wp Try.prog Q a w := by
  refine wp_region_noPanic ?_
  refine wp_region_held_drew (S := fun w' => S w') (by kernel_rfl) (h0) (fun hHeld => ?_)
  change wpAnyH _ _ _ _ _ _ _ a _
  refine tk 0 tfork11_o0 (.pointer (some ⟨y, 0, none⟩)) (by rfl) (fun w1 hw => exec_move rfl t9) hHeld (fun a1 e1 => ?_)
  rw [← e1] at h
  have z1 := pz e1 hsz
  replace t9 := pk e1 t9
  replace t10 := pk e1 t10
  have t63 := pq e1 hsz
  clear e1 hsz
  refine tk 1 tfork11_o1 (.pointer (some ⟨y, 0, none⟩)) (by rfl) (fun w1 hw => exec_nilCheck rfl t63) hHeld (fun a2 e2 => ?_)
  rw [← e2] at h
  have z2 := pz e2 z1
  replace t9 := pk e2 t9
  replace t10 := pk e2 t10
  clear t63
  have t64 := pq e2 z1
  clear e2 z1
  refine tk 2 tfork11_o2 (.pointer (some ⟨y, 0 + 0, none⟩)) (by rfl) (fun w1 hw => exec_fieldAt rfl t64 (fg_32_0 _ _ _)) hHeld (fun a3 e3 => ?_)
  rw [← e3] at h
  have z3 := pz e3 z2
  replace t9 := pk e3 t9
  replace t10 := pk e3 t10
  clear t64
  have t65 := pq e3 z2
  clear e3 z2
  refine tk 3 tfork11_o3 (tv) (by rfl) (fun w1 hw => exec_load rfl t65 (G1 _ hw)) hHeld (fun a4 e4 => ?_)
  rw [← e4] at h
  have z4 := pz e4 z3
  replace t9 := pk e4 t9
  replace t10 := pk e4 t10
  clear t65
  have t66 := pq e4 z3
  clear e4 z3
  refine tk 4 tfork11_o4 (.bool false) (by rfl) (fun w1 hw => exec_binOp rfl t66 rfl (G2 _) (G3 _ hw)) hHeld (fun a5 e5 => ?_)
  rw [← e5] at h
  have z5 := pz e5 z4
  replace t9 := pk e5 t9
  replace t10 := pk e5 t10
  clear t66
  have t67 := pq e5 z4
  clear e5 z4
  refine tk 5 tfork11_o5 (.bool false) (by rfl) (fun w1 hw => exec_move rfl t67) hHeld (fun a6 e6 => ?_)
  rw [← e6] at h
  have z6 := pz e6 z5
  replace t9 := pk e6 t9
  replace t10 := pk e6 t10
  clear t67
  have t68 := pq e6 z5
  clear e6 z5
  refine tk 6 tfork11_o6 (.pointer (some ⟨y, 0, none⟩)) (by simp [Region.wanted, yielded, tfork11_ops, tfork11_o6, tfork11_o5, tget z6 (by decide) t68]) (fun w1 hw => exec_move rfl t9) hHeld (fun a7 e7 => ?_)
  rw [← e7] at h
  have z7 := pz e7 z6
  replace t9 := pk e7 t9
  replace t10 := pk e7 t10
  replace t68 := pk e7 t68
  have t69 := pq e7 z6
  clear e7 z6
  refine tk 7 tfork11_o7 (.pointer (some ⟨y, 0, none⟩)) (by simp [Region.wanted, yielded, tfork11_ops, tfork11_o7, tfork11_o5, tget z7 (by decide) t68]) (fun w1 hw => exec_nilCheck rfl t69) hHeld (fun a8 e8 => ?_)
  rw [← e8] at h
  have z8 := pz e8 z7
  replace t9 := pk e8 t9
  replace t10 := pk e8 t10
  replace t68 := pk e8 t68
  clear t69
  have t70 := pq e8 z7
  clear e8 z7
  refine tk 8 tfork11_o8 (.pointer (some ⟨y, 0 + 0, none⟩)) (by simp [Region.wanted, yielded, tfork11_ops, tfork11_o8, tfork11_o5, tget z8 (by decide) t68]) (fun w1 hw => exec_fieldAt rfl t70 (fg_32_0 _ _ _)) hHeld (fun a9 e9 => ?_)
  rw [← e9] at h
  have z9 := pz e9 z8
  replace t9 := pk e9 t9
  replace t10 := pk e9 t10
  replace t68 := pk e9 t68
  clear t70
  have t71 := pq e9 z8
  clear e9 z8
  refine tk 9 tfork11_o9 (tv) (by simp [Region.wanted, yielded, tfork11_ops, tfork11_o9, tfork11_o5, tget z9 (by decide) t68]) (fun w1 hw => exec_load rfl t71 (G1 _ hw)) hHeld (fun a10 e10 => ?_)
  rw [← e10] at h
  have z10 := pz e10 z9
  replace t9 := pk e10 t9
  replace t10 := pk e10 t10
  replace t68 := pk e10 t68
  clear t71
  have t72 := pq e10 z9
  clear e10 z9
  refine tk 10 tfork11_o10 (.pointer (some ⟨y, 0, none⟩)) (by simp [Region.wanted, yielded, tfork11_ops, tfork11_o10, tfork11_o5, tget z10 (by decide) t68]) (fun w1 hw => exec_move rfl t9) hHeld (fun a11 e11 => ?_)
  rw [← e11] at h
  have z11 := pz e11 z10
  replace t10 := pk e11 t10
  replace t68 := pk e11 t68
  replace t72 := pk e11 t72
  clear t9
  have t73 := pq e11 z10
  clear e11 z10
  refine tk 11 tfork11_o11 (.pointer (some ⟨y, 0, none⟩)) (by simp [Region.wanted, yielded, tfork11_ops, tfork11_o11, tfork11_o5, tget z11 (by decide) t68]) (fun w1 hw => exec_nilCheck rfl t73) hHeld (fun a12 e12 => ?_)
  rw [← e12] at h
  have z12 := pz e12 z11
  replace t10 := pk e12 t10
  replace t68 := pk e12 t68
  replace t72 := pk e12 t72
  clear t73
  have t74 := pq e12 z11
  clear e12 z11
  refine tk 12 tfork11_o12 (.pointer (some ⟨y, 0 + 1, none⟩)) (by simp [Region.wanted, yielded, tfork11_ops, tfork11_o12, tfork11_o5, tget z12 (by decide) t68]) (fun w1 hw => exec_fieldAt rfl t74 (fg_32_1 _ _ _)) hHeld (fun a13 e13 => ?_)
  rw [← e13] at h
  have z13 := pz e13 z12
  replace t10 := pk e13 t10
  replace t68 := pk e13 t68
  replace t72 := pk e13 t72
  clear t74
  have t75 := pq e13 z12
  clear e13 z12
  refine tk 13 tfork11_o13 (dv) (by simp [Region.wanted, yielded, tfork11_ops, tfork11_o13, tfork11_o5, tget z13 (by decide) t68]) (fun w1 hw => exec_load rfl t75 (G4 _ hw)) hHeld (fun a14 e14 => ?_)
  rw [← e14] at h
  have z14 := pz e14 z13
  replace t10 := pk e14 t10
  replace t68 := pk e14 t68
  replace t72 := pk e14 t72
  clear t75
  have t76 := pq e14 z13
  clear e14 z13
  refine tk 14 tfork11_o14 (iv) (by simp [Region.wanted, yielded, tfork11_ops, tfork11_o14, tfork11_o5, tget z14 (by decide) t68]) (fun w1 hw => exec_move rfl t10) hHeld (fun a15 e15 => ?_)
  rw [← e15] at h
  have z15 := pz e15 z14
  replace t68 := pk e15 t68
  replace t72 := pk e15 t72
  replace t76 := pk e15 t76
  clear t10
  have t77 := pq e15 z14
  clear e15 z14
  refine wpAnyH_ready (rs := [15]) (by kernel_rfl) (by simp) ?_
  refine AllReadyH.cons (o := tfork11_o15) rfl (fun K hK => ?_) AllReadyH.nil
  rw [if_pos (by simp [Region.wanted, yielded, tfork11_ops, tfork11_o15, tfork11_o5, tget z15 (by decide) t68])]
  unfold tfork11_o15 at hK ⊢
  go_simp
  refine (CA).mono ?_
  rintro e x16 ⟨rfl, hs, HF⟩
  try go_wp2_with fail
  skip
  refine hK.out _ _ (hs) (fun hHeld => ?_)
  clear hK K
  change wpAnyH _ _ _ _ _ _ _ (a15.put (some 78) (.bool true)) _
  obtain ⟨a16, e16⟩ : ∃ act, act = a15.put (some 78) (.bool true) := ⟨_, rfl⟩
  rw [← e16] at h ⊢
  have z16 := pz e16 z15
  replace t68 := pk e16 t68
  clear t72 t76 t77
  have t78 := pq e16 z15
  clear e16 z15
  refine tk 16 tfork11_o16 (.bool false) (by simp [Region.wanted, yielded, tfork11_ops, tfork11_o16, tfork11_o5, tget z16 (by decide) t68]) (fun w1 hw => by unfold tfork11_o16; go_simp) hHeld (fun a17 e17 => ?_)
  rw [← e17] at h
  have z17 := pz e17 z16
  replace t68 := pk e17 t68
  clear t78
  have t79 := pq e17 z16
  clear e17 z16
  refine tk 17 tfork11_o17 (.bool false) (by rfl) (fun w1 hw => by unfold tfork11_o17; go_simp) hHeld (fun a18 e18 => ?_)
  rw [← e18] at h
  have z18 := pz e18 z17
  clear t68 t79
  clear e18 z17
  exact wpAnyH_done (by kernel_rfl) (NoPanic.normal (h _ _ (HF) rfl)) _
def tfork16t_o0 : Oper := ⟨some 93, .move (.tmp 11), 3, "law.go:167", #[], none⟩
def tfork16t_o1 : Oper := ⟨some 94, .move (.tmp 1), 23, "law.go:167", #[], none⟩
def tfork16t_o2 : Oper := ⟨some 95, .call { callee := Callee.builtin Builtin.len, args := #[.tmp 94], argTypes := #[23] }, 3, "law.go:167", #[⟨1, .data⟩], none⟩
def tfork16t_o3 : Oper := ⟨some 96, .binOp BinOp.lss 3 (.tmp 93) (.tmp 95) 3, 4, "law.go:167", #[⟨0, .data⟩, ⟨2, .data⟩], none⟩
def tfork16t_o4 : Oper := ⟨some 97, .move (.tmp 96), 4, "law.go:167", #[⟨3, .data⟩], none⟩
def tfork16t_o5 : Oper := ⟨some 98, .move (.tmp 7), 24, "law.go:167", #[⟨4, .guard⟩], some (4, true)⟩
def tfork16t_o6 : Oper := ⟨some 99, .move (.tmp 1), 23, "law.go:167", #[⟨4, .guard⟩], some (4, true)⟩
def tfork16t_o7 : Oper := ⟨some 100, .move (.tmp 11), 3, "law.go:167", #[⟨4, .guard⟩], some (4, true)⟩
def tfork16t_o8 : Oper := ⟨some 101, .indexAddr 23 (.tmp 99) (.tmp 100), 0, "law.go:167", #[⟨6, .data⟩, ⟨7, .data⟩, ⟨4, .guard⟩], some (4, true)⟩
def tfork16t_o9 : Oper := ⟨some 102, .load 39 (.tmp 101), 39, "law.go:167", #[⟨8, .data⟩, ⟨4, .guard⟩], some (4, true)⟩
def tfork16t_o10 : Oper := ⟨some 103, .call { callee := Callee.value (Operand.func 12), args := #[.tmp 98, .tmp 102], argTypes := #[24, 39] }, 4, "law.go:167", #[⟨5, .data⟩, ⟨9, .data⟩, ⟨4, .chain⟩, ⟨4, .guard⟩], some (4, true)⟩
def tfork16t_o11 : Oper := ⟨some 104, .unOp UnOp.not 4 (.tmp 103), 4, "law.go:167", #[⟨10, .data⟩, ⟨4, .guard⟩], some (4, true)⟩
def tfork16t_o12 : Oper := ⟨some 105, .pick (.tmp 97) (.tmp 104) (Operand.const (Value.bool false)), 4, "law.go:167", #[⟨4, .data⟩, ⟨11, .data⟩], none⟩
def tfork16t_ops : Array Oper := #[tfork16t_o0, tfork16t_o1, tfork16t_o2, tfork16t_o3, tfork16t_o4, tfork16t_o5, tfork16t_o6, tfork16t_o7, tfork16t_o8, tfork16t_o9, tfork16t_o10, tfork16t_o11, tfork16t_o12]
theorem tfork16t (x : Nat) (lv iv zv xp ov : Value) (Fin : World → Prop) (a : Act) (w : World) (Q : Exit → Act → World → Prop) (hsz : a.tmps.size = 143)
    (t7 : a.tmps.getD 7 undef = .pointer (some ⟨x, 0, none⟩))
    (t1 : a.tmps.getD 1 undef = lv)
    (t11 : a.tmps.getD 11 undef = iv)
    (HL : ∀ W, (Builtin.len_ #[23] 3 #[lv]).run Try.prog W = .ok zv W) (HE : ∀ W, (eqGuard BinOp.lss 3 (Operand.tmp 93) (Operand.tmp 95) iv zv).run Try.prog W = .ok () W) (HB : ∀ W, (binOp BinOp.lss 3 iv zv).run Try.prog W = .ok (.bool true) W) (HO : (Instr.loadAt 39 xp).run Try.prog w = .ok ov w) (CS : Calls Try.prog 12 #[.pointer (some ⟨x, 0, none⟩), ov] w fun e w' => e = .returned (.bool true) ∧ Fin w')
    (G1 : ∀ W, (Instr.indexAt 23 (lv) (iv)).run Try.prog W = .ok (xp) W)
    (h : ∀ (a' : Act) (w' : World), Fin w' → a' = (((((((((((((a).put (some 93) (iv)).put (some 94) (lv)).put (some 95) (zv)).put (some 96) (.bool true)).put (some 97) (.bool true)).put (some 98) (.pointer (some ⟨x, 0, none⟩))).put (some 99) (lv)).put (some 100) (iv)).put (some 101) (xp)).put (some 102) (ov)).put (some 103) (.bool true)).put (some 104) (.bool false)).put (some 105) (.bool false) → Q .normal a' w') :
    (Code.region 16 tfork16t_ops false).wp Try.prog Q a w := by
  refine wp_region_list ?_
  change wpList _ _ _ [tfork16t_o0, tfork16t_o1, tfork16t_o2, tfork16t_o3, tfork16t_o4, tfork16t_o5, tfork16t_o6, tfork16t_o7, tfork16t_o8, tfork16t_o9, tfork16t_o10, tfork16t_o11, tfork16t_o12] _ _
  refine qv (v := iv) (by rfl) (exec_move rfl t11) (fun a0 e0 => ?_)
  rw [← e0] at h
  have z0 := pz e0 hsz
  replace t7 := pk e0 t7
  replace t1 := pk e0 t1
  replace t11 := pk e0 t11
  have t93 := pq e0 hsz
  clear e0 hsz
  refine qv (v := lv) (by rfl) (exec_move rfl t1) (fun a1 e1 => ?_)
  rw [← e1] at h
  have z1 := pz e1 z0
  replace t7 := pk e1 t7
  replace t1 := pk e1 t1
  replace t11 := pk e1 t11
  replace t93 := pk e1 t93
  have t94 := pq e1 z0
  clear e1 z0
  refine qk (v := zv) (by rfl) (exec_len rfl t94 (HL _)) (fun a2 e2 => ?_)
  rw [← e2] at h
  have z2 := pz e2 z1
  replace t7 := pk e2 t7
  replace t1 := pk e2 t1
  replace t11 := pk e2 t11
  replace t93 := pk e2 t93
  clear t94
  have t95 := pq e2 z1
  clear e2 z1
  refine qv (v := .bool true) (by rfl) (exec_binOp rfl t93 t95 (HE _) (HB _)) (fun a3 e3 => ?_)
  rw [← e3] at h
  have z3 := pz e3 z2
  replace t7 := pk e3 t7
  replace t1 := pk e3 t1
  replace t11 := pk e3 t11
  clear t93 t95
  have t96 := pq e3 z2
  clear e3 z2
  refine qv (v := .bool true) (by rfl) (exec_move rfl t96) (fun a4 e4 => ?_)
  rw [← e4] at h
  have z4 := pz e4 z3
  replace t7 := pk e4 t7
  replace t1 := pk e4 t1
  replace t11 := pk e4 t11
  clear t96
  have t97 := pq e4 z3
  clear e4 z3
  refine qv (v := .pointer (some ⟨x, 0, none⟩)) (by simp [Region.wanted, yielded, tfork16t_ops, tfork16t_o5, tfork16t_o4, tget z4 (by decide) t97]) (exec_move rfl t7) (fun a5 e5 => ?_)
  rw [← e5] at h
  have z5 := pz e5 z4
  replace t1 := pk e5 t1
  replace t11 := pk e5 t11
  replace t97 := pk e5 t97
  clear t7
  have t98 := pq e5 z4
  clear e5 z4
  refine qv (v := lv) (by simp [Region.wanted, yielded, tfork16t_ops, tfork16t_o6, tfork16t_o4, tget z5 (by decide) t97]) (exec_move rfl t1) (fun a6 e6 => ?_)
  rw [← e6] at h
  have z6 := pz e6 z5
  replace t11 := pk e6 t11
  replace t97 := pk e6 t97
  replace t98 := pk e6 t98
  clear t1
  have t99 := pq e6 z5
  clear e6 z5
  refine qv (v := iv) (by simp [Region.wanted, yielded, tfork16t_ops, tfork16t_o7, tfork16t_o4, tget z6 (by decide) t97]) (exec_move rfl t11) (fun a7 e7 => ?_)
  rw [← e7] at h
  have z7 := pz e7 z6
  replace t97 := pk e7 t97
  replace t98 := pk e7 t98
  replace t99 := pk e7 t99
  clear t11
  have t100 := pq e7 z6
  clear e7 z6
  refine qv (v := xp) (by simp [Region.wanted, yielded, tfork16t_ops, tfork16t_o8, tfork16t_o4, tget z7 (by decide) t97]) (exec_indexAt rfl t99 t100 (G1 _)) (fun a8 e8 => ?_)
  rw [← e8] at h
  have z8 := pz e8 z7
  replace t97 := pk e8 t97
  replace t98 := pk e8 t98
  clear t99 t100
  have t101 := pq e8 z7
  clear e8 z7
  refine qv (v := ov) (by simp [Region.wanted, yielded, tfork16t_ops, tfork16t_o9, tfork16t_o4, tget z8 (by decide) t97]) (exec_load rfl t101 HO) (fun a9 e9 => ?_)
  rw [← e9] at h
  have z9 := pz e9 z8
  replace t97 := pk e9 t97
  replace t98 := pk e9 t98
  clear t101
  have t102 := pq e9 z8
  clear e9 z8
  refine qc (by simp [Region.wanted, yielded, tfork16t_ops, tfork16t_o10, tfork16t_o4, tget z9 (by decide) t97]) (by unfold tfork16t_o10; go_simp) (CS) (fun e x10 hx => ?_)
  obtain ⟨rfl, HF⟩ := hx
  refine ⟨_, rfl, fun a10 e10 => ?_⟩
  rw [← e10] at h
  have z10 := pz e10 z9
  replace t97 := pk e10 t97
  clear t98 t102
  have t103 := pq e10 z9
  clear e10 z9
  refine qv (v := .bool false) (by simp [Region.wanted, yielded, tfork16t_ops, tfork16t_o11, tfork16t_o4, tget z10 (by decide) t97]) (by unfold tfork16t_o11; go_simp) (fun a11 e11 => ?_)
  rw [← e11] at h
  have z11 := pz e11 z10
  replace t97 := pk e11 t97
  clear t103
  have t104 := pq e11 z10
  clear e11 z10
  refine qv (v := .bool false) (by rfl) (by unfold tfork16t_o12; go_simp) (fun a12 e12 => ?_)
  rw [← e12] at h
  have z12 := pz e12 z11
  clear t97 t104
  clear e12 z11
  exact wpList_nil (h _ _ (HF) rfl)
def tfork16f_o0 : Oper := ⟨some 93, .move (.tmp 11), 3, "law.go:167", #[], none⟩
def tfork16f_o1 : Oper := ⟨some 94, .move (.tmp 1), 23, "law.go:167", #[], none⟩
def tfork16f_o2 : Oper := ⟨some 95, .call { callee := Callee.builtin Builtin.len, args := #[.tmp 94], argTypes := #[23] }, 3, "law.go:167", #[⟨1, .data⟩], none⟩
def tfork16f_o3 : Oper := ⟨some 96, .binOp BinOp.lss 3 (.tmp 93) (.tmp 95) 3, 4, "law.go:167", #[⟨0, .data⟩, ⟨2, .data⟩], none⟩
def tfork16f_o4 : Oper := ⟨some 97, .move (.tmp 96), 4, "law.go:167", #[⟨3, .data⟩], none⟩
def tfork16f_o5 : Oper := ⟨some 98, .move (.tmp 7), 24, "law.go:167", #[⟨4, .guard⟩], some (4, true)⟩
def tfork16f_o6 : Oper := ⟨some 99, .move (.tmp 1), 23, "law.go:167", #[⟨4, .guard⟩], some (4, true)⟩
def tfork16f_o7 : Oper := ⟨some 100, .move (.tmp 11), 3, "law.go:167", #[⟨4, .guard⟩], some (4, true)⟩
def tfork16f_o8 : Oper := ⟨some 101, .indexAddr 23 (.tmp 99) (.tmp 100), 0, "law.go:167", #[⟨6, .data⟩, ⟨7, .data⟩, ⟨4, .guard⟩], some (4, true)⟩
def tfork16f_o9 : Oper := ⟨some 102, .load 39 (.tmp 101), 39, "law.go:167", #[⟨8, .data⟩, ⟨4, .guard⟩], some (4, true)⟩
def tfork16f_o10 : Oper := ⟨some 103, .call { callee := Callee.value (Operand.func 12), args := #[.tmp 98, .tmp 102], argTypes := #[24, 39] }, 4, "law.go:167", #[⟨5, .data⟩, ⟨9, .data⟩, ⟨4, .chain⟩, ⟨4, .guard⟩], some (4, true)⟩
def tfork16f_o11 : Oper := ⟨some 104, .unOp UnOp.not 4 (.tmp 103), 4, "law.go:167", #[⟨10, .data⟩, ⟨4, .guard⟩], some (4, true)⟩
def tfork16f_o12 : Oper := ⟨some 105, .pick (.tmp 97) (.tmp 104) (Operand.const (Value.bool false)), 4, "law.go:167", #[⟨4, .data⟩, ⟨11, .data⟩], none⟩
def tfork16f_ops : Array Oper := #[tfork16f_o0, tfork16f_o1, tfork16f_o2, tfork16f_o3, tfork16f_o4, tfork16f_o5, tfork16f_o6, tfork16f_o7, tfork16f_o8, tfork16f_o9, tfork16f_o10, tfork16f_o11, tfork16f_o12]
theorem tfork16f (x : Nat) (lv iv zv : Value) (a : Act) (w : World) (Q : Exit → Act → World → Prop) (hsz : a.tmps.size = 143)
    (t7 : a.tmps.getD 7 undef = .pointer (some ⟨x, 0, none⟩))
    (t1 : a.tmps.getD 1 undef = lv)
    (t11 : a.tmps.getD 11 undef = iv)
    (HL : ∀ W, (Builtin.len_ #[23] 3 #[lv]).run Try.prog W = .ok zv W) (HE : ∀ W, (eqGuard BinOp.lss 3 (Operand.tmp 93) (Operand.tmp 95) iv zv).run Try.prog W = .ok () W) (HB : ∀ W, (binOp BinOp.lss 3 iv zv).run Try.prog W = .ok (.bool false) W)
    (h : ∀ (a' : Act) (w' : World), w' = w → a' = (((((((((((((a).put (some 93) (iv)).put (some 94) (lv)).put (some 95) (zv)).put (some 96) (.bool false)).put (some 97) (.bool false)).put (some 98) (undef)).put (some 99) (undef)).put (some 100) (undef)).put (some 101) (undef)).put (some 102) (undef)).put (some 103) (undef)).put (some 104) (undef)).put (some 105) (.bool false) → Q .normal a' w') :
    (Code.region 16 tfork16f_ops false).wp Try.prog Q a w := by
  refine wp_region_list ?_
  change wpList _ _ _ [tfork16f_o0, tfork16f_o1, tfork16f_o2, tfork16f_o3, tfork16f_o4, tfork16f_o5, tfork16f_o6, tfork16f_o7, tfork16f_o8, tfork16f_o9, tfork16f_o10, tfork16f_o11, tfork16f_o12] _ _
  refine qv (v := iv) (by rfl) (exec_move rfl t11) (fun a0 e0 => ?_)
  rw [← e0] at h
  have z0 := pz e0 hsz
  replace t7 := pk e0 t7
  replace t1 := pk e0 t1
  replace t11 := pk e0 t11
  have t93 := pq e0 hsz
  clear e0 hsz
  refine qv (v := lv) (by rfl) (exec_move rfl t1) (fun a1 e1 => ?_)
  rw [← e1] at h
  have z1 := pz e1 z0
  replace t7 := pk e1 t7
  replace t1 := pk e1 t1
  replace t11 := pk e1 t11
  replace t93 := pk e1 t93
  have t94 := pq e1 z0
  clear e1 z0
  refine qk (v := zv) (by rfl) (exec_len rfl t94 (HL _)) (fun a2 e2 => ?_)
  rw [← e2] at h
  have z2 := pz e2 z1
  replace t7 := pk e2 t7
  replace t1 := pk e2 t1
  replace t11 := pk e2 t11
  replace t93 := pk e2 t93
  clear t94
  have t95 := pq e2 z1
  clear e2 z1
  refine qv (v := .bool false) (by rfl) (exec_binOp rfl t93 t95 (HE _) (HB _)) (fun a3 e3 => ?_)
  rw [← e3] at h
  have z3 := pz e3 z2
  replace t7 := pk e3 t7
  replace t1 := pk e3 t1
  replace t11 := pk e3 t11
  clear t93 t95
  have t96 := pq e3 z2
  clear e3 z2
  refine qv (v := .bool false) (by rfl) (exec_move rfl t96) (fun a4 e4 => ?_)
  rw [← e4] at h
  have z4 := pz e4 z3
  replace t7 := pk e4 t7
  replace t1 := pk e4 t1
  replace t11 := pk e4 t11
  clear t96
  have t97 := pq e4 z3
  clear e4 z3
  refine qn (by simp [Region.wanted, yielded, tfork16f_ops, tfork16f_o5, tfork16f_o4, tget z4 (by decide) t97]) (fun a5 e5 => ?_)
  rw [← e5] at h
  have z5 := pz e5 z4
  replace t1 := pk e5 t1
  replace t11 := pk e5 t11
  replace t97 := pk e5 t97
  clear t7
  have t98 := pq e5 z4
  clear e5 z4
  refine qn (by simp [Region.wanted, yielded, tfork16f_ops, tfork16f_o6, tfork16f_o4, tget z5 (by decide) t97]) (fun a6 e6 => ?_)
  rw [← e6] at h
  have z6 := pz e6 z5
  replace t11 := pk e6 t11
  replace t97 := pk e6 t97
  replace t98 := pk e6 t98
  clear t1
  have t99 := pq e6 z5
  clear e6 z5
  refine qn (by simp [Region.wanted, yielded, tfork16f_ops, tfork16f_o7, tfork16f_o4, tget z6 (by decide) t97]) (fun a7 e7 => ?_)
  rw [← e7] at h
  have z7 := pz e7 z6
  replace t97 := pk e7 t97
  replace t98 := pk e7 t98
  replace t99 := pk e7 t99
  clear t11
  have t100 := pq e7 z6
  clear e7 z6
  refine qn (by simp [Region.wanted, yielded, tfork16f_ops, tfork16f_o8, tfork16f_o4, tget z7 (by decide) t97]) (fun a8 e8 => ?_)
  rw [← e8] at h
  have z8 := pz e8 z7
  replace t97 := pk e8 t97
  replace t98 := pk e8 t98
  clear t99 t100
  have t101 := pq e8 z7
  clear e8 z7
  refine qn (by simp [Region.wanted, yielded, tfork16f_ops, tfork16f_o9, tfork16f_o4, tget z8 (by decide) t97]) (fun a9 e9 => ?_)
  rw [← e9] at h
  have z9 := pz e9 z8
  replace t97 := pk e9 t97
  replace t98 := pk e9 t98
  clear t101
  have t102 := pq e9 z8
  clear e9 z8
  refine qn (by simp [Region.wanted, yielded, tfork16f_ops, tfork16f_o10, tfork16f_o4, tget z9 (by decide) t97]) (fun a10 e10 => ?_)
  rw [← e10] at h
  have z10 := pz e10 z9
  replace t97 := pk e10 t97
  clear t98 t102
  have t103 := pq e10 z9
  clear e10 z9
  refine qn (by simp [Region.wanted, yielded, tfork16f_ops, tfork16f_o11, tfork16f_o4, tget z10 (by decide) t97]) (fun a11 e11 => ?_)
  rw [← e11] at h
  have z11 := pz e11 z10
  replace t97 := pk e11 t97
  clear t103
  have t104 := pq e11 z10
  clear e11 z10
  refine qv (v := .bool false) (by rfl) (by unfold tfork16f_o12; go_simp) (fun a12 e12 => ?_)
  rw [← e12] at h
  have z12 := pz e12 z11
  clear t97 t104
  clear e12 z11
  exact wpList_nil (h _ _ (rfl) rfl)
def tfork18t_o0 : Oper := ⟨some 106, .move (.tmp 11), 3, "law.go:170", #[], none⟩
def tfork18t_o1 : Oper := ⟨some 107, .move (.tmp 2), 23, "law.go:170", #[], none⟩
def tfork18t_o2 : Oper := ⟨some 108, .call { callee := Callee.builtin Builtin.len, args := #[.tmp 107], argTypes := #[23] }, 3, "law.go:170", #[⟨1, .data⟩], none⟩
def tfork18t_o3 : Oper := ⟨some 109, .binOp BinOp.lss 3 (.tmp 106) (.tmp 108) 3, 4, "law.go:170", #[⟨0, .data⟩, ⟨2, .data⟩], none⟩
def tfork18t_o4 : Oper := ⟨some 110, .move (.tmp 109), 4, "law.go:170", #[⟨3, .data⟩], none⟩
def tfork18t_o5 : Oper := ⟨some 111, .move (.tmp 9), 24, "law.go:170", #[⟨4, .guard⟩], some (4, true)⟩
def tfork18t_o6 : Oper := ⟨some 112, .move (.tmp 2), 23, "law.go:170", #[⟨4, .guard⟩], some (4, true)⟩
def tfork18t_o7 : Oper := ⟨some 113, .move (.tmp 11), 3, "law.go:170", #[⟨4, .guard⟩], some (4, true)⟩
def tfork18t_o8 : Oper := ⟨some 114, .indexAddr 23 (.tmp 112) (.tmp 113), 0, "law.go:170", #[⟨6, .data⟩, ⟨7, .data⟩, ⟨4, .guard⟩], some (4, true)⟩
def tfork18t_o9 : Oper := ⟨some 115, .load 39 (.tmp 114), 39, "law.go:170", #[⟨8, .data⟩, ⟨4, .guard⟩], some (4, true)⟩
def tfork18t_o10 : Oper := ⟨some 116, .call { callee := Callee.value (Operand.func 12), args := #[.tmp 111, .tmp 115], argTypes := #[24, 39] }, 4, "law.go:170", #[⟨5, .data⟩, ⟨9, .data⟩, ⟨4, .chain⟩, ⟨4, .guard⟩], some (4, true)⟩
def tfork18t_o11 : Oper := ⟨some 117, .unOp UnOp.not 4 (.tmp 116), 4, "law.go:170", #[⟨10, .data⟩, ⟨4, .guard⟩], some (4, true)⟩
def tfork18t_o12 : Oper := ⟨some 118, .pick (.tmp 110) (.tmp 117) (Operand.const (Value.bool false)), 4, "law.go:170", #[⟨4, .data⟩, ⟨11, .data⟩], none⟩
def tfork18t_ops : Array Oper := #[tfork18t_o0, tfork18t_o1, tfork18t_o2, tfork18t_o3, tfork18t_o4, tfork18t_o5, tfork18t_o6, tfork18t_o7, tfork18t_o8, tfork18t_o9, tfork18t_o10, tfork18t_o11, tfork18t_o12]
theorem tfork18t (y : Nat) (lv iv zv xp ov : Value) (Fin : World → Prop) (a : Act) (w : World) (Q : Exit → Act → World → Prop) (hsz : a.tmps.size = 143)
    (t9 : a.tmps.getD 9 undef = .pointer (some ⟨y, 0, none⟩))
    (t2 : a.tmps.getD 2 undef = lv)
    (t11 : a.tmps.getD 11 undef = iv)
    (HL : ∀ W, (Builtin.len_ #[23] 3 #[lv]).run Try.prog W = .ok zv W) (HE : ∀ W, (eqGuard BinOp.lss 3 (Operand.tmp 106) (Operand.tmp 108) iv zv).run Try.prog W = .ok () W) (HB : ∀ W, (binOp BinOp.lss 3 iv zv).run Try.prog W = .ok (.bool true) W) (HO : (Instr.loadAt 39 xp).run Try.prog w = .ok ov w) (CS : Calls Try.prog 12 #[.pointer (some ⟨y, 0, none⟩), ov] w fun e w' => e = .returned (.bool true) ∧ Fin w')
    (G1 : ∀ W, (Instr.indexAt 23 (lv) (iv)).run Try.prog W = .ok (xp) W)
    (h : ∀ (a' : Act) (w' : World), Fin w' → a' = (((((((((((((a).put (some 106) (iv)).put (some 107) (lv)).put (some 108) (zv)).put (some 109) (.bool true)).put (some 110) (.bool true)).put (some 111) (.pointer (some ⟨y, 0, none⟩))).put (some 112) (lv)).put (some 113) (iv)).put (some 114) (xp)).put (some 115) (ov)).put (some 116) (.bool true)).put (some 117) (.bool false)).put (some 118) (.bool false) → Q .normal a' w') :
    (Code.region 18 tfork18t_ops false).wp Try.prog Q a w := by
  refine wp_region_list ?_
  change wpList _ _ _ [tfork18t_o0, tfork18t_o1, tfork18t_o2, tfork18t_o3, tfork18t_o4, tfork18t_o5, tfork18t_o6, tfork18t_o7, tfork18t_o8, tfork18t_o9, tfork18t_o10, tfork18t_o11, tfork18t_o12] _ _
  refine qv (v := iv) (by rfl) (exec_move rfl t11) (fun a0 e0 => ?_)
  rw [← e0] at h
  have z0 := pz e0 hsz
  replace t9 := pk e0 t9
  replace t2 := pk e0 t2
  replace t11 := pk e0 t11
  have t106 := pq e0 hsz
  clear e0 hsz
  refine qv (v := lv) (by rfl) (exec_move rfl t2) (fun a1 e1 => ?_)
  rw [← e1] at h
  have z1 := pz e1 z0
  replace t9 := pk e1 t9
  replace t2 := pk e1 t2
  replace t11 := pk e1 t11
  replace t106 := pk e1 t106
  have t107 := pq e1 z0
  clear e1 z0
  refine qk (v := zv) (by rfl) (exec_len rfl t107 (HL _)) (fun a2 e2 => ?_)
  rw [← e2] at h
  have z2 := pz e2 z1
  replace t9 := pk e2 t9
  replace t2 := pk e2 t2
  replace t11 := pk e2 t11
  replace t106 := pk e2 t106
  clear t107
  have t108 := pq e2 z1
  clear e2 z1
  refine qv (v := .bool true) (by rfl) (exec_binOp rfl t106 t108 (HE _) (HB _)) (fun a3 e3 => ?_)
  rw [← e3] at h
  have z3 := pz e3 z2
  replace t9 := pk e3 t9
  replace t2 := pk e3 t2
  replace t11 := pk e3 t11
  clear t106 t108
  have t109 := pq e3 z2
  clear e3 z2
  refine qv (v := .bool true) (by rfl) (exec_move rfl t109) (fun a4 e4 => ?_)
  rw [← e4] at h
  have z4 := pz e4 z3
  replace t9 := pk e4 t9
  replace t2 := pk e4 t2
  replace t11 := pk e4 t11
  clear t109
  have t110 := pq e4 z3
  clear e4 z3
  refine qv (v := .pointer (some ⟨y, 0, none⟩)) (by simp [Region.wanted, yielded, tfork18t_ops, tfork18t_o5, tfork18t_o4, tget z4 (by decide) t110]) (exec_move rfl t9) (fun a5 e5 => ?_)
  rw [← e5] at h
  have z5 := pz e5 z4
  replace t2 := pk e5 t2
  replace t11 := pk e5 t11
  replace t110 := pk e5 t110
  clear t9
  have t111 := pq e5 z4
  clear e5 z4
  refine qv (v := lv) (by simp [Region.wanted, yielded, tfork18t_ops, tfork18t_o6, tfork18t_o4, tget z5 (by decide) t110]) (exec_move rfl t2) (fun a6 e6 => ?_)
  rw [← e6] at h
  have z6 := pz e6 z5
  replace t11 := pk e6 t11
  replace t110 := pk e6 t110
  replace t111 := pk e6 t111
  clear t2
  have t112 := pq e6 z5
  clear e6 z5
  refine qv (v := iv) (by simp [Region.wanted, yielded, tfork18t_ops, tfork18t_o7, tfork18t_o4, tget z6 (by decide) t110]) (exec_move rfl t11) (fun a7 e7 => ?_)
  rw [← e7] at h
  have z7 := pz e7 z6
  replace t110 := pk e7 t110
  replace t111 := pk e7 t111
  replace t112 := pk e7 t112
  clear t11
  have t113 := pq e7 z6
  clear e7 z6
  refine qv (v := xp) (by simp [Region.wanted, yielded, tfork18t_ops, tfork18t_o8, tfork18t_o4, tget z7 (by decide) t110]) (exec_indexAt rfl t112 t113 (G1 _)) (fun a8 e8 => ?_)
  rw [← e8] at h
  have z8 := pz e8 z7
  replace t110 := pk e8 t110
  replace t111 := pk e8 t111
  clear t112 t113
  have t114 := pq e8 z7
  clear e8 z7
  refine qv (v := ov) (by simp [Region.wanted, yielded, tfork18t_ops, tfork18t_o9, tfork18t_o4, tget z8 (by decide) t110]) (exec_load rfl t114 HO) (fun a9 e9 => ?_)
  rw [← e9] at h
  have z9 := pz e9 z8
  replace t110 := pk e9 t110
  replace t111 := pk e9 t111
  clear t114
  have t115 := pq e9 z8
  clear e9 z8
  refine qc (by simp [Region.wanted, yielded, tfork18t_ops, tfork18t_o10, tfork18t_o4, tget z9 (by decide) t110]) (by unfold tfork18t_o10; go_simp) (CS) (fun e x10 hx => ?_)
  obtain ⟨rfl, HF⟩ := hx
  refine ⟨_, rfl, fun a10 e10 => ?_⟩
  rw [← e10] at h
  have z10 := pz e10 z9
  replace t110 := pk e10 t110
  clear t111 t115
  have t116 := pq e10 z9
  clear e10 z9
  refine qv (v := .bool false) (by simp [Region.wanted, yielded, tfork18t_ops, tfork18t_o11, tfork18t_o4, tget z10 (by decide) t110]) (by unfold tfork18t_o11; go_simp) (fun a11 e11 => ?_)
  rw [← e11] at h
  have z11 := pz e11 z10
  replace t110 := pk e11 t110
  clear t116
  have t117 := pq e11 z10
  clear e11 z10
  refine qv (v := .bool false) (by rfl) (by unfold tfork18t_o12; go_simp) (fun a12 e12 => ?_)
  rw [← e12] at h
  have z12 := pz e12 z11
  clear t110 t117
  clear e12 z11
  exact wpList_nil (h _ _ (HF) rfl)
def tfork18f_o0 : Oper := ⟨some 106, .move (.tmp 11), 3, "law.go:170", #[], none⟩
def tfork18f_o1 : Oper := ⟨some 107, .move (.tmp 2), 23, "law.go:170", #[], none⟩
def tfork18f_o2 : Oper := ⟨some 108, .call { callee := Callee.builtin Builtin.len, args := #[.tmp 107], argTypes := #[23] }, 3, "law.go:170", #[⟨1, .data⟩], none⟩
def tfork18f_o3 : Oper := ⟨some 109, .binOp BinOp.lss 3 (.tmp 106) (.tmp 108) 3, 4, "law.go:170", #[⟨0, .data⟩, ⟨2, .data⟩], none⟩
def tfork18f_o4 : Oper := ⟨some 110, .move (.tmp 109), 4, "law.go:170", #[⟨3, .data⟩], none⟩
def tfork18f_o5 : Oper := ⟨some 111, .move (.tmp 9), 24, "law.go:170", #[⟨4, .guard⟩], some (4, true)⟩
def tfork18f_o6 : Oper := ⟨some 112, .move (.tmp 2), 23, "law.go:170", #[⟨4, .guard⟩], some (4, true)⟩
def tfork18f_o7 : Oper := ⟨some 113, .move (.tmp 11), 3, "law.go:170", #[⟨4, .guard⟩], some (4, true)⟩
def tfork18f_o8 : Oper := ⟨some 114, .indexAddr 23 (.tmp 112) (.tmp 113), 0, "law.go:170", #[⟨6, .data⟩, ⟨7, .data⟩, ⟨4, .guard⟩], some (4, true)⟩
def tfork18f_o9 : Oper := ⟨some 115, .load 39 (.tmp 114), 39, "law.go:170", #[⟨8, .data⟩, ⟨4, .guard⟩], some (4, true)⟩
def tfork18f_o10 : Oper := ⟨some 116, .call { callee := Callee.value (Operand.func 12), args := #[.tmp 111, .tmp 115], argTypes := #[24, 39] }, 4, "law.go:170", #[⟨5, .data⟩, ⟨9, .data⟩, ⟨4, .chain⟩, ⟨4, .guard⟩], some (4, true)⟩
def tfork18f_o11 : Oper := ⟨some 117, .unOp UnOp.not 4 (.tmp 116), 4, "law.go:170", #[⟨10, .data⟩, ⟨4, .guard⟩], some (4, true)⟩
def tfork18f_o12 : Oper := ⟨some 118, .pick (.tmp 110) (.tmp 117) (Operand.const (Value.bool false)), 4, "law.go:170", #[⟨4, .data⟩, ⟨11, .data⟩], none⟩
def tfork18f_ops : Array Oper := #[tfork18f_o0, tfork18f_o1, tfork18f_o2, tfork18f_o3, tfork18f_o4, tfork18f_o5, tfork18f_o6, tfork18f_o7, tfork18f_o8, tfork18f_o9, tfork18f_o10, tfork18f_o11, tfork18f_o12]
theorem tfork18f (y : Nat) (lv iv zv : Value) (a : Act) (w : World) (Q : Exit → Act → World → Prop) (hsz : a.tmps.size = 143)
    (t9 : a.tmps.getD 9 undef = .pointer (some ⟨y, 0, none⟩))
    (t2 : a.tmps.getD 2 undef = lv)
    (t11 : a.tmps.getD 11 undef = iv)
    (HL : ∀ W, (Builtin.len_ #[23] 3 #[lv]).run Try.prog W = .ok zv W) (HE : ∀ W, (eqGuard BinOp.lss 3 (Operand.tmp 106) (Operand.tmp 108) iv zv).run Try.prog W = .ok () W) (HB : ∀ W, (binOp BinOp.lss 3 iv zv).run Try.prog W = .ok (.bool false) W)
    (h : ∀ (a' : Act) (w' : World), w' = w → a' = (((((((((((((a).put (some 106) (iv)).put (some 107) (lv)).put (some 108) (zv)).put (some 109) (.bool false)).put (some 110) (.bool false)).put (some 111) (undef)).put (some 112) (undef)).put (some 113) (undef)).put (some 114) (undef)).put (some 115) (undef)).put (some 116) (undef)).put (some 117) (undef)).put (some 118) (.bool false) → Q .normal a' w') :
    (Code.region 18 tfork18f_ops false).wp Try.prog Q a w := by
  refine wp_region_list ?_
  change wpList _ _ _ [tfork18f_o0, tfork18f_o1, tfork18f_o2, tfork18f_o3, tfork18f_o4, tfork18f_o5, tfork18f_o6, tfork18f_o7, tfork18f_o8, tfork18f_o9, tfork18f_o10, tfork18f_o11, tfork18f_o12] _ _
  refine qv (v := iv) (by rfl) (exec_move rfl t11) (fun a0 e0 => ?_)
  rw [← e0] at h
  have z0 := pz e0 hsz
  replace t9 := pk e0 t9
  replace t2 := pk e0 t2
  replace t11 := pk e0 t11
  have t106 := pq e0 hsz
  clear e0 hsz
  refine qv (v := lv) (by rfl) (exec_move rfl t2) (fun a1 e1 => ?_)
  rw [← e1] at h
  have z1 := pz e1 z0
  replace t9 := pk e1 t9
  replace t2 := pk e1 t2
  replace t11 := pk e1 t11
  replace t106 := pk e1 t106
  have t107 := pq e1 z0
  clear e1 z0
  refine qk (v := zv) (by rfl) (exec_len rfl t107 (HL _)) (fun a2 e2 => ?_)
  rw [← e2] at h
  have z2 := pz e2 z1
  replace t9 := pk e2 t9
  replace t2 := pk e2 t2
  replace t11 := pk e2 t11
  replace t106 := pk e2 t106
  clear t107
  have t108 := pq e2 z1
  clear e2 z1
  refine qv (v := .bool false) (by rfl) (exec_binOp rfl t106 t108 (HE _) (HB _)) (fun a3 e3 => ?_)
  rw [← e3] at h
  have z3 := pz e3 z2
  replace t9 := pk e3 t9
  replace t2 := pk e3 t2
  replace t11 := pk e3 t11
  clear t106 t108
  have t109 := pq e3 z2
  clear e3 z2
  refine qv (v := .bool false) (by rfl) (exec_move rfl t109) (fun a4 e4 => ?_)
  rw [← e4] at h
  have z4 := pz e4 z3
  replace t9 := pk e4 t9
  replace t2 := pk e4 t2
  replace t11 := pk e4 t11
  clear t109
  have t110 := pq e4 z3
  clear e4 z3
  refine qn (by simp [Region.wanted, yielded, tfork18f_ops, tfork18f_o5, tfork18f_o4, tget z4 (by decide) t110]) (fun a5 e5 => ?_)
  rw [← e5] at h
  have z5 := pz e5 z4
  replace t2 := pk e5 t2
  replace t11 := pk e5 t11
  replace t110 := pk e5 t110
  clear t9
  have t111 := pq e5 z4
  clear e5 z4
  refine qn (by simp [Region.wanted, yielded, tfork18f_ops, tfork18f_o6, tfork18f_o4, tget z5 (by decide) t110]) (fun a6 e6 => ?_)
  rw [← e6] at h
  have z6 := pz e6 z5
  replace t11 := pk e6 t11
  replace t110 := pk e6 t110
  replace t111 := pk e6 t111
  clear t2
  have t112 := pq e6 z5
  clear e6 z5
  refine qn (by simp [Region.wanted, yielded, tfork18f_ops, tfork18f_o7, tfork18f_o4, tget z6 (by decide) t110]) (fun a7 e7 => ?_)
  rw [← e7] at h
  have z7 := pz e7 z6
  replace t110 := pk e7 t110
  replace t111 := pk e7 t111
  replace t112 := pk e7 t112
  clear t11
  have t113 := pq e7 z6
  clear e7 z6
  refine qn (by simp [Region.wanted, yielded, tfork18f_ops, tfork18f_o8, tfork18f_o4, tget z7 (by decide) t110]) (fun a8 e8 => ?_)
  rw [← e8] at h
  have z8 := pz e8 z7
  replace t110 := pk e8 t110
  replace t111 := pk e8 t111
  clear t112 t113
  have t114 := pq e8 z7
  clear e8 z7
  refine qn (by simp [Region.wanted, yielded, tfork18f_ops, tfork18f_o9, tfork18f_o4, tget z8 (by decide) t110]) (fun a9 e9 => ?_)
  rw [← e9] at h
  have z9 := pz e9 z8
  replace t110 := pk e9 t110
  replace t111 := pk e9 t111
  clear t114
  have t115 := pq e9 z8
  clear e9 z8
  refine qn (by simp [Region.wanted, yielded, tfork18f_ops, tfork18f_o10, tfork18f_o4, tget z9 (by decide) t110]) (fun a10 e10 => ?_)
  rw [← e10] at h
  have z10 := pz e10 z9
  replace t110 := pk e10 t110
  clear t111 t115
  have t116 := pq e10 z9
  clear e10 z9
  refine qn (by simp [Region.wanted, yielded, tfork18f_ops, tfork18f_o11, tfork18f_o4, tget z10 (by decide) t110]) (fun a11 e11 => ?_)
  rw [← e11] at h
  have z11 := pz e11 z10
  replace t110 := pk e11 t110
  clear t116
  have t117 := pq e11 z10
  clear e11 z10
  refine qv (v := .bool false) (by rfl) (by unfold tfork18f_o12; go_simp) (fun a12 e12 => ?_)
  rw [← e12] at h
  have z12 := pz e12 z11
  clear t110 t117
  clear e12 z11
  exact wpList_nil (h _ _ (rfl) rfl)
def tfork20_o0 : Oper := ⟨some 119, .move (.tmp 7), 24, "law.go:173", #[], none⟩
def tfork20_o1 : Oper := ⟨some 120, .nilCheck (.tmp 119), 0, "law.go:173", #[⟨0, .data⟩], none⟩
def tfork20_o2 : Oper := ⟨some 121, .fieldAddr 32 (.tmp 120) 0, 0, "law.go:173", #[⟨1, .data⟩], none⟩
def tfork20_o3 : Oper := ⟨some 122, .load 25 (.tmp 121), 25, "law.go:173", #[⟨2, .data⟩], none⟩
def tfork20_o4 : Oper := ⟨some 123, .move (.tmp 7), 24, "law.go:173", #[], none⟩
def tfork20_o5 : Oper := ⟨some 124, .nilCheck (.tmp 123), 0, "law.go:173", #[⟨4, .data⟩], none⟩
def tfork20_o6 : Oper := ⟨some 125, .fieldAddr 32 (.tmp 124) 1, 0, "law.go:173", #[⟨5, .data⟩], none⟩
def tfork20_o7 : Oper := ⟨some 126, .load 27 (.tmp 125), 27, "law.go:173", #[⟨6, .data⟩], none⟩
def tfork20_o8 : Oper := ⟨some 127, .move (.tmp 10), 41, "law.go:173", #[], none⟩
def tfork20_o9 : Oper := ⟨some 128, .call { callee := Callee.value (Operand.func 13), args := #[.tmp 122, .tmp 126, .tmp 127], argTypes := #[25, 27, 41] }, 4, "law.go:173", #[⟨3, .data⟩, ⟨7, .data⟩, ⟨8, .data⟩], none⟩
def tfork20_o10 : Oper := ⟨some 129, .unOp UnOp.not 4 (.tmp 128), 4, "law.go:173", #[⟨9, .data⟩], none⟩
def tfork20_o11 : Oper := ⟨some 130, .move (.tmp 129), 4, "law.go:173", #[⟨10, .data⟩, ⟨9, .chain⟩], none⟩
def tfork20_o12 : Oper := ⟨some 131, .move (.tmp 9), 24, "law.go:173", #[⟨11, .guard⟩], some (11, false)⟩
def tfork20_o13 : Oper := ⟨some 132, .nilCheck (.tmp 131), 0, "law.go:173", #[⟨12, .data⟩, ⟨11, .guard⟩], some (11, false)⟩
def tfork20_o14 : Oper := ⟨some 133, .fieldAddr 32 (.tmp 132) 0, 0, "law.go:173", #[⟨13, .data⟩, ⟨11, .guard⟩], some (11, false)⟩
def tfork20_o15 : Oper := ⟨some 134, .load 25 (.tmp 133), 25, "law.go:173", #[⟨14, .data⟩, ⟨11, .guard⟩], some (11, false)⟩
def tfork20_o16 : Oper := ⟨some 135, .move (.tmp 9), 24, "law.go:173", #[⟨11, .guard⟩], some (11, false)⟩
def tfork20_o17 : Oper := ⟨some 136, .nilCheck (.tmp 135), 0, "law.go:173", #[⟨16, .data⟩, ⟨11, .guard⟩], some (11, false)⟩
def tfork20_o18 : Oper := ⟨some 137, .fieldAddr 32 (.tmp 136) 1, 0, "law.go:173", #[⟨17, .data⟩, ⟨11, .guard⟩], some (11, false)⟩
def tfork20_o19 : Oper := ⟨some 138, .load 27 (.tmp 137), 27, "law.go:173", #[⟨18, .data⟩, ⟨11, .guard⟩], some (11, false)⟩
def tfork20_o20 : Oper := ⟨some 139, .move (.tmp 10), 41, "law.go:173", #[⟨11, .guard⟩], some (11, false)⟩
def tfork20_o21 : Oper := ⟨some 140, .call { callee := Callee.value (Operand.func 13), args := #[.tmp 134, .tmp 138, .tmp 139], argTypes := #[25, 27, 41] }, 4, "law.go:173", #[⟨15, .data⟩, ⟨19, .data⟩, ⟨20, .data⟩, ⟨11, .chain⟩, ⟨11, .guard⟩], some (11, false)⟩
def tfork20_o22 : Oper := ⟨some 141, .unOp UnOp.not 4 (.tmp 140), 4, "law.go:173", #[⟨21, .data⟩, ⟨11, .guard⟩], some (11, false)⟩
def tfork20_o23 : Oper := ⟨some 142, .pick (.tmp 130) (Operand.const (Value.bool true)) (.tmp 141), 4, "law.go:173", #[⟨11, .data⟩, ⟨22, .data⟩], none⟩
def tfork20_ops : Array Oper := #[tfork20_o0, tfork20_o1, tfork20_o2, tfork20_o3, tfork20_o4, tfork20_o5, tfork20_o6, tfork20_o7, tfork20_o8, tfork20_o9, tfork20_o10, tfork20_o11, tfork20_o12, tfork20_o13, tfork20_o14, tfork20_o15, tfork20_o16, tfork20_o17, tfork20_o18, tfork20_o19, tfork20_o20, tfork20_o21, tfork20_o22, tfork20_o23]
theorem tfork20 (S Fin : World → Prop) (x y : Nat) (tv dv sv ev iv : Value) (a : Act) (w : World) (Q : Exit → Act → World → Prop) (hsz : a.tmps.size = 143)
    (t7 : a.tmps.getD 7 undef = .pointer (some ⟨x, 0, none⟩))
    (t9 : a.tmps.getD 9 undef = .pointer (some ⟨y, 0, none⟩))
    (t10 : a.tmps.getD 10 undef = iv)
    (h0 : S w.drew) (CA : Calls Try.prog 13 #[tv, dv, iv] w.drew fun e w' => e = .returned (.bool true) ∧ S w' ∧ Calls Try.prog 13 #[sv, ev, iv] w' fun e w' => e = .returned (.bool true) ∧ S w' ∧ Fin w')
    (G1 : ∀ W, S W → (Instr.loadAt 25 (.pointer (some ⟨x, 0 + 0, none⟩))).run Try.prog W = .ok (tv) W)
    (G2 : ∀ W, S W → (Instr.loadAt 27 (.pointer (some ⟨x, 0 + 1, none⟩))).run Try.prog W = .ok (dv) W)
    (G3 : ∀ W, S W → (Instr.loadAt 25 (.pointer (some ⟨y, 0 + 0, none⟩))).run Try.prog W = .ok (sv) W)
    (G4 : ∀ W, S W → (Instr.loadAt 27 (.pointer (some ⟨y, 0 + 1, none⟩))).run Try.prog W = .ok (ev) W)
    (h : ∀ (a' : Act) (w' : World), Fin w' → a' = ((((((((((((((((((((((((a).put (some 119) (.pointer (some ⟨x, 0, none⟩))).put (some 120) (.pointer (some ⟨x, 0, none⟩))).put (some 121) (.pointer (some ⟨x, 0 + 0, none⟩))).put (some 122) (tv)).put (some 123) (.pointer (some ⟨x, 0, none⟩))).put (some 124) (.pointer (some ⟨x, 0, none⟩))).put (some 125) (.pointer (some ⟨x, 0 + 1, none⟩))).put (some 126) (dv)).put (some 127) (iv)).put (some 128) (.bool true)).put (some 129) (.bool false)).put (some 130) (.bool false)).put (some 131) (.pointer (some ⟨y, 0, none⟩))).put (some 132) (.pointer (some ⟨y, 0, none⟩))).put (some 133) (.pointer (some ⟨y, 0 + 0, none⟩))).put (some 134) (sv)).put (some 135) (.pointer (some ⟨y, 0, none⟩))).put (some 136) (.pointer (some ⟨y, 0, none⟩))).put (some 137) (.pointer (some ⟨y, 0 + 1, none⟩))).put (some 138) (ev)).put (some 139) (iv)).put (some 140) (.bool true)).put (some 141) (.bool false)).put (some 142) (.bool false) → Q .normal a' w') :
    (Code.region 20 tfork20_ops true).wp Try.prog Q a w := by
  refine wp_region_noPanic ?_
  refine wp_region_held_drew (S := fun w' => S w') (by kernel_rfl) (h0) (fun hHeld => ?_)
  refine tk 0 tfork20_o0 (.pointer (some ⟨x, 0, none⟩)) (by rfl) (fun w1 hw => exec_move rfl t7) hHeld (fun a1 e1 => ?_)
  rw [← e1] at h
  have z1 := pz e1 hsz
  replace t7 := pk e1 t7
  replace t9 := pk e1 t9
  replace t10 := pk e1 t10
  have t119 := pq e1 hsz
  clear e1 hsz
  refine tk 1 tfork20_o1 (.pointer (some ⟨x, 0, none⟩)) (by rfl) (fun w1 hw => exec_nilCheck rfl t119) hHeld (fun a2 e2 => ?_)
  rw [← e2] at h
  have z2 := pz e2 z1
  replace t7 := pk e2 t7
  replace t9 := pk e2 t9
  replace t10 := pk e2 t10
  clear t119
  have t120 := pq e2 z1
  clear e2 z1
  refine tk 2 tfork20_o2 (.pointer (some ⟨x, 0 + 0, none⟩)) (by rfl) (fun w1 hw => exec_fieldAt rfl t120 (fg_32_0 _ _ _)) hHeld (fun a3 e3 => ?_)
  rw [← e3] at h
  have z3 := pz e3 z2
  replace t7 := pk e3 t7
  replace t9 := pk e3 t9
  replace t10 := pk e3 t10
  clear t120
  have t121 := pq e3 z2
  clear e3 z2
  refine tk 3 tfork20_o3 (tv) (by rfl) (fun w1 hw => exec_load rfl t121 (G1 _ hw)) hHeld (fun a4 e4 => ?_)
  rw [← e4] at h
  have z4 := pz e4 z3
  replace t7 := pk e4 t7
  replace t9 := pk e4 t9
  replace t10 := pk e4 t10
  clear t121
  have t122 := pq e4 z3
  clear e4 z3
  refine tk 4 tfork20_o4 (.pointer (some ⟨x, 0, none⟩)) (by rfl) (fun w1 hw => exec_move rfl t7) hHeld (fun a5 e5 => ?_)
  rw [← e5] at h
  have z5 := pz e5 z4
  replace t9 := pk e5 t9
  replace t10 := pk e5 t10
  replace t122 := pk e5 t122
  clear t7
  have t123 := pq e5 z4
  clear e5 z4
  refine tk 5 tfork20_o5 (.pointer (some ⟨x, 0, none⟩)) (by rfl) (fun w1 hw => exec_nilCheck rfl t123) hHeld (fun a6 e6 => ?_)
  rw [← e6] at h
  have z6 := pz e6 z5
  replace t9 := pk e6 t9
  replace t10 := pk e6 t10
  replace t122 := pk e6 t122
  clear t123
  have t124 := pq e6 z5
  clear e6 z5
  refine tk 6 tfork20_o6 (.pointer (some ⟨x, 0 + 1, none⟩)) (by rfl) (fun w1 hw => exec_fieldAt rfl t124 (fg_32_1 _ _ _)) hHeld (fun a7 e7 => ?_)
  rw [← e7] at h
  have z7 := pz e7 z6
  replace t9 := pk e7 t9
  replace t10 := pk e7 t10
  replace t122 := pk e7 t122
  clear t124
  have t125 := pq e7 z6
  clear e7 z6
  refine tk 7 tfork20_o7 (dv) (by rfl) (fun w1 hw => exec_load rfl t125 (G2 _ hw)) hHeld (fun a8 e8 => ?_)
  rw [← e8] at h
  have z8 := pz e8 z7
  replace t9 := pk e8 t9
  replace t10 := pk e8 t10
  replace t122 := pk e8 t122
  clear t125
  have t126 := pq e8 z7
  clear e8 z7
  refine tk 8 tfork20_o8 (iv) (by rfl) (fun w1 hw => exec_move rfl t10) hHeld (fun a9 e9 => ?_)
  rw [← e9] at h
  have z9 := pz e9 z8
  replace t9 := pk e9 t9
  replace t10 := pk e9 t10
  replace t122 := pk e9 t122
  replace t126 := pk e9 t126
  have t127 := pq e9 z8
  clear e9 z8
  refine wpAnyH_ready (rs := [9]) (by kernel_rfl) (by simp) ?_
  refine AllReadyH.cons (o := tfork20_o9) rfl (fun K hK => ?_) AllReadyH.nil
  rw [if_pos (by rfl)]
  unfold tfork20_o9 at hK ⊢
  go_simp
  refine (CA).mono ?_
  rintro e x10 ⟨rfl, hs, CB⟩
  try go_wp2_with fail
  skip
  refine hK.out _ _ (hs) (fun hHeld => ?_)
  clear hK K
  change wpAnyH _ _ _ _ _ _ _ (a9.put (some 128) (.bool true)) _
  obtain ⟨a10, e10⟩ : ∃ act, act = a9.put (some 128) (.bool true) := ⟨_, rfl⟩
  rw [← e10] at h ⊢
  have z10 := pz e10 z9
  replace t9 := pk e10 t9
  replace t10 := pk e10 t10
  clear t122 t126 t127
  have t128 := pq e10 z9
  clear e10 z9
  refine tk 10 tfork20_o10 (.bool false) (by rfl) (fun w1 hw => by unfold tfork20_o10; go_simp) hHeld (fun a11 e11 => ?_)
  rw [← e11] at h
  have z11 := pz e11 z10
  replace t9 := pk e11 t9
  replace t10 := pk e11 t10
  clear t128
  have t129 := pq e11 z10
  clear e11 z10
  refine tk 11 tfork20_o11 (.bool false) (by rfl) (fun w1 hw => exec_move rfl t129) hHeld (fun a12 e12 => ?_)
  rw [← e12] at h
  have z12 := pz e12 z11
  replace t9 := pk e12 t9
  replace t10 := pk e12 t10
  clear t129
  have t130 := pq e12 z11
  clear e12 z11
  refine tk 12 tfork20_o12 (.pointer (some ⟨y, 0, none⟩)) (by simp [Region.wanted, yielded, tfork20_ops, tfork20_o12, tfork20_o11, tget z12 (by decide) t130]) (fun w1 hw => exec_move rfl t9) hHeld (fun a13 e13 => ?_)
  rw [← e13] at h
  have z13 := pz e13 z12
  replace t9 := pk e13 t9
  replace t10 := pk e13 t10
  replace t130 := pk e13 t130
  have t131 := pq e13 z12
  clear e13 z12
  refine tk 13 tfork20_o13 (.pointer (some ⟨y, 0, none⟩)) (by simp [Region.wanted, yielded, tfork20_ops, tfork20_o13, tfork20_o11, tget z13 (by decide) t130]) (fun w1 hw => exec_nilCheck rfl t131) hHeld (fun a14 e14 => ?_)
  rw [← e14] at h
  have z14 := pz e14 z13
  replace t9 := pk e14 t9
  replace t10 := pk e14 t10
  replace t130 := pk e14 t130
  clear t131
  have t132 := pq e14 z13
  clear e14 z13
  refine tk 14 tfork20_o14 (.pointer (some ⟨y, 0 + 0, none⟩)) (by simp [Region.wanted, yielded, tfork20_ops, tfork20_o14, tfork20_o11, tget z14 (by decide) t130]) (fun w1 hw => exec_fieldAt rfl t132 (fg_32_0 _ _ _)) hHeld (fun a15 e15 => ?_)
  rw [← e15] at h
  have z15 := pz e15 z14
  replace t9 := pk e15 t9
  replace t10 := pk e15 t10
  replace t130 := pk e15 t130
  clear t132
  have t133 := pq e15 z14
  clear e15 z14
  refine tk 15 tfork20_o15 (sv) (by simp [Region.wanted, yielded, tfork20_ops, tfork20_o15, tfork20_o11, tget z15 (by decide) t130]) (fun w1 hw => exec_load rfl t133 (G3 _ hw)) hHeld (fun a16 e16 => ?_)
  rw [← e16] at h
  have z16 := pz e16 z15
  replace t9 := pk e16 t9
  replace t10 := pk e16 t10
  replace t130 := pk e16 t130
  clear t133
  have t134 := pq e16 z15
  clear e16 z15
  refine tk 16 tfork20_o16 (.pointer (some ⟨y, 0, none⟩)) (by simp [Region.wanted, yielded, tfork20_ops, tfork20_o16, tfork20_o11, tget z16 (by decide) t130]) (fun w1 hw => exec_move rfl t9) hHeld (fun a17 e17 => ?_)
  rw [← e17] at h
  have z17 := pz e17 z16
  replace t10 := pk e17 t10
  replace t130 := pk e17 t130
  replace t134 := pk e17 t134
  clear t9
  have t135 := pq e17 z16
  clear e17 z16
  refine tk 17 tfork20_o17 (.pointer (some ⟨y, 0, none⟩)) (by simp [Region.wanted, yielded, tfork20_ops, tfork20_o17, tfork20_o11, tget z17 (by decide) t130]) (fun w1 hw => exec_nilCheck rfl t135) hHeld (fun a18 e18 => ?_)
  rw [← e18] at h
  have z18 := pz e18 z17
  replace t10 := pk e18 t10
  replace t130 := pk e18 t130
  replace t134 := pk e18 t134
  clear t135
  have t136 := pq e18 z17
  clear e18 z17
  refine tk 18 tfork20_o18 (.pointer (some ⟨y, 0 + 1, none⟩)) (by simp [Region.wanted, yielded, tfork20_ops, tfork20_o18, tfork20_o11, tget z18 (by decide) t130]) (fun w1 hw => exec_fieldAt rfl t136 (fg_32_1 _ _ _)) hHeld (fun a19 e19 => ?_)
  rw [← e19] at h
  have z19 := pz e19 z18
  replace t10 := pk e19 t10
  replace t130 := pk e19 t130
  replace t134 := pk e19 t134
  clear t136
  have t137 := pq e19 z18
  clear e19 z18
  refine tk 19 tfork20_o19 (ev) (by simp [Region.wanted, yielded, tfork20_ops, tfork20_o19, tfork20_o11, tget z19 (by decide) t130]) (fun w1 hw => exec_load rfl t137 (G4 _ hw)) hHeld (fun a20 e20 => ?_)
  rw [← e20] at h
  have z20 := pz e20 z19
  replace t10 := pk e20 t10
  replace t130 := pk e20 t130
  replace t134 := pk e20 t134
  clear t137
  have t138 := pq e20 z19
  clear e20 z19
  refine tk 20 tfork20_o20 (iv) (by simp [Region.wanted, yielded, tfork20_ops, tfork20_o20, tfork20_o11, tget z20 (by decide) t130]) (fun w1 hw => exec_move rfl t10) hHeld (fun a21 e21 => ?_)
  rw [← e21] at h
  have z21 := pz e21 z20
  replace t130 := pk e21 t130
  replace t134 := pk e21 t134
  replace t138 := pk e21 t138
  clear t10
  have t139 := pq e21 z20
  clear e21 z20
  refine wpAnyH_ready (rs := [21]) (by kernel_rfl) (by simp) ?_
  refine AllReadyH.cons (o := tfork20_o21) rfl (fun K hK => ?_) AllReadyH.nil
  rw [if_pos (by simp [Region.wanted, yielded, tfork20_ops, tfork20_o21, tfork20_o11, tget z21 (by decide) t130])]
  unfold tfork20_o21 at hK ⊢
  go_simp
  refine (CB).mono ?_
  rintro e x22 ⟨rfl, hs2, HF⟩
  try go_wp2_with fail
  skip
  refine hK.out _ _ (hs2) (fun hHeld => ?_)
  clear hK K
  change wpAnyH _ _ _ _ _ _ _ (a21.put (some 140) (.bool true)) _
  obtain ⟨a22, e22⟩ : ∃ act, act = a21.put (some 140) (.bool true) := ⟨_, rfl⟩
  rw [← e22] at h ⊢
  have z22 := pz e22 z21
  replace t130 := pk e22 t130
  clear t134 t138 t139
  have t140 := pq e22 z21
  clear e22 z21
  refine tk 22 tfork20_o22 (.bool false) (by simp [Region.wanted, yielded, tfork20_ops, tfork20_o22, tfork20_o11, tget z22 (by decide) t130]) (fun w1 hw => by unfold tfork20_o22; go_simp) hHeld (fun a23 e23 => ?_)
  rw [← e23] at h
  have z23 := pz e23 z22
  replace t130 := pk e23 t130
  clear t140
  have t141 := pq e23 z22
  clear e23 z22
  refine tk 23 tfork20_o23 (.bool false) (by rfl) (fun w1 hw => by unfold tfork20_o23; go_simp) hHeld (fun a24 e24 => ?_)
  rw [← e24] at h
  have z24 := pz e24 z23
  clear t130 t141
  clear e24 z23
  exact wpAnyH_done (by kernel_rfl) (NoPanic.normal (h _ _ (HF) rfl)) _
def rlies5_o0 : Oper := ⟨some 22, .move (.tmp 7), 41, "ref.go:100", #[], none⟩
def rlies5_o1 : Oper := ⟨some 23, .move (.tmp 9), 3, "ref.go:100", #[], none⟩
def rlies5_o2 : Oper := ⟨some 24, .indexAddr 41 (.tmp 22) (.tmp 23), 0, "ref.go:100", #[⟨0, .data⟩, ⟨1, .data⟩], none⟩
def rlies5_o3 : Oper := ⟨some 25, .load 37 (.tmp 24), 37, "ref.go:100", #[⟨2, .data⟩], none⟩
def rlies5_o4 : Oper := ⟨some 26, .load 37 (.tmp 5), 37, "ref.go:100", #[], none⟩
def rlies5_o5 : Oper := ⟨some 27, .binOp BinOp.eql 37 (.tmp 25) (.tmp 26) 37, 4, "ref.go:100", #[⟨3, .data⟩, ⟨4, .data⟩], none⟩
def rlies5_ops : Array Oper := #[rlies5_o0, rlies5_o1, rlies5_o2, rlies5_o3, rlies5_o4, rlies5_o5]
theorem rlies5 (b p bu : Nat) (lv iv xv uv : Value) (eb : Bool) (a : Act) (w : World) (Q : Exit → Act → World → Prop) (hsz : a.tmps.size = 28)
    (t7 : a.tmps.getD 7 undef = lv)
    (t9 : a.tmps.getD 9 undef = iv)
    (t5 : a.tmps.getD 5 undef = .pointer (some ⟨bu, 0, none⟩))
    (G1 : ∀ W, (Instr.indexAt 41 (lv) (iv)).run Try.prog W = .ok (.pointer (some ⟨b, p, none⟩)) W)
    (G2 : ∀ W, W = w.drew → (Instr.loadAt 37 (.pointer (some ⟨b, p, none⟩))).run Try.prog W = .ok (xv) W)
    (G3 : ∀ W, W = w.drew → (Instr.loadAt 37 (.pointer (some ⟨bu, 0, none⟩))).run Try.prog W = .ok (uv) W)
    (G4 : ∀ W, (eqGuard BinOp.eql 37 (Operand.tmp 25) (Operand.tmp 26) (xv) (uv)).run Try.prog W = .ok () W)
    (G5 : ∀ W, W = w.drew → (binOp BinOp.eql 37 (xv) (uv)).run Try.prog W = .ok (.bool eb) W)
    (h : ∀ (a' : Act) (w' : World), w' = w.drew → a' = ((((((a).put (some 22) (lv)).put (some 23) (iv)).put (some 24) (.pointer (some ⟨b, p, none⟩))).put (some 25) (xv)).put (some 26) (uv)).put (some 27) (.bool eb) → Q .normal a' w') :
    (Code.region 5 rlies5_ops true).wp Try.prog Q a w := by
  refine wp_region_noPanic ?_
  refine wp_region_held_drew (S := fun w' => w' = w.drew) (by kernel_rfl) (rfl) (fun hHeld => ?_)
  refine tk 0 rlies5_o0 (lv) (by rfl) (fun w1 hw => exec_move rfl t7) hHeld (fun a1 e1 => ?_)
  rw [← e1] at h
  have z1 := pz e1 hsz
  clear t7
  replace t9 := pk e1 t9
  replace t5 := pk e1 t5
  have t22 := pq e1 hsz
  clear e1 hsz
  refine tk 1 rlies5_o1 (iv) (by rfl) (fun w1 hw => exec_move rfl t9) hHeld (fun a2 e2 => ?_)
  rw [← e2] at h
  have z2 := pz e2 z1
  clear t9
  replace t5 := pk e2 t5
  replace t22 := pk e2 t22
  have t23 := pq e2 z1
  clear e2 z1
  refine tk 2 rlies5_o2 (.pointer (some ⟨b, p, none⟩)) (by rfl) (fun w1 hw => exec_indexAt rfl t22 t23 (G1 _)) hHeld (fun a3 e3 => ?_)
  rw [← e3] at h
  have z3 := pz e3 z2
  replace t5 := pk e3 t5
  clear t22
  clear t23
  have t24 := pq e3 z2
  clear e3 z2
  refine tk 3 rlies5_o3 (xv) (by rfl) (fun w1 hw => exec_load rfl t24 (G2 _ hw)) hHeld (fun a4 e4 => ?_)
  rw [← e4] at h
  have z4 := pz e4 z3
  replace t5 := pk e4 t5
  clear t24
  have t25 := pq e4 z3
  clear e4 z3
  refine tk 4 rlies5_o4 (uv) (by rfl) (fun w1 hw => exec_load rfl t5 (G3 _ hw)) hHeld (fun a5 e5 => ?_)
  rw [← e5] at h
  have z5 := pz e5 z4
  clear t5
  replace t25 := pk e5 t25
  have t26 := pq e5 z4
  clear e5 z4
  refine tk 5 rlies5_o5 (.bool eb) (by rfl) (fun w1 hw => exec_binOp rfl t25 t26 (G4 _) (G5 _ hw)) hHeld (fun a6 e6 => ?_)
  rw [← e6] at h
  have z6 := pz e6 z5
  clear t25
  clear t26
  clear e6 z5
  exact wpAnyH_done (by kernel_rfl) (NoPanic.normal (h _ _ (hHeld) rfl)) _
set_option maxHeartbeats 1000000 in
theorem rcmp_any (a b : List UInt8) (ha : a.length = 32) (hb : b.length = 32) (w : World) :
    Calls Try.prog 93 #[.agg (bs a), .agg (bs b)] w fun e w' => e = .returned (.int .i64 (cmpL a b)) ∧ Below w.heap.size w w' := by
  have be0 : Below w.heap.size w ((w.alloc (.cells (bs a) 35)).alloc (.cells (bs b) 35)) := ((Below.refl _ _).alloc (Nat.le_refl _) _).alloc (by simp) _
  have g0 : ((w.alloc (.cells (bs a) 35)).alloc (.cells (bs b) 35)).heap[w.heap.size]? = some (.cells (bs a) 35 (0, 0)) := heap_alloc2_old _ _ _
  have g1 : ((w.alloc (.cells (bs a) 35)).alloc (.cells (bs b) 35)).heap[w.heap.size + 1]? = some (.cells (bs b) 35 (0, 0)) := heap_alloc2_new _ _ _
  go_enter Try.func93, Try.ntmps93
  go_wp2
  generalize ((w.alloc (.cells (bs a) 35)).alloc (.cells (bs b) 35)) = W0 at *
  go_loopw [5] (fun i wr => ∃ k : Nat, k ≤ 32 ∧ i = .int .i64 k ∧ Hid (∀ j, j < k → at8 a j = at8 b j) ∧ ∃ m, wr = W0.drewN m) (fun i _ => 32 - (intOf i).toNat)
  case atStart => exact ⟨0, by omega, rfl, (fun j hj => by omega : ∀ j, j < 0 → at8 a j = at8 b j), 0, rfl⟩
  case round =>
    obtain ⟨k, hk, rfl, hsame, m, rfl⟩ := hrel
    by_cases hlt : k < 32
    · have ca := (cell_of_row W0 w.heap.size k _ _ _ g0).trans (bs_get a k (by omega))
      have cb := (cell_of_row W0 (w.heap.size + 1) k _ _ _ g1).trans (bs_get b k (by omega))
      have HL := cmpL_at a b k (by omega) (by omega) hsame.out
      have HL1 : Hid ((at8 a k < at8 b k → cmpL a b = -1) ∧ (at8 b k < at8 a k → cmpL a b = 1)) := HL
      clear HL
      have hlt' : (k : Int) < 32 := by omega
      by_cases h1 : at8 a k < at8 b k
      · go_wp2
        go_quiet (fail)
        go_wp2
        go_ret
        exact ⟨ret_int (HL1.out.1 h1).symm, below_drewN (below_drewN be0 _) _⟩
      · by_cases h2 : at8 b k < at8 a k
        · go_wp2
          go_quiet (fail)
          go_wp2
          go_quiet (fail)
          go_wp2
          go_ret
          exact ⟨ret_int (HL1.out.2 h2).symm, below_drewN (below_drewN (below_drewN be0 _) _) _⟩
        · go_wp2
          go_quiet (fail)
          go_wp2
          go_quiet (fail)
          go_wp2
          refine ⟨⟨k + 1, by omega, by go_num, ?_, _, rfl⟩, by simp [intOf]; omega⟩
          show ∀ j, j < k + 1 → at8 a j = at8 b j
          intro j hj
          by_cases e : j = k
          · subst e; omega
          · exact hsame.out j (by omega)
    · have hk2 : k = 32 := by omega
      subst hk2
      have HE : Hid (cmpL a b = 0) := by
        show cmpL a b = 0
        rw [at8_ext 32 ha hb hsame.out]
        exact cmpL_same b
      go_wp2
      go_ret
      exact ⟨ret_int HE.out.symm, below_drewN be0 _⟩
/-! ### A hash put in its place -/
theorem lt_cId (x y : IdK) : (cId x y < 0) ↔ (cmpL x.h y.h < 0 ∨ cmpL x.h y.h = 0 ∧ x.n < y.n) := by
  unfold cId or2 cI
  split
  · next h => rw [h]; split
              · simp_all
              · split <;> simp_all
  · next h => simp [h]
theorem lower_any (x y : IdK) (w : World) (hx : x.ok) (hy : y.ok) : Calls Try.prog 87 #[x.v, y.v] w fun e w' => e = .returned (.bool (decide (cId x y < 0))) ∧ Below w.heap.size w w' := by
  have HC := hidMk (fun W => rcmp_any x.h y.h hx.l hy.l W)
  have hd : decide (cId x y < 0) = decide (cmpL x.h y.h < 0 ∨ cmpL x.h y.h = 0 ∧ x.n < y.n) := by rw [decide_eq_decide]; exact lt_cId x y
  rw [hd]
  clear hd
  obtain ⟨c, hc⟩ : ∃ c, cmpL x.h y.h = c := ⟨_, rfl⟩
  rw [hc] at HC
  rw [hc]
  clear hc
  unfold IdK.v
  go_enter Try.func87, Try.ntmps87
  go_upto_region 1 with fail
  obtain ⟨hxb, hyb, bx, zx⟩ := two_boxes w x y
  have ZX := hidMk zx
  clear zx
  generalize (w.alloc (.cells x.c.toArray 37)).alloc (.cells y.c.toArray 37) = W at *
  have z1 : w.heap.size + 2 ≤ W.heap.size := Nat.le_of_eq ZX.out.symm
  have n1 := cell_n hx hxb
  have n2 := cell_n hy hyb
  go_upto_region 2 with (first
    | (refine wpList_val rfl (exec_load (t := 35) (u := .pointer (some ⟨w.heap.size, 0, none⟩)) rfl rfl (load_hash hx hxb)) ?_)
    | (refine wpList_val rfl (exec_load (t := 35) (u := .pointer (some ⟨w.heap.size + 1, 0, none⟩)) rfl rfl (load_hash hy hyb)) ?_)
    | (go_at_call 93; refine (HC.out _).mono ?_; rintro e w1 ⟨rfl, b1⟩; replace n1 := (b1.cell (by show w.heap.size < _; omega)).trans n1; replace n2 := (b1.cell (by show w.heap.size + 1 < _; omega)).trans n2; replace bx : Below w.heap.size w w1 := bx.trans (b1.mono (by omega)); clear b1)
    | fail)
  by_cases h1 : c < 0
  · have hd : decide (c < 0) = true := decide_eq_true h1
    have HQ := hidMk (show decide (c < 0 ∨ c = 0 ∧ x.n < y.n) = true from decide_eq_true (Or.inl h1))
    go_wp2
    go_ret
    exact ⟨by rw [HQ.out]; rfl, bx⟩
  · by_cases h2 : c = 0
    · subst h2
      clear h1
      have HQ := hidMk (show decide ((0 : Int) < 0 ∨ (0 : Int) = 0 ∧ x.n < y.n) = decide (x.n < y.n) by simp)
      go_wp2
      go_ret
      exact ⟨by first | rfl | (rw [HQ.out]; rfl) | simp, bx⟩
    · have hd : decide (c < 0) = false := decide_eq_false h1
      have he : (c == 0) = false := by simpa using h2
      have HQ := hidMk (show decide (c < 0 ∨ c = 0 ∧ x.n < y.n) = false from decide_eq_false (fun q => q.elim h1 (fun r => h2 r.1)))
      clear h1 h2
      go_wp2
      go_ret
      exact ⟨by rw [HQ.out]; rfl, bx⟩
theorem lt_cKid (x y : KidV) : (cKid x y < 0) ↔ (Op.bytesLess x.key.toList y.key.toList = true ∨ x.key.toList = y.key.toList ∧ cId x.id y.id < 0) := by
  unfold cKid or2
  rcases cS_val x.key y.key with ⟨p, e⟩ | ⟨p, e⟩ | ⟨p, e⟩
  · rw [e]; simp [p]
  · rw [e]
    have : Op.bytesLess x.key.toList y.key.toList = false := by rw [p]; exact bl_irrefl _
    simp [this, p, bl_irrefl]
  · rw [e]
    have h1 := bl_asymm p
    have h2 : x.key.toList ≠ y.key.toList := fun q => by rw [q, bl_irrefl] at p; cases p
    simp [h1, h2]
def kOf (p : RN) : KidV := ⟨p.1, p.2.key⟩
def RnAt (w : World) (b : Nat) (p : RN) : Prop := w.heap[b]? = some (.cells (rnC p).toArray 114 (0, 0))
theorem two_rns (w : World) (k u : RN) : RnAt ((w.alloc (.cells (rnC k).toArray 114)).alloc (.cells (rnC u).toArray 114)) w.heap.size k ∧ RnAt ((w.alloc (.cells (rnC k).toArray 114)).alloc (.cells (rnC u).toArray 114)) (w.heap.size + 1) u ∧
    Below w.heap.size w ((w.alloc (.cells (rnC k).toArray 114)).alloc (.cells (rnC u).toArray 114)) ∧ ((w.alloc (.cells (rnC k).toArray 114)).alloc (.cells (rnC u).toArray 114)).heap.size = w.heap.size + 2 := by
  have z : (w.alloc (.cells (rnC k).toArray 114)).heap.size = w.heap.size + 1 := by simp
  refine ⟨?_, ?_, ((Below.refl _ _).alloc (Nat.le_refl _) _).alloc (by simp) _, by simp⟩
  · unfold RnAt
    rw [Below.heap_alloc _ _ _ (by rw [z]; omega)]
    exact heap_alloc_new _ _
  · have := heap_alloc_new (w.alloc (.cells (rnC k).toArray 114)) (.cells (rnC u).toArray 114)
    rw [z] at this
    exact this
theorem RnAt.range {w : World} {b : Nat} {p : RN} (h : RnAt w b p) : w.rangeAt b 0 (rnC p) := cells_range h
theorem rn_idc {w : World} {b : Nat} {p : RN} (hp : RnOk p) (h : RnAt w b p) : (Instr.loadAt 37 (.pointer (some ⟨b, 0, none⟩))).run Try.prog w = .ok p.1.v w := by
  have := rn_id hp h.range
  simpa using this
theorem rn_keyc {w : World} {b : Nat} {p : RN} (hp : RnOk p) (h : RnAt w b p) : w.cell? ⟨b, 66, none⟩ = some (.string p.2.key) := by
  have l1 := IdK.len hp.k
  have l2 := IdK.len hp.u
  have := h.range 66 (.string p.2.key) (by
    rw [rnC, List.getElem?_append_right (by omega), l1, List.getElem?_append_right (by omega), l2]
    rfl)
  simpa using this
theorem ahead_any (x y : RN) (w : World) (hx : RnOk x) (hy : RnOk y) : Calls Try.prog 78 #[.agg (rnC x).toArray, .agg (rnC y).toArray] w fun e w' => e = .returned (.bool (decide (cKid (kOf x) (kOf y) < 0))) ∧ Below w.heap.size w w' := by
  have HC := hidMk (fun W => lower_any x.1 y.1 W hx.k hy.k)
  have hd := lt_cKid (kOf x) (kOf y)
  have HD := hidMk hd
  clear hd
  go_enter Try.func78, Try.ntmps78
  go_upto_region 1 with fail
  obtain ⟨hxb, hyb, bx, zx⟩ := two_rns w x y
  have ZX := hidMk zx
  clear zx
  generalize (w.alloc (.cells (rnC x).toArray 114)).alloc (.cells (rnC y).toArray 114) = W at *
  have n1 := rn_keyc hx hxb
  have n2 := rn_keyc hy hyb
  have L1 := hidMk (rn_idc hx hxb)
  have L2 := hidMk (rn_idc hy hyb)
  obtain ⟨kx, hkx⟩ : ∃ kx, x.2.key = kx := ⟨_, rfl⟩
  obtain ⟨ky, hky⟩ : ∃ ky, y.2.key = ky := ⟨_, rfl⟩
  rw [hkx] at n1
  rw [hky] at n2
  have HK := hidMk (And.intro hkx hky)
  clear hkx hky hxb hyb
  have hv : cKid (kOf x) (kOf y) < 0 ↔ (Op.bytesLess kx.toList ky.toList = true ∨ kx.toList = ky.toList ∧ cId x.1 y.1 < 0) := by rw [← HK.out.1, ← HK.out.2]; exact HD.out
  have HV := hidMk hv
  clear hv
  cases h1 : Op.bytesLess kx.toList ky.toList with
  | true =>
    have HQ := hidMk (show decide (cKid (kOf x) (kOf y) < 0) = true from decide_eq_true (HV.out.2 (Or.inl h1)))
    go_wp2
    go_ret
    exact ⟨by rw [HQ.out]; rfl, bx⟩
  | false =>
    cases h2 : (kx.toList == ky.toList) with
    | true =>
      have e2 : kx.toList = ky.toList := by simpa using h2
      have HQ := hidMk (show decide (cKid (kOf x) (kOf y) < 0) = decide (cId x.1 y.1 < 0) by rw [decide_eq_decide, HV.out, h1]; simp [e2])
      clear e2
      go_wp2_with (first
        | (refine wpList_val rfl (exec_load (t := 37) (u := .pointer (some ⟨w.heap.size, 0, none⟩)) rfl rfl L1.out) ?_)
        | (refine wpList_val rfl (exec_load (t := 37) (u := .pointer (some ⟨w.heap.size + 1, 0, none⟩)) rfl rfl L2.out) ?_)
        | (go_at_call 87; refine (HC.out _).mono ?_; rintro e w1 ⟨rfl, b1⟩)
        | fail)
      go_ret
      exact ⟨by rw [HQ.out]; rfl, bx.trans (b1.mono bx.size)⟩
    | false =>
      have e2 : ¬ kx.toList = ky.toList := by simpa using h2
      have HQ := hidMk (show decide (cKid (kOf x) (kOf y) < 0) = false from decide_eq_false (by rw [HV.out, h1]; simp [e2]))
      clear e2
      go_wp2
      go_ret
      exact ⟨by rw [HQ.out]; rfl, bx⟩
end Go.Proofs.Ytoofljkgdjjllaa
