import Derived.Test.YtoofljkgdjjllaaRg
import Derived.Test.YtoofljkgdjjllaaP0
import Derived.Test.YtoofljkgdjjllaaTyj
import Derived.Test.YtoofljkgdjjllaaSl
import Derived.Great.BuildSlice
import Derived.Deep.DeepAppendWide
import Derived.Maps.AppendAt
import Derived.OwnWalk
import Derived.Deep.RegionLaw
set_option maxRecDepth 100000
set_option maxHeartbeats 4000000
namespace Go.Proofs.Ytoofljkgdjjllaa
open Go.RowKit
set_option linter.unusedVariables false
set_option linter.unusedSimpArgs false
theorem exec_makeMapN {P : Program} {w w2 : World} {a : Act} {o : Oper} {t : TypeId} {x : Operand} {xv v : Value} (ho : o.op = .makeMap t (some x)) (hx : a.eval x = xv) (hl : (Instr.makeMap t (some xv)).run P w = .ok v w2) : (execOp a.eval o).run P w = .ok (.value v) w2 := by
  unfold execOp; simp only [ho, Option.map_some, hx, Sem.run_bind, hl, Result.andThen_ok, Sem.run_pure]
theorem exec_box {P : Program} {w w2 : World} {a : Act} {o : Oper} {t : TypeId} {x : Operand} {xv v : Value} (ho : o.op = .box t x) (hx : a.eval x = xv) (hl : (Instr.box t xv).run P w = .ok v w2) : (execOp a.eval o).run P w = .ok (.value v) w2 := by
  unfold execOp; simp only [ho, hx, Sem.run_bind, hl, Result.andThen_ok, Sem.run_pure]
theorem exec_build3 {P : Program} {w : World} {a : Act} {o : Oper} {t : TypeId} {x y z : Operand} {xv yv zv v : Value} (ho : o.op = .build t #[(0, x), (1, y), (2, z)]) (hx : a.eval x = xv) (hy : a.eval y = yv) (hz : a.eval z = zv) (hl : (Instr.build t #[(0, xv), (1, yv), (2, zv)]).run P w = .ok v w) : (execOp a.eval o).run P w = .ok (.value v) w := by
  unfold execOp; simp only [ho, List.map_toArray, List.map_cons, List.map_nil, hx, hy, hz, Sem.run_bind, hl, Result.andThen_ok, Sem.run_pure]
theorem fg_82_0 (b o : Nat) (w : World) : (Instr.fieldAt 82 (.pointer (some ⟨b, o, none⟩)) 0).run Try.prog w = .ok (.pointer (some ⟨b, o + 0, none⟩)) w := by go_simp
theorem fg_82_1 (b o : Nat) (w : World) : (Instr.fieldAt 82 (.pointer (some ⟨b, o, none⟩)) 1).run Try.prog w = .ok (.pointer (some ⟨b, o + 1, none⟩)) w := by go_simp
theorem fg_82_2 (b o : Nat) (w : World) : (Instr.fieldAt 82 (.pointer (some ⟨b, o, none⟩)) 2).run Try.prog w = .ok (.pointer (some ⟨b, o + 2, none⟩)) w := by go_simp
def fork3_o0 : Oper := ⟨some 8, .move (.tmp 0), 25, "tree.go:40", #[], none⟩
def fork3_o1 : Oper := ⟨some 9, .nilCheck (.tmp 8), 0, "tree.go:40", #[⟨0, .data⟩], none⟩
def fork3_o2 : Oper := ⟨some 10, .fieldAddr 82 (.tmp 9) 0, 0, "tree.go:40", #[⟨1, .data⟩], none⟩
def fork3_o3 : Oper := ⟨some 11, .load 79 (.tmp 10), 79, "tree.go:40", #[⟨2, .data⟩], none⟩
def fork3_o4 : Oper := ⟨some 12, .call { callee := Callee.value (Operand.func 42), args := #[.tmp 11], argTypes := #[79] }, 79, "tree.go:40", #[⟨3, .data⟩], none⟩
def fork3_o5 : Oper := ⟨some 13, .move (.tmp 0), 25, "tree.go:40", #[], none⟩
def fork3_o6 : Oper := ⟨some 14, .nilCheck (.tmp 13), 0, "tree.go:40", #[⟨5, .data⟩], none⟩
def fork3_o7 : Oper := ⟨some 15, .fieldAddr 82 (.tmp 14) 1, 0, "tree.go:40", #[⟨6, .data⟩], none⟩
def fork3_o8 : Oper := ⟨some 16, .load 80 (.tmp 15), 80, "tree.go:40", #[⟨7, .data⟩], none⟩
def fork3_o9 : Oper := ⟨some 17, .call { callee := Callee.builtin Builtin.len, args := #[.tmp 16], argTypes := #[80] }, 3, "tree.go:40", #[⟨8, .data⟩, ⟨4, .chain⟩], none⟩
def fork3_o10 : Oper := ⟨some 18, .makeMap 80 (some (.tmp 17)), 80, "tree.go:40", #[⟨9, .data⟩], none⟩
def fork3_o11 : Oper := ⟨some 19, .move (.tmp 0), 25, "tree.go:40", #[], none⟩
def fork3_o12 : Oper := ⟨some 20, .nilCheck (.tmp 19), 0, "tree.go:40", #[⟨11, .data⟩], none⟩
def fork3_o13 : Oper := ⟨some 21, .fieldAddr 82 (.tmp 20) 2, 0, "tree.go:40", #[⟨12, .data⟩], none⟩
def fork3_o14 : Oper := ⟨some 22, .load 45 (.tmp 21), 45, "tree.go:40", #[⟨13, .data⟩], none⟩
def fork3_o15 : Oper := ⟨some 23, .build 82 #[(0, .tmp 12), (1, .tmp 18), (2, .tmp 22)], 82, "tree.go:40", #[⟨4, .data⟩, ⟨10, .data⟩, ⟨14, .data⟩], none⟩
def fork3_o16 : Oper := ⟨some 24, .box 82 (.tmp 23), 25, "tree.go:40", #[⟨15, .data⟩], none⟩
def fork3_o17 : Oper := ⟨some 3, .assign (.tmp 24), 25, "tree.go:40", #[⟨16, .data⟩, ⟨9, .chain⟩, ⟨0, .phase⟩, ⟨1, .phase⟩, ⟨2, .phase⟩, ⟨3, .phase⟩, ⟨4, .phase⟩, ⟨5, .phase⟩, ⟨6, .phase⟩, ⟨7, .phase⟩, ⟨8, .phase⟩, ⟨9, .phase⟩, ⟨10, .phase⟩, ⟨11, .phase⟩, ⟨12, .phase⟩, ⟨13, .phase⟩, ⟨14, .phase⟩, ⟨15, .phase⟩, ⟨16, .phase⟩], none⟩
def fork3_ops : Array Oper := #[fork3_o0, fork3_o1, fork3_o2, fork3_o3, fork3_o4, fork3_o5, fork3_o6, fork3_o7, fork3_o8, fork3_o9, fork3_o10, fork3_o11, fork3_o12, fork3_o13, fork3_o14, fork3_o15, fork3_o16, fork3_o17]
theorem fork3 (S Calls1 : World → Prop) (Fin : Value → World → Prop) (t : Nat) (nv rv zv lv cv : Value) (a : Act) (w : World) (Q : Exit → Act → World → Prop) (hsz : a.tmps.size = 43)
    (t0 : a.tmps.getD 0 undef = .pointer (some ⟨t, 0, none⟩))
    (h0 : S w.drew) (C1 : Calls Try.prog 42 #[nv] w.drew fun e w' => e = .returned cv ∧ S w' ∧ Calls1 w') (HM : ∀ W, Calls1 W → ∃ mv w2 bv pv w3, (Instr.makeMap 80 (some zv)).run Try.prog W = .ok mv w2 ∧ S w2 ∧ (∀ W, (Instr.build 82 #[(0, cv), (1, mv), (2, lv)]).run Try.prog W = .ok bv W) ∧ (Instr.box 82 bv).run Try.prog w2 = .ok pv w3 ∧ S w3 ∧ Fin pv w3)
    (GL : ∀ W, S W → (Builtin.len_ #[80] 3 #[rv]).run Try.prog W = .ok zv W)
    (G0 : ∀ W, S W → (Instr.loadAt 79 (.pointer (some ⟨t, 0 + 0, none⟩))).run Try.prog W = .ok nv W)
    (G1 : ∀ W, S W → (Instr.loadAt 80 (.pointer (some ⟨t, 0 + 1, none⟩))).run Try.prog W = .ok rv W)
    (G2 : ∀ W, S W → (Instr.loadAt 45 (.pointer (some ⟨t, 0 + 2, none⟩))).run Try.prog W = .ok lv W)
    (h : ∀ (mv bv pv : Value) (a' : Act) (w' : World), Fin pv w' → a' = ((((((((((((((((((a).put (some 8) (.pointer (some ⟨t, 0, none⟩))).put (some 9) (.pointer (some ⟨t, 0, none⟩))).put (some 10) (.pointer (some ⟨t, 0 + 0, none⟩))).put (some 11) (nv)).put (some 13) (.pointer (some ⟨t, 0, none⟩))).put (some 14) (.pointer (some ⟨t, 0, none⟩))).put (some 15) (.pointer (some ⟨t, 0 + 1, none⟩))).put (some 16) (rv)).put (some 19) (.pointer (some ⟨t, 0, none⟩))).put (some 20) (.pointer (some ⟨t, 0, none⟩))).put (some 21) (.pointer (some ⟨t, 0 + 2, none⟩))).put (some 22) (lv)).put (some 12) (cv)).put (some 17) (zv)).put (some 18) (mv)).put (some 23) (bv)).put (some 24) (pv)).put (some 3) (pv) → Q .normal a' w') :
    (Code.region 3 fork3_ops true).wp Try.prog Q a w := by
  refine wp_region_noPanic ?_
  refine wp_region_held_drew (S := fun w' => S w') (by kernel_rfl) (h0) (fun hHeld => ?_)
  refine tk 0 fork3_o0 (.pointer (some ⟨t, 0, none⟩)) (by rfl) (fun w1 hw => exec_move rfl t0) hHeld (fun a1 e1 => ?_)
  rw [← e1] at h
  have z1 := pz e1 hsz
  replace t0 := pk e1 t0
  have t8 := pq e1 hsz
  clear e1 hsz
  refine tk 1 fork3_o1 (.pointer (some ⟨t, 0, none⟩)) (by rfl) (fun w1 hw => exec_nilCheck rfl t8) hHeld (fun a2 e2 => ?_)
  rw [← e2] at h
  have z2 := pz e2 z1
  replace t0 := pk e2 t0
  clear t8
  have t9 := pq e2 z1
  clear e2 z1
  refine tk 2 fork3_o2 (.pointer (some ⟨t, 0 + 0, none⟩)) (by rfl) (fun w1 hw => exec_fieldAt rfl t9 (fg_82_0 _ _ _)) hHeld (fun a3 e3 => ?_)
  rw [← e3] at h
  have z3 := pz e3 z2
  replace t0 := pk e3 t0
  clear t9
  have t10 := pq e3 z2
  clear e3 z2
  refine tk 3 fork3_o3 (nv) (by rfl) (fun w1 hw => exec_load rfl t10 (G0 _ hw)) hHeld (fun a4 e4 => ?_)
  rw [← e4] at h
  have z4 := pz e4 z3
  replace t0 := pk e4 t0
  clear t10
  have t11 := pq e4 z3
  clear e4 z3
  refine tk 5 fork3_o5 (.pointer (some ⟨t, 0, none⟩)) (by rfl) (fun w1 hw => exec_move rfl t0) hHeld (fun a5 e5 => ?_)
  rw [← e5] at h
  have z5 := pz e5 z4
  replace t0 := pk e5 t0
  replace t11 := pk e5 t11
  have t13 := pq e5 z4
  clear e5 z4
  refine tk 6 fork3_o6 (.pointer (some ⟨t, 0, none⟩)) (by rfl) (fun w1 hw => exec_nilCheck rfl t13) hHeld (fun a6 e6 => ?_)
  rw [← e6] at h
  have z6 := pz e6 z5
  replace t0 := pk e6 t0
  replace t11 := pk e6 t11
  clear t13
  have t14 := pq e6 z5
  clear e6 z5
  refine tk 7 fork3_o7 (.pointer (some ⟨t, 0 + 1, none⟩)) (by rfl) (fun w1 hw => exec_fieldAt rfl t14 (fg_82_1 _ _ _)) hHeld (fun a7 e7 => ?_)
  rw [← e7] at h
  have z7 := pz e7 z6
  replace t0 := pk e7 t0
  replace t11 := pk e7 t11
  clear t14
  have t15 := pq e7 z6
  clear e7 z6
  refine tk 8 fork3_o8 (rv) (by rfl) (fun w1 hw => exec_load rfl t15 (G1 _ hw)) hHeld (fun a8 e8 => ?_)
  rw [← e8] at h
  have z8 := pz e8 z7
  replace t0 := pk e8 t0
  replace t11 := pk e8 t11
  clear t15
  have t16 := pq e8 z7
  clear e8 z7
  refine tk 11 fork3_o11 (.pointer (some ⟨t, 0, none⟩)) (by rfl) (fun w1 hw => exec_move rfl t0) hHeld (fun a9 e9 => ?_)
  rw [← e9] at h
  have z9 := pz e9 z8
  replace t11 := pk e9 t11
  replace t16 := pk e9 t16
  clear t0
  have t19 := pq e9 z8
  clear e9 z8
  refine tk 12 fork3_o12 (.pointer (some ⟨t, 0, none⟩)) (by rfl) (fun w1 hw => exec_nilCheck rfl t19) hHeld (fun a10 e10 => ?_)
  rw [← e10] at h
  have z10 := pz e10 z9
  replace t11 := pk e10 t11
  replace t16 := pk e10 t16
  clear t19
  have t20 := pq e10 z9
  clear e10 z9
  refine tk 13 fork3_o13 (.pointer (some ⟨t, 0 + 2, none⟩)) (by rfl) (fun w1 hw => exec_fieldAt rfl t20 (fg_82_2 _ _ _)) hHeld (fun a11 e11 => ?_)
  rw [← e11] at h
  have z11 := pz e11 z10
  replace t11 := pk e11 t11
  replace t16 := pk e11 t16
  clear t20
  have t21 := pq e11 z10
  clear e11 z10
  refine tk 14 fork3_o14 (lv) (by rfl) (fun w1 hw => exec_load rfl t21 (G2 _ hw)) hHeld (fun a12 e12 => ?_)
  rw [← e12] at h
  have z12 := pz e12 z11
  replace t11 := pk e12 t11
  replace t16 := pk e12 t16
  clear t21
  have t22 := pq e12 z11
  clear e12 z11
  refine wpAnyH_ready (rs := [4]) (by kernel_rfl) (by simp) ?_
  refine AllReadyH.cons (o := fork3_o4) rfl (fun K hK => ?_) AllReadyH.nil
  rw [if_pos (by rfl)]
  unfold fork3_o4 at hK ⊢
  go_simp
  refine (C1).mono ?_
  rintro e x13 ⟨rfl, hs1, hm⟩
  try go_wp2_with fail
  obtain ⟨mv, w2, bv, pv, w3, EM, S2, GB, EB, S3, HF⟩ := HM _ hm; replace h := h mv bv pv
  refine hK.out _ _ (hs1) (fun hHeld => ?_)
  clear hK K
  change wpAnyH _ _ _ _ _ _ _ (a12.put (some 12) (cv)) _
  obtain ⟨a13, e13⟩ : ∃ act, act = a12.put (some 12) (cv) := ⟨_, rfl⟩
  rw [← e13] at h ⊢
  have z13 := pz e13 z12
  replace t16 := pk e13 t16
  replace t22 := pk e13 t22
  clear t11
  have t12 := pq e13 z12
  clear e13 z12
  refine tk 9 fork3_o9 (zv) (by rfl) (fun w1 hw => exec_len rfl t16 (GL _ hw)) hHeld (fun a14 e14 => ?_)
  rw [← e14] at h
  have z14 := pz e14 z13
  replace t22 := pk e14 t22
  replace t12 := pk e14 t12
  clear t16
  have t17 := pq e14 z13
  clear e14 z13
  refine wpAnyH_ready (rs := [10]) (by kernel_rfl) (by simp) ?_
  refine AllReadyH.cons (o := fork3_o10) rfl (fun K hK => ?_) AllReadyH.nil
  have X := exec_makeMapN (P := Try.prog) (a := a14) (o := fork3_o10) rfl t17 EM
  rw [if_pos (by rfl), Oper.wp, X]
  show K _ _
  clear X
  refine hK.out _ _ (S2) (fun hHeld => ?_)
  clear hK K
  change wpAnyH _ _ _ _ _ _ _ (a14.put (some 18) (mv)) _
  obtain ⟨a15, e15⟩ : ∃ act, act = a14.put (some 18) (mv) := ⟨_, rfl⟩
  rw [← e15] at h ⊢
  have z15 := pz e15 z14
  replace t22 := pk e15 t22
  replace t12 := pk e15 t12
  clear t17
  have t18 := pq e15 z14
  clear e15 z14
  refine tk 15 fork3_o15 (bv) (by rfl) (fun w1 hw => exec_build3 rfl t12 t18 t22 (GB _)) hHeld (fun a16 e16 => ?_)
  rw [← e16] at h
  have z16 := pz e16 z15
  clear t22 t12 t18
  have t23 := pq e16 z15
  clear e16 z15
  refine wpAnyH_ready (rs := [16]) (by kernel_rfl) (by simp) ?_
  refine AllReadyH.cons (o := fork3_o16) rfl (fun K hK => ?_) AllReadyH.nil
  have X := exec_box (P := Try.prog) (a := a16) (o := fork3_o16) rfl t23 EB
  rw [if_pos (by rfl), Oper.wp, X]
  show K _ _
  clear X
  refine hK.out _ _ (S3) (fun hHeld => ?_)
  clear hK K
  change wpAnyH _ _ _ _ _ _ _ (a16.put (some 24) (pv)) _
  obtain ⟨a17, e17⟩ : ∃ act, act = a16.put (some 24) (pv) := ⟨_, rfl⟩
  rw [← e17] at h ⊢
  have z17 := pz e17 z16
  clear t23
  have t24 := pq e17 z16
  clear e17 z16
  refine tk 17 fork3_o17 (pv) (by rfl) (fun w1 hw => exec_assign rfl t24) hHeld (fun a18 e18 => ?_)
  rw [← e18] at h
  have z18 := pz e18 z17
  clear t24
  clear e18 z17
  exact wpAnyH_done (by kernel_rfl) (NoPanic.normal (h _ _ (HF) rfl)) _
def fork6_o0 : Oper := ⟨some 32, .entry (.tmp 29), 0, "tree.go:41", #[], none⟩
def fork6_o1 : Oper := ⟨some 33, .extract (.tmp 32) 0, 37, "tree.go:41", #[⟨0, .data⟩], none⟩
def fork6_o2 : Oper := ⟨some 34, .extract (.tmp 32) 1, 95, "tree.go:41", #[⟨0, .data⟩, { on := 4, ground := Ground.gcOnly Departure.lateStores }], none⟩
def fork6_o3 : Oper := ⟨some 4, .alloc 37, 0, "tree.go:41", #[], none⟩
def fork6_o4 : Oper := ⟨none, .store 37 (.tmp 4) (.tmp 33), 0, "tree.go:41", #[⟨3, .data⟩, ⟨1, .data⟩, ⟨0, .phase⟩, ⟨1, .phase⟩, { on := 2, ground := Ground.textOnly Departure.lateStores }, ⟨3, .phase⟩], none⟩
def fork6_o5 : Oper := ⟨some 5, .assign (.tmp 34), 95, "tree.go:41", #[⟨2, .data⟩, ⟨4, .chain⟩, ⟨0, .phase⟩, ⟨1, .phase⟩, ⟨2, .phase⟩, ⟨3, .phase⟩, ⟨4, .phase⟩], none⟩
def fork6_ops : Array Oper := #[fork6_o0, fork6_o1, fork6_o2, fork6_o3, fork6_o4, fork6_o5]
theorem fork6 (itv kv mv p : Value) (w1 w2 : World) (a : Act) (w : World) (Q : Exit → Act → World → Prop) (hsz : a.tmps.size = 43)
    (t29 : a.tmps.getD 29 undef = itv)
    (EE : (Instr.entry itv).run Try.prog w = .ok (.tuple #[kv, mv]) w) (EA : (Instr.alloc 37 true (.tuple #[])).run Try.prog w = .ok p w1) (ES : (Instr.storeAt 37 p kv).run Try.prog w1 = .ok () w2)
    (h : ∀ (a' : Act) (w' : World), w' = w2 → a' = (((((a).put (some 32) (.tuple #[kv, mv])).put (some 33) (kv)).put (some 34) (mv)).put (some 4) (p)).put (some 5) (mv) → Q .normal a' w') :
    (Code.region 6 fork6_ops false).wp Try.prog Q a w := by
  refine wp_region_list ?_
  change wpList _ _ _ [fork6_o0, fork6_o1, fork6_o2, fork6_o3, fork6_o4, fork6_o5] _ _
  refine qk (v := .tuple #[kv, mv]) (by rfl) (exec_entry rfl t29 EE) (fun a0 e0 => ?_)
  rw [← e0] at h
  have z0 := pz e0 hsz
  clear t29
  have t32 := pq e0 hsz
  clear e0 hsz
  refine qv (v := kv) (by rfl) (exec_extract rfl t32 rfl) (fun a1 e1 => ?_)
  rw [← e1] at h
  have z1 := pz e1 z0
  replace t32 := pk e1 t32
  have t33 := pq e1 z0
  clear e1 z0
  refine qv (v := mv) (by rfl) (exec_extract rfl t32 rfl) (fun a2 e2 => ?_)
  rw [← e2] at h
  have z2 := pz e2 z1
  replace t33 := pk e2 t33
  clear t32
  have t34 := pq e2 z1
  clear e2 z1
  refine qk (v := p) (by rfl) (exec_alloc rfl EA) (fun a3 e3 => ?_)
  rw [← e3] at h
  have z3 := pz e3 z2
  replace t33 := pk e3 t33
  replace t34 := pk e3 t34
  have t4 := pq e3 z2
  clear e3 z2
  refine qs (by rfl) (exec_store rfl t4 t33 ES) ?_
  refine qv (v := mv) (by rfl) (exec_assign rfl t34) (fun a5 e5 => ?_)
  rw [← e5] at h
  have z5 := pz e5 z3
  clear t33 t34 t4
  clear e5 z3
  exact wpList_nil (h _ _ (rfl) rfl)
def fork7_o0 : Oper := ⟨some 35, .move (.tmp 3), 25, "tree.go:42", #[], none⟩
def fork7_o1 : Oper := ⟨some 36, .nilCheck (.tmp 35), 0, "tree.go:42", #[⟨0, .data⟩], none⟩
def fork7_o2 : Oper := ⟨some 37, .fieldAddr 82 (.tmp 36) 1, 0, "tree.go:42", #[⟨1, .data⟩], none⟩
def fork7_o3 : Oper := ⟨some 38, .load 80 (.tmp 37), 80, "tree.go:42", #[⟨2, .data⟩], none⟩
def fork7_o4 : Oper := ⟨some 39, .load 37 (.tmp 4), 37, "tree.go:42", #[], none⟩
def fork7_o5 : Oper := ⟨some 40, .move (.tmp 5), 95, "tree.go:42", #[], none⟩
def fork7_o6 : Oper := ⟨some 41, .call { callee := Callee.value (Operand.func 43), args := #[.tmp 40], argTypes := #[95] }, 95, "tree.go:42", #[⟨5, .data⟩], none⟩
def fork7_o7 : Oper := ⟨none, .mapUpdate 80 (.tmp 38) (.tmp 39) (.tmp 41), 0, "tree.go:42", #[⟨3, .data⟩, ⟨4, .data⟩, ⟨6, .data⟩, ⟨6, .chain⟩, ⟨0, .phase⟩, ⟨1, .phase⟩, ⟨2, .phase⟩, ⟨3, .phase⟩, ⟨4, .phase⟩, ⟨5, .phase⟩, ⟨6, .phase⟩], none⟩
def fork7_ops : Array Oper := #[fork7_o0, fork7_o1, fork7_o2, fork7_o3, fork7_o4, fork7_o5, fork7_o6, fork7_o7]
theorem fork7 (S Fin : World → Prop) (f bk : Nat) (mv fv kv : Value) (a : Act) (w : World) (Q : Exit → Act → World → Prop) (hsz : a.tmps.size = 43)
    (t3 : a.tmps.getD 3 undef = .pointer (some ⟨f, 0, none⟩))
    (t4 : a.tmps.getD 4 undef = .pointer (some ⟨bk, 0, none⟩))
    (t5 : a.tmps.getD 5 undef = mv)
    (h0 : S w.drew) (CK : Calls Try.prog 43 #[mv] w.drew fun e w' => ∃ v w2, e = .returned v ∧ S w' ∧ (Instr.mapUpdate 80 fv kv v).run Try.prog w' = .ok () w2 ∧ S w2 ∧ Fin w2)
    (G1 : ∀ W, S W → (Instr.loadAt 80 (.pointer (some ⟨f, 0 + 1, none⟩))).run Try.prog W = .ok (fv) W)
    (G2 : ∀ W, S W → (Instr.loadAt 37 (.pointer (some ⟨bk, 0, none⟩))).run Try.prog W = .ok (kv) W)
    (h : ∀ (v : Value) (a' : Act) (w' : World), Fin w' → a' = (((((((a).put (some 35) (.pointer (some ⟨f, 0, none⟩))).put (some 36) (.pointer (some ⟨f, 0, none⟩))).put (some 37) (.pointer (some ⟨f, 0 + 1, none⟩))).put (some 38) (fv)).put (some 39) (kv)).put (some 40) (mv)).put (some 41) (v) → Q .normal a' w') :
    (Code.region 7 fork7_ops true).wp Try.prog Q a w := by
  refine wp_region_noPanic ?_
  refine wp_region_held_drew (S := fun w' => S w') (by kernel_rfl) (h0) (fun hHeld => ?_)
  refine tk 0 fork7_o0 (.pointer (some ⟨f, 0, none⟩)) (by rfl) (fun w1 hw => exec_move rfl t3) hHeld (fun a1 e1 => ?_)
  rw [← e1] at h
  have z1 := pz e1 hsz
  replace t4 := pk e1 t4
  replace t5 := pk e1 t5
  clear t3
  have t35 := pq e1 hsz
  clear e1 hsz
  refine tk 1 fork7_o1 (.pointer (some ⟨f, 0, none⟩)) (by rfl) (fun w1 hw => exec_nilCheck rfl t35) hHeld (fun a2 e2 => ?_)
  rw [← e2] at h
  have z2 := pz e2 z1
  replace t4 := pk e2 t4
  replace t5 := pk e2 t5
  clear t35
  have t36 := pq e2 z1
  clear e2 z1
  refine tk 2 fork7_o2 (.pointer (some ⟨f, 0 + 1, none⟩)) (by rfl) (fun w1 hw => exec_fieldAt rfl t36 (fg_82_1 _ _ _)) hHeld (fun a3 e3 => ?_)
  rw [← e3] at h
  have z3 := pz e3 z2
  replace t4 := pk e3 t4
  replace t5 := pk e3 t5
  clear t36
  have t37 := pq e3 z2
  clear e3 z2
  refine tk 3 fork7_o3 (fv) (by rfl) (fun w1 hw => exec_load rfl t37 (G1 _ hw)) hHeld (fun a4 e4 => ?_)
  rw [← e4] at h
  have z4 := pz e4 z3
  replace t4 := pk e4 t4
  replace t5 := pk e4 t5
  clear t37
  have t38 := pq e4 z3
  clear e4 z3
  refine tk 4 fork7_o4 (kv) (by rfl) (fun w1 hw => exec_load rfl t4 (G2 _ hw)) hHeld (fun a5 e5 => ?_)
  rw [← e5] at h
  have z5 := pz e5 z4
  replace t5 := pk e5 t5
  replace t38 := pk e5 t38
  clear t4
  have t39 := pq e5 z4
  clear e5 z4
  refine tk 5 fork7_o5 (mv) (by rfl) (fun w1 hw => exec_move rfl t5) hHeld (fun a6 e6 => ?_)
  rw [← e6] at h
  have z6 := pz e6 z5
  replace t38 := pk e6 t38
  replace t39 := pk e6 t39
  clear t5
  have t40 := pq e6 z5
  clear e6 z5
  refine wpAnyH_ready (rs := [6]) (by kernel_rfl) (by simp) ?_
  refine AllReadyH.cons (o := fork7_o6) rfl (fun K hK => ?_) AllReadyH.nil
  rw [if_pos (by rfl)]
  unfold fork7_o6 at hK ⊢
  go_simp
  refine (CK).mono ?_
  rintro e x7 ⟨v, w2, rfl, hs, EM, S2, HF⟩
  try go_wp2_with fail
  replace h := h v
  refine hK.out _ _ (hs) (fun hHeld => ?_)
  clear hK K
  change wpAnyH _ _ _ _ _ _ _ (a6.put (some 41) (v)) _
  obtain ⟨a7, e7⟩ : ∃ act, act = a6.put (some 41) (v) := ⟨_, rfl⟩
  rw [← e7] at h ⊢
  have z7 := pz e7 z6
  replace t38 := pk e7 t38
  replace t39 := pk e7 t39
  clear t40
  have t41 := pq e7 z6
  clear e7 z6
  refine wpAnyH_ready (rs := [7]) (by kernel_rfl) (by simp) ?_
  refine AllReadyH.cons (o := fork7_o7) rfl (fun K hK => ?_) AllReadyH.nil
  have X := exec_mapUpdate (P := Try.prog) (a := a7) (o := fork7_o7) rfl t38 t39 t41 EM
  rw [if_pos (by rfl), Oper.wp, X]
  show K _ _
  clear X
  refine hK.out _ _ (S2) (fun hHeld => ?_)
  clear hK K
  exact wpAnyH_done (by kernel_rfl) (NoPanic.normal (h _ _ (HF) rfl)) _
end Go.Proofs.Ytoofljkgdjjllaa
namespace Go.Proofs.Ytoofljkgdjjllaa
open Go.RowKit Go.Shelf
set_option linter.unusedVariables false
set_option linter.unusedSimpArgs false
theorem M.MapAt.clone {κ : Type} {w : World} {b : Nat} {enc : κ → Value} {V : κ → Prop} {E : List (κ × Value)} (h : M.MapAt w b enc V E) : ∃ es clock, w.heap[b]? = some (.map es clock) ∧ M.MapAt (w.alloc (.map es clock)) w.heap.size enc V E := by
  obtain ⟨⟨es, c, hb, he, hs⟩, hn, hV⟩ := h
  exact ⟨es, c, hb, ⟨es, c, heap_alloc_new _ _, he, hs⟩, hn, hV⟩
theorem clone_nodes {w : World} {b : Nat} {E : List (IdK × Value)} (h : M.MapAt w b IdK.v IdK.ok E) : ∃ w1, Calls Try.prog 42 #[.map (some b)] w (fun e w' => e = .returned (.map (some w.heap.size)) ∧ w' = w1) ∧ M.MapAt w1 w.heap.size IdK.v IdK.ok E ∧ Below w.heap.size w w1 ∧ w1.heap.size = w.heap.size + 1 := by
  obtain ⟨es, c, hb, hm⟩ := h.clone
  exact ⟨_, AnyW.maps_Clone cloneN b es c w hb, hm, (Below.refl _ _).alloc (Nat.le_refl _) _, by simp⟩
theorem clone_row {w : World} {b : Nat} {E : List (IdK × Value)} (h : M.MapAt w b IdK.v IdK.ok E) : ∃ w1, Calls Try.prog 43 #[.map (some b)] w (fun e w' => e = .returned (.map (some w.heap.size)) ∧ w' = w1) ∧ M.MapAt w1 w.heap.size IdK.v IdK.ok E ∧ Below w.heap.size w w1 ∧ w1.heap.size = w.heap.size + 1 := by
  obtain ⟨es, c, hb, hm⟩ := h.clone
  exact ⟨_, AnyW.maps_Clone cloneU b es c w hb, hm, (Below.refl _ _).alloc (Nat.le_refl _) _, by simp⟩
theorem run_makeMapN (n : Nat) (w : World) : (Instr.makeMap 80 (some (.int .i64 (n : Int)))).run Try.prog w = .ok (.map (some w.heap.size)) (w.alloc (.map #[] 0)) := by
  simp [Instr.makeMap, run_underlying Try.underlying80, asInt, asIntOf]
theorem build_tree (a b : Nat) (p : Option Addr) (w : World) : (Instr.build 82 #[(0, .map (some a)), (1, .map (some b)), (2, .pointer p)]).run Try.prog w = .ok (.agg #[.map (some a), .map (some b), .pointer p]) w := by go_simp
theorem box_tree (a b : Nat) (p : Option Addr) (w : World) : (Instr.box 82 (.agg #[.map (some a), .map (some b), .pointer p])).run Try.prog w = .ok (.pointer (some ⟨w.heap.size, 0, none⟩)) (w.alloc (.cells #[.map (some a), .map (some b), .pointer p] 82)) := by go_simp
theorem nodup3 {a b c : Nat} (h1 : a ≠ b) (h2 : a ≠ c) (h3 : b ≠ c) : [a, b, c].Nodup := by simp [h1, h2, h3]
def Abv (r : Nat) (R' : List (IdK × (Nat × List IdK))) : Prop := ∀ q ∈ R', r < q.2.1
structure Cp (R R' : List (IdK × (Nat × List IdK))) (T : List (IdK × Value)) : Prop where
  d1 : ∀ q ∈ R', ∃ b0, (q.1, (b0, q.2.2)) ∈ R
  d2 : ∀ q ∈ R, (∃ v, (q.1, v) ∈ T) ∨ ∃ b', (q.1, (b', q.2.2)) ∈ R'
  d3 : ∀ p ∈ T, p ∈ entR R
  d4 : ∀ p ∈ T, M.look R' p.1 = none
  nd : (T.map (·.1)).Nodup
theorem entR_mem {R : List (IdK × (Nat × List IdK))} {p : IdK × Value} (h : p ∈ entR R) : ∃ b l, (p.1, (b, l)) ∈ R ∧ p.2 = .map (some b) := by
  unfold entR M.onV at h
  obtain ⟨q, hq, rfl⟩ := List.mem_map.1 h
  exact ⟨q.2.1, q.2.2, hq, rfl⟩
theorem Cp.start {R : List (IdK × (Nat × List IdK))} (h : (R.map (·.1)).Nodup) : Cp R [] (entR R) :=
  ⟨by simp, fun q hq => Or.inl ⟨_, List.mem_map.2 ⟨q, hq, rfl⟩⟩, fun p hp => hp, fun p hp => rfl, by rw [entR, M.onV_keys]; exact h⟩
theorem Cp.step {R R' : List (IdK × (Nat × List IdK))} {A B : List (IdK × Value)} {p : IdK × Value} (h : Cp R R' (A ++ p :: B)) (hR : (R.map (·.1)).Nodup) (hn : (R'.map (·.1)).Nodup) {b0 : Nat} {l : List IdK} (hp : (p.1, (b0, l)) ∈ R) (b' : Nat) : Cp R (M.put R' p.1 (b', l)) (A ++ B) := by
  have hnd := h.nd
  rw [List.map_append, List.map_cons] at hnd
  have hsub : ∀ x ∈ A ++ B, x ∈ A ++ p :: B := fun x hx => by
    rcases List.mem_append.1 hx with hx | hx
    · exact List.mem_append_left _ hx
    · exact List.mem_append_right _ (List.mem_cons_of_mem _ hx)
  have hne : ∀ x ∈ A ++ B, x.1 ≠ p.1 := fun x hx e => by
    have h1 := List.nodup_append.1 hnd
    have h2 := List.nodup_cons.1 h1.2.1
    rcases List.mem_append.1 hx with hx | hx
    · exact h1.2.2 x.1 (List.mem_map.2 ⟨x, hx, rfl⟩) p.1 (List.mem_cons_self ..) e
    · exact h2.1 (List.mem_map.2 ⟨x, hx, e⟩)
  refine ⟨fun q hq => ?_, fun q hq => ?_, fun x hx => h.d3 x (hsub x hx), fun x hx => ?_, ?_⟩
  · rcases put_mem hn hq with rfl | ⟨hq, _⟩
    · exact ⟨b0, hp⟩
    · exact h.d1 q hq
  · by_cases e : q.1 = p.1
    · have : q = (p.1, (b0, l)) := nodup_inj (·.1) hR q hq _ hp e
      subst this
      exact Or.inr ⟨b', put_in _ _ hn⟩
    · rcases h.d2 q hq with ⟨v, hv⟩ | ⟨b2, h2⟩
      · left
        refine ⟨v, ?_⟩
        rcases List.mem_append.1 hv with hv | hv
        · exact List.mem_append_left _ hv
        · rcases List.mem_cons.1 hv with hv | hv
          · exact absurd (congrArg (·.1) hv) e
          · exact List.mem_append_right _ hv
      · exact Or.inr ⟨b2, put_old _ hn h2 e⟩
  · rw [M.put_look _ _ _ hn, if_neg (hne x hx)]
    exact h.d4 x (hsub x hx)
  · refine hnd.sublist ?_
    rw [List.map_append]
    exact List.Sublist.append (List.Sublist.refl _) (List.sublist_cons_self _ _)
theorem Cp.rows {R R' : List (IdK × (Nat × List IdK))} {Sh : IdK → IdK → Prop} (h : Cp R R' []) (hR : RowsOk R Sh) : RowsOk R' Sh := by
  refine ⟨fun r hr => ?_, fun r hr k => ?_, fun u k hs => ?_⟩
  · obtain ⟨b0, h0⟩ := h.d1 r hr
    exact hR.full (r.1, (b0, r.2.2)) h0
  · obtain ⟨b0, h0⟩ := h.d1 r hr
    exact hR.mem (r.1, (b0, r.2.2)) h0 k
  · obtain ⟨q, hq⟩ := hR.all u k hs
    rcases h.d2 _ hq with ⟨v, hv⟩ | ⟨b', hb⟩
    · cases hv
    · exact ⟨_, hb⟩
theorem fork_own {B : Nat} {w : World} {s : Tr} {H : List Rec} {f : Fn} (h : Own B w s H f) (hB : B ≤ w.heap.size) :
    Calls Try.prog 15 #[.pointer (some ⟨s.t, 0, none⟩)] w fun e w' => ∃ s2 : Tr, e = .returned (.pointer (some ⟨s2.t, 0, none⟩)) ∧ Own B w' s2 H f ∧ Below w.heap.size w w' ∧ ∀ j ∈ s2.bl, w.heap.size ≤ j := by
  have HOW := hidMk h
  have htr := h.tree.tr
  have HTR := hidMk (fun (W : World) (b : Below w.heap.size w W) => htr.below b)
  have HKY := hidMk htr.keys
  have lt : s.t < w.heap.size := htr.lt _ (by simp [Tr.bl])
  clear h
  go_enter Try.func15, Try.ntmps15
  go_upto_region 3 with fail
  have bd : Below w.heap.size w w.drew := (Below.refl _ _).drew
  have hTd := HTR.out _ bd
  obtain ⟨w1, C1, m1, b1, z1⟩ := clone_nodes hTd.nodes
  replace m1 : M.MapAt w1 w.heap.size IdK.v IdK.ok (entN s.N) := m1
  replace z1 : w1.heap.size = w.heap.size + 1 := z1
  have b01 : Below w.heap.size w w1 := bd.trans (b1.mono bd.size)
  refine fork3 (fun W => Below w.heap.size w W) (fun W => W = w1) (fun pv W => ∃ bn2 br2 t2, pv = .pointer (some ⟨t2, 0, none⟩) ∧ TrAt W ⟨t2, bn2, br2, s.N, [], s.last⟩ ∧ Below w.heap.size w W ∧ w.heap.size ≤ bn2 ∧ w.heap.size ≤ br2 ∧ w.heap.size ≤ t2) s.t (.map (some s.bn)) (.map (some s.br)) (.int .i64 (s.R.length : Int)) (.pointer s.last) (.map (some w.heap.size)) _ w _ rfl rfl bd ?_ ?_ ?_ ?_ ?_ ?_ ?_
  · exact C1.mono fun e w' ⟨h1, h2⟩ => ⟨h1, by rw [h2]; exact b01, h2⟩
  · rintro W rfl
    have b2 : Below W.heap.size W (W.alloc (.map #[] 0)) := (Below.refl _ _).alloc (Nat.le_refl _) _
    have m2 : M.MapAt (W.alloc (.map #[] 0)) W.heap.size IdK.v IdK.ok (entR []) := M.MapAt.new W IdK.v IdK.ok
    have z2 : (W.alloc (.map #[] 0)).heap.size = W.heap.size + 1 := by simp
    have em := run_makeMapN s.R.length W
    generalize W.alloc (.map #[] 0) = w2 at *
    have b02 := b01.trans (b2.mono b01.size)
    have b3 : Below w2.heap.size w2 (w2.alloc (.cells #[.map (some w.heap.size), .map (some W.heap.size), .pointer s.last] 82)) := (Below.refl _ _).alloc (Nat.le_refl _) _
    have hc := heap_alloc_new w2 (.cells #[.map (some w.heap.size), .map (some W.heap.size), .pointer s.last] 82)
    have eb := box_tree w.heap.size W.heap.size s.last w2
    refine ⟨_, w2, _, _, _, em, b02, fun X => build_tree _ _ _ X, eb, b02.trans (b3.mono b02.size), w.heap.size, W.heap.size, w2.heap.size, rfl, ⟨hc, (m1.below (b2.block _ (by omega))).below (b3.block _ (by omega)), m2.below (b3.block _ (by omega)), by simp, hTd.uok, ?_⟩, b02.trans (b3.mono b02.size), ?_, ?_, ?_⟩
    · exact (nodup3 (show w2.heap.size ≠ w.heap.size by omega) (show w2.heap.size ≠ W.heap.size by omega) (show w.heap.size ≠ W.heap.size by omega) : [w2.heap.size, w.heap.size, W.heap.size].Nodup)
    · exact Nat.le_refl _
    · exact b01.size
    · have := b02.size; omega
  · intro W hW
    have := M.run_mlen (P := Try.prog) (ty := 3) Try.underlying80 (HTR.out _ hW).rows
    rw [entR, M.onV_len] at this
    exact this
  · exact fun W hW => load_nodes (HTR.out _ hW).c0
  · exact fun W hW => load_rows (HTR.out _ hW).c1
  · intro W hW
    have c2 := (HTR.out _ hW).c2
    have : W.cell? ⟨s.t, 0 + 2, none⟩ = some (.pointer s.last) := by rw [Nat.zero_add]; exact c2
    go_simp
  rintro mv bv pv a' w3 ⟨bn2, br2, t2, rfl, hT2, b3, g1, g2, g3⟩ ha
  subst ha
  simp only [Act.put, List.setIfInBounds_toArray, List.set_cons_zero, List.set_cons_succ]
  clear C1 m1 b1 z1 b01 hTd bd
  have hT3 := HTR.out _ b3
  have c1 := hT3.c1
  obtain ⟨w4, hrg, it4, z4, b4⟩ := M.range_any (P := Try.prog) Try.underlying80 hT3.rows
  obtain ⟨r, hr⟩ : ∃ r, w3.heap.size = r := ⟨_, rfl⟩
  rw [hr] at hrg it4
  have ERG := hidMk hrg
  have HR := hidMk (show w.heap.size ≤ r ∧ (∀ j, j = bn2 ∨ j = br2 ∨ j = t2 → j < r) by
    refine ⟨by rw [← hr]; exact b3.size, fun j hj => ?_⟩
    rw [← hr]
    rcases hj with rfl | rfl | rfl
    · exact hT2.nodes.lt
    · exact hT2.rows.lt
    · exact hT2.lt _ (by simp [Tr.bl]))
  have HT2 := hidMk (hT2.below b4)
  have IT4 := hidMk it4
  have BB4 := hidMk (b3.trans (b4.mono b3.size))
  clear hrg it4 z4 b4 hr hT2 hT3 b3
  go_upto_region 5 with (first
    | (refine wpList_run rfl (exec_range (t := 80) (xv := .map (some s.br)) (v := .pointer (some ⟨r, 0, none⟩)) (w2 := w4) rfl rfl ERG.out) ?_)
    | fail)
  clear c1 ERG
  simp only [Act.put, List.setIfInBounds_toArray, List.set_cons_zero, List.set_cons_succ]
  go_loopw [] (fun wr => ∃ (R' : List (IdK × (Nat × List IdK))) (T : List (IdK × Value)), M.Iter wr s.br r IdK.v (entR s.R) T ∧ TrAt wr ⟨t2, bn2, br2, s.N, R', s.last⟩ ∧ Below w.heap.size w wr ∧ Cp s.R R' T ∧ Abv r R') (fun wr => wr.rangeLeft s.br r)
  case atStart => exact ⟨[], entR s.R, IT4.out, HT2.out, BB4.out, Cp.start HKY.out, fun q hq => by cases hq⟩
  case round =>
    clear IT4 HT2 BB4
    obtain ⟨R', T, it, hT, bel, cp, hrow⟩ := hrel
    have HIT := hidMk (iter_left it)
    rcases M.next_any (P := Try.prog) (ty := 0) it with ⟨rfl, hnx⟩ | ⟨A, p, Bq, w5, hTe, hnx, it5, now5, t5, z5⟩
    · have HN := hidMk hnx
      have HTT := hidMk hT
      have HBL := hidMk bel
      have HCP := hidMk cp
      have HRW := hidMk hrow
      clear hnx hT bel cp hrow it HIT
      go_wp2_with (first
        | (refine wpList_run rfl (exec_next (xv := .pointer (some ⟨r, 0, none⟩)) (v := .tuple #[.bool false]) (w2 := wr) rfl rfl HN.out) ?_)
        | fail)
      go_ret
      have ho := HOW.out
      have hr := HR.out
      have big : ∀ j ∈ Tr.bl ⟨t2, bn2, br2, s.N, R', s.last⟩, w.heap.size ≤ j := fun j hj => by
        simp only [Tr.bl, List.mem_cons] at hj
        rcases hj with rfl | rfl | rfl | hj
        · exact g3
        · exact g1
        · exact g2
        · obtain ⟨q, hq, rfl⟩ := List.mem_map.1 hj
          have := HRW.out q hq
          omega
      refine ⟨⟨t2, bn2, br2, s.N, R', s.last⟩, rfl, ⟨⟨HTT.out, HCP.out.rows ho.tree.rows, ho.tree.last, ho.tree.hist.same fun q hq x hx => HBL.out.block x (ho.tree.hist.lt q hq x hx), fun q hq x hx hj => ?_, ho.tree.ok⟩, ho.eq, ho.ft, fun j hj => Nat.le_trans hB (big j hj), ho.hge⟩, HBL.out, big⟩
      have l1 := ho.tree.hist.lt q hq x hx
      have l2 := big x hj
      omega
    · obtain ⟨b0, l, hpR, hp2⟩ := entR_mem (cp.d3 p (by rw [hTe]; simp))
      have hpo : p.1.ok := (HTR.out _ bel).rows.2.2 p (cp.d3 p (by rw [hTe]; simp))
      have lrr : r < wr.heap.size := by obtain ⟨⟨_, _, _, _, hr⟩, _⟩ := iter_r it; exact (Array.getElem?_eq_some_iff.1 hr).1
      have hr1 := HR.out
      have bel5 : Below w.heap.size w w5 := bel.trans (t5.below bel.size (fun j e => by omega))
      have nr : ∀ j ∈ Tr.bl ⟨t2, bn2, br2, s.N, R', s.last⟩, j ≠ r := fun j hj e => by
        simp only [Tr.bl, List.mem_cons] at hj
        rcases hj with q | q | q | hj
        · have := hr1.2 j (Or.inr (Or.inr q)); omega
        · have := hr1.2 j (Or.inl q); omega
        · have := hr1.2 j (Or.inr (Or.inl q)); omega
        · obtain ⟨q, hq, e2⟩ := List.mem_map.1 hj
          have := hrow q hq
          omega
      have hT5 : TrAt w5 ⟨t2, bn2, br2, s.N, R', s.last⟩ := hT.same fun j hj => t5.block j (hT.lt j hj) (nr j hj)
      obtain ⟨w6, e6, e7⟩ := id_new w5 p.1 hpo
      obtain ⟨w7, hw7⟩ : ∃ w7, w5.alloc (.cells p.1.c.toArray 37) = w7 := ⟨_, rfl⟩
      have b7 : Below w5.heap.size w5 w7 := by rw [← hw7]; exact (Below.refl _ _).alloc (Nat.le_refl _) _
      have hx7 : IdAt w7 w5.heap.size p.1 := by rw [← hw7]; exact heap_alloc_new _ _
      have z7 : w5.heap.size < w7.heap.size := by rw [← hw7]; simp
      rw [hw7] at e7
      have hT7 := hT5.below b7
      have lb5 : s.br < w5.heap.size := by obtain ⟨_, _, _, hb⟩ := iter_r it5; exact (Array.getElem?_eq_some_iff.1 hb).1
      have lr5 : r < w5.heap.size := by obtain ⟨⟨_, _, _, _, hr⟩, _⟩ := iter_r it5; exact (Array.getElem?_eq_some_iff.1 hr).1
      have it7 := it5.same (b7.block s.br lb5) (b7.block r lr5)
      have bel7 : Below w.heap.size w w7 := bel5.trans (b7.mono bel5.size)
      have bd7 : Below w7.heap.size w7 w7.drew := (Below.refl _ _).drew
      have hT8 := hT7.below bd7
      have it8 : M.Iter w7.drew s.br r IdK.v (entR s.R) (A ++ Bq) := it7.same rfl rfl
      have bel8 : Below w.heap.size w w7.drew := bel7.drew
      have hrowM := (HTR.out _ bel8).row _ hpR
      obtain ⟨w9, C9, m9, b9, z9⟩ := clone_row hrowM
      have hT9 := hT8.below b9
      have lb8 : s.br < w7.drew.heap.size := by have := b7.size; show s.br < w7.heap.size; omega
      have lr8 : r < w7.drew.heap.size := by have := b7.size; show r < w7.heap.size; omega
      have it9 := it8.same (b9.block s.br lb8) (b9.block r lr8)
      have bel9 := bel8.trans (b9.mono bel8.size)
      obtain ⟨ob, ep, mp⟩ := M.run_put (P := Try.prog) idKey Try.underlying80 hT9.rows p.1 hpo (.map (some w7.drew.heap.size))
      have nb : w7.drew.heap.size ∉ Tr.bl ⟨t2, bn2, br2, s.N, R', s.last⟩ := fun hj => by have := hT8.lt _ hj; omega
      have hlt9 : br2 < w9.heap.size := hT9.rows.lt
      have ne1 : w7.drew.heap.size ≠ br2 := fun e => nb (by simp [Tr.bl, e])
      have hTn := hT9.newRow (w' := M.setM w9 br2 ob) (u := p.1) (b := w7.drew.heap.size) (l := l) (cp.d4 p (by rw [hTe]; simp)) nb (fun j _ hj => M.setM_other ob hj) mp (m9.below (M.setM_other ob ne1))
      have nbr : s.br ≠ br2 := fun e => by have := htr.rows.lt; omega
      have nrr : r ≠ br2 := fun e => by have := hr1.2 br2 (Or.inr (Or.inl rfl)); omega
      have itn := it9.same (w' := M.setM w9 br2 ob) (M.setM_other ob nbr) (M.setM_other ob nrr)
      have beln : Below w.heap.size w (M.setM w9 br2 ob) := M.setM_below ob bel9 g2
      have cpn := (hTe ▸ cp : Cp s.R R' (A ++ p :: Bq)).step HKY.out hT.keys hpR w7.drew.heap.size
      have rown : Abv r (M.put R' p.1 (w7.drew.heap.size, l)) := fun q hq => by
        rcases put_mem hT.keys hq with rfl | ⟨hq, _⟩
        · exact lr8
        · exact hrow q hq
      have FIN : Hid (∃ (R' : List (IdK × (Nat × List IdK))) (T : List (IdK × Value)), M.Iter (M.setM w9 br2 ob) s.br r IdK.v (entR s.R) T ∧ TrAt (M.setM w9 br2 ob) ⟨t2, bn2, br2, s.N, R', s.last⟩ ∧ Below w.heap.size w (M.setM w9 br2 ob) ∧ Cp s.R R' T ∧ Abv r R') := ⟨_, _, itn, hTn, beln, cpn, rown⟩
      have LFT := hidMk (iter_left itn)
      have HTE := hidMk hTe
      have HNX := hidMk hnx
      have HNW := hidMk now5
      have E6 := hidMk e6
      have E7 := hidMk e7
      have EP := hidMk ep
      have H9 := hidMk C9
      have HT8 := hidMk (fun (W : World) (b : Below w7.drew.heap.size w7.drew W) => hT8.below b)
      have HX8 := hidMk (fun (W : World) (b : Below w7.drew.heap.size w7.drew W) => show IdAt W w5.heap.size p.1 from (b.block _ (by show w5.heap.size < w7.heap.size; omega)).trans hx7)
      have hx5 : Hid (w5.heap.size < w7.drew.heap.size) := z7
      have B9 := hidMk b9
      have BN : Hid (Below w7.drew.heap.size w7.drew (M.setM w9 br2 ob) ∨ True) := Or.inr trivial
      clear hTn itn beln cpn rown it it5 it7 it8 it9 hT hT5 hT7 hT8 hT9 bel bel5 bel7 bel8 bel9 b7 bd7 hx7 z7 b9 z9 m9 mp hrowM C9 ep e6 e7 hnx now5 t5 z5 cp hrow nr hw7
      rw [hp2] at HNX HNW
      go_upto_region 6 with (first
        | (refine wpList_run rfl (exec_next (xv := .pointer (some ⟨r, 0, none⟩)) (v := .tuple #[.bool true, p.1.v, .map (some b0)]) (w2 := w5) rfl rfl HNX.out) ?_)
        | fail)
      refine fork6 (.pointer (some ⟨r, 0, none⟩)) p.1.v (.map (some b0)) (.pointer (some ⟨w5.heap.size, 0, none⟩)) w6 w7 _ w5 _ rfl rfl HNW.out.run E6.out E7.out ?_
      intro a' w' hw' ha
      obtain rfl : w7 = w' := hw'.symm
      subst ha
      simp only [Act.put, List.setIfInBounds_toArray, List.set_cons_zero, List.set_cons_succ]
      clear HNX HNW E6 E7
      go_upto_region 7 with fail
      refine fork7 (fun W => (∀ j, (j = t2 ∨ j = w5.heap.size) → W.heap[j]? = w7.drew.heap[j]?)) (fun W => W = M.setM w9 br2 ob) t2 w5.heap.size (.map (some b0)) (.map (some br2)) p.1.v _ w7 _ rfl rfl rfl rfl (fun _ _ => rfl) ?_ ?_ ?_ ?_
      · refine H9.out.mono ?_
        rintro e w' ⟨he, rfl⟩
        refine ⟨_, _, he, fun j hj => B9.out.block j ?_, EP.out, fun j hj => ?_, rfl⟩
        · rcases hj with rfl | rfl
          · exact (HT8.out _ (Below.refl _ _)).lt _ (by simp [Tr.bl])
          · exact hx5.out
        · have ne : j ≠ br2 := fun e => by
            rcases hj with q | q
            · have hd := (HT8.out _ (Below.refl _ _)).tbl.2.1
              exact hd (by show t2 = br2; omega)
            · have := hr1.2 br2 (Or.inr (Or.inl rfl))
              omega
          rw [M.setM_other ob ne]
          refine B9.out.block j ?_
          rcases hj with rfl | rfl
          · exact (HT8.out _ (Below.refl _ _)).lt _ (by simp [Tr.bl])
          · exact hx5.out
      · intro W hW
        have hc := (hW t2 (Or.inl rfl)).trans (HT8.out _ (Below.refl _ _)).cell
        exact load_rows ((cell_of_row W t2 1 _ _ _ hc).trans rfl)
      · intro W hW
        exact load_id hpo ((hW w5.heap.size (Or.inr rfl)).trans (HX8.out _ (Below.refl _ _)))
      intro v a' w' hw' ha
      subst hw' ha
      simp only [Act.put, List.setIfInBounds_toArray, List.set_cons_zero, List.set_cons_succ]
      clear H9 EP HT8 HX8
      go_wp2
      refine ⟨FIN.out, ?_⟩
      show (M.setM w9 br2 ob).rangeLeft s.br r < wr.rangeLeft s.br r
      rw [LFT.out, HIT.out, HTE.out]
      simp
end Go.Proofs.Ytoofljkgdjjllaa
namespace Go.Proofs.Ytoofljkgdjjllaa
open Go.RowKit
set_option linter.unusedVariables false
set_option linter.unusedSimpArgs false
theorem fg_86_0 (b o : Nat) (w : World) : (Instr.fieldAt 86 (.pointer (some ⟨b, o, none⟩)) 0).run Try.prog w = .ok (.pointer (some ⟨b, o + 0, none⟩)) w := by go_simp
theorem fg_114_0 (b o : Nat) (w : World) : (Instr.fieldAt 114 (.pointer (some ⟨b, o, none⟩)) 0).run Try.prog w = .ok (.pointer (some ⟨b, o + 0, none⟩)) w := by go_simp
theorem fg_114_1 (b o : Nat) (w : World) : (Instr.fieldAt 114 (.pointer (some ⟨b, o, none⟩)) 1).run Try.prog w = .ok (.pointer (some ⟨b, o + 33, none⟩)) w := by go_simp
theorem fg_114_2 (b o : Nat) (w : World) : (Instr.fieldAt 114 (.pointer (some ⟨b, o, none⟩)) 2).run Try.prog w = .ok (.pointer (some ⟨b, o + 66, none⟩)) w := by go_simp
theorem fg_114_3 (b o : Nat) (w : World) : (Instr.fieldAt 114 (.pointer (some ⟨b, o, none⟩)) 3).run Try.prog w = .ok (.pointer (some ⟨b, o + 67, none⟩)) w := by go_simp
def find4_o0 : Oper := ⟨some 19, .move (.tmp 0), 27, "ref.go:47", #[], none⟩
def find4_o1 : Oper := ⟨some 20, .nilCheck (.tmp 19), 0, "ref.go:47", #[⟨0, .data⟩], none⟩
def find4_o2 : Oper := ⟨some 21, .fieldAddr 86 (.tmp 20) 0, 0, "ref.go:47", #[⟨1, .data⟩], none⟩
def find4_o3 : Oper := ⟨some 22, .load 83 (.tmp 21), 83, "ref.go:47", #[⟨2, .data⟩], none⟩
def find4_o4 : Oper := ⟨some 23, .move (.tmp 5), 3, "ref.go:47", #[], none⟩
def find4_o5 : Oper := ⟨some 24, .indexAddr 83 (.tmp 22) (.tmp 23), 0, "ref.go:47", #[⟨3, .data⟩, ⟨4, .data⟩], none⟩
def find4_o6 : Oper := ⟨some 25, .fieldAddr 114 (.tmp 24) 0, 0, "ref.go:47", #[⟨5, .data⟩], none⟩
def find4_o7 : Oper := ⟨some 26, .load 37 (.tmp 25), 37, "ref.go:47", #[⟨6, .data⟩], none⟩
def find4_o8 : Oper := ⟨some 27, .load 37 (.tmp 3), 37, "ref.go:47", #[], none⟩
def find4_o9 : Oper := ⟨some 28, .binOp BinOp.eql 37 (.tmp 26) (.tmp 27) 37, 4, "ref.go:47", #[⟨7, .data⟩, ⟨8, .data⟩], none⟩
def find4_ops : Array Oper := #[find4_o0, find4_o1, find4_o2, find4_o3, find4_o4, find4_o5, find4_o6, find4_o7, find4_o8, find4_o9]
theorem find4 (d bi nb no n c i : Nat) (xv kv : Value) (q : Bool) (S : World → Prop) (a : Act) (w : World) (Q : Exit → Act → World → Prop) (hsz : a.tmps.size = 30)
    (t0 : a.tmps.getD 0 undef = .pointer (some ⟨d, 0, none⟩))
    (t3 : a.tmps.getD 3 undef = .pointer (some ⟨bi, 0, none⟩))
    (t5 : a.tmps.getD 5 undef = .int .i64 (i : Int))
    (h0 : S w.drew)
    (G1 : ∀ W, S W → (Instr.loadAt 83 (.pointer (some ⟨d, 0 + 0, none⟩))).run Try.prog W = .ok (.slice (some ⟨nb, no, none⟩) n c) W)
    (G2 : ∀ W, (Instr.indexAt 83 (.slice (some ⟨nb, no, none⟩) n c) (.int .i64 (i : Int))).run Try.prog W = .ok (.pointer (some ⟨nb, no + i * 68, none⟩)) W)
    (G3 : ∀ W, S W → (Instr.loadAt 37 (.pointer (some ⟨nb, no + i * 68 + 0, none⟩))).run Try.prog W = .ok (xv) W)
    (G4 : ∀ W, S W → (Instr.loadAt 37 (.pointer (some ⟨bi, 0, none⟩))).run Try.prog W = .ok (kv) W)
    (G5 : ∀ W, (eqGuard BinOp.eql 37 (Operand.tmp 26) (Operand.tmp 27) (xv) (kv)).run Try.prog W = .ok () W)
    (G6 : ∀ W, S W → (binOp BinOp.eql 37 (xv) (kv)).run Try.prog W = .ok (.bool q) W)
    (h : ∀ (a' : Act) (w' : World), S w' → a' = ((((((((((a).put (some 19) (.pointer (some ⟨d, 0, none⟩))).put (some 20) (.pointer (some ⟨d, 0, none⟩))).put (some 21) (.pointer (some ⟨d, 0 + 0, none⟩))).put (some 22) (.slice (some ⟨nb, no, none⟩) n c)).put (some 23) (.int .i64 (i : Int))).put (some 24) (.pointer (some ⟨nb, no + i * 68, none⟩))).put (some 25) (.pointer (some ⟨nb, no + i * 68 + 0, none⟩))).put (some 26) (xv)).put (some 27) (kv)).put (some 28) (.bool q) → Q .normal a' w') :
    (Code.region 4 find4_ops true).wp Try.prog Q a w := by
  refine wp_region_noPanic ?_
  refine wp_region_held_drew (S := fun w' => S w') (by kernel_rfl) (h0) (fun hHeld => ?_)
  refine tk 0 find4_o0 (.pointer (some ⟨d, 0, none⟩)) (by rfl) (fun w1 hw => exec_move rfl t0) hHeld (fun a1 e1 => ?_)
  rw [← e1] at h
  have z1 := pz e1 hsz
  clear t0
  replace t3 := pk e1 t3
  replace t5 := pk e1 t5
  have t19 := pq e1 hsz
  clear e1 hsz
  refine tk 1 find4_o1 (.pointer (some ⟨d, 0, none⟩)) (by rfl) (fun w1 hw => exec_nilCheck rfl t19) hHeld (fun a2 e2 => ?_)
  rw [← e2] at h
  have z2 := pz e2 z1
  replace t3 := pk e2 t3
  replace t5 := pk e2 t5
  clear t19
  have t20 := pq e2 z1
  clear e2 z1
  refine tk 2 find4_o2 (.pointer (some ⟨d, 0 + 0, none⟩)) (by rfl) (fun w1 hw => exec_fieldAt rfl t20 (fg_86_0 _ _ _)) hHeld (fun a3 e3 => ?_)
  rw [← e3] at h
  have z3 := pz e3 z2
  replace t3 := pk e3 t3
  replace t5 := pk e3 t5
  clear t20
  have t21 := pq e3 z2
  clear e3 z2
  refine tk 3 find4_o3 (.slice (some ⟨nb, no, none⟩) n c) (by rfl) (fun w1 hw => exec_load rfl t21 (G1 _ hw)) hHeld (fun a4 e4 => ?_)
  rw [← e4] at h
  have z4 := pz e4 z3
  replace t3 := pk e4 t3
  replace t5 := pk e4 t5
  clear t21
  have t22 := pq e4 z3
  clear e4 z3
  refine tk 4 find4_o4 (.int .i64 (i : Int)) (by rfl) (fun w1 hw => exec_move rfl t5) hHeld (fun a5 e5 => ?_)
  rw [← e5] at h
  have z5 := pz e5 z4
  replace t3 := pk e5 t3
  clear t5
  replace t22 := pk e5 t22
  have t23 := pq e5 z4
  clear e5 z4
  refine tk 5 find4_o5 (.pointer (some ⟨nb, no + i * 68, none⟩)) (by rfl) (fun w1 hw => exec_indexAt rfl t22 t23 (G2 _)) hHeld (fun a6 e6 => ?_)
  rw [← e6] at h
  have z6 := pz e6 z5
  replace t3 := pk e6 t3
  clear t22
  clear t23
  have t24 := pq e6 z5
  clear e6 z5
  refine tk 6 find4_o6 (.pointer (some ⟨nb, no + i * 68 + 0, none⟩)) (by rfl) (fun w1 hw => exec_fieldAt rfl t24 (fg_114_0 _ _ _)) hHeld (fun a7 e7 => ?_)
  rw [← e7] at h
  have z7 := pz e7 z6
  replace t3 := pk e7 t3
  clear t24
  have t25 := pq e7 z6
  clear e7 z6
  refine tk 7 find4_o7 (xv) (by rfl) (fun w1 hw => exec_load rfl t25 (G3 _ hw)) hHeld (fun a8 e8 => ?_)
  rw [← e8] at h
  have z8 := pz e8 z7
  replace t3 := pk e8 t3
  clear t25
  have t26 := pq e8 z7
  clear e8 z7
  refine tk 8 find4_o8 (kv) (by rfl) (fun w1 hw => exec_load rfl t3 (G4 _ hw)) hHeld (fun a9 e9 => ?_)
  rw [← e9] at h
  have z9 := pz e9 z8
  clear t3
  replace t26 := pk e9 t26
  have t27 := pq e9 z8
  clear e9 z8
  refine tk 9 find4_o9 (.bool q) (by rfl) (fun w1 hw => exec_binOp rfl t26 t27 (G5 _) (G6 _ hw)) hHeld (fun a10 e10 => ?_)
  rw [← e10] at h
  have z10 := pz e10 z9
  clear t26
  clear t27
  clear e10 z9
  exact wpAnyH_done (by kernel_rfl) (NoPanic.normal (h _ _ (hHeld) rfl)) _
def runder4_o0 : Oper := ⟨some 24, .move (.tmp 0), 27, "ref.go:169", #[], none⟩
def runder4_o1 : Oper := ⟨some 25, .nilCheck (.tmp 24), 0, "ref.go:169", #[⟨0, .data⟩], none⟩
def runder4_o2 : Oper := ⟨some 26, .fieldAddr 86 (.tmp 25) 0, 0, "ref.go:169", #[⟨1, .data⟩], none⟩
def runder4_o3 : Oper := ⟨some 27, .load 83 (.tmp 26), 83, "ref.go:169", #[⟨2, .data⟩], none⟩
def runder4_o4 : Oper := ⟨some 28, .move (.tmp 7), 3, "ref.go:169", #[], none⟩
def runder4_o5 : Oper := ⟨some 29, .indexAddr 83 (.tmp 27) (.tmp 28), 0, "ref.go:169", #[⟨3, .data⟩, ⟨4, .data⟩], none⟩
def runder4_o6 : Oper := ⟨some 30, .fieldAddr 114 (.tmp 29) 1, 0, "ref.go:169", #[⟨5, .data⟩], none⟩
def runder4_o7 : Oper := ⟨some 31, .load 37 (.tmp 30), 37, "ref.go:169", #[⟨6, .data⟩], none⟩
def runder4_o8 : Oper := ⟨some 32, .move (.tmp 0), 27, "ref.go:169", #[{ on := 16, ground := Ground.gcOnly Departure.lateStores }], none⟩
def runder4_o9 : Oper := ⟨some 33, .nilCheck (.tmp 32), 0, "ref.go:169", #[⟨8, .data⟩, { on := 16, ground := Ground.gcOnly Departure.lateStores }], none⟩
def runder4_o10 : Oper := ⟨some 34, .fieldAddr 86 (.tmp 33) 0, 0, "ref.go:169", #[⟨9, .data⟩, { on := 16, ground := Ground.gcOnly Departure.lateStores }], none⟩
def runder4_o11 : Oper := ⟨some 35, .load 83 (.tmp 34), 83, "ref.go:169", #[⟨10, .data⟩, { on := 16, ground := Ground.gcOnly Departure.lateStores }], none⟩
def runder4_o12 : Oper := ⟨some 36, .move (.tmp 7), 3, "ref.go:169", #[{ on := 16, ground := Ground.gcOnly Departure.lateStores }], none⟩
def runder4_o13 : Oper := ⟨some 37, .indexAddr 83 (.tmp 35) (.tmp 36), 0, "ref.go:169", #[⟨11, .data⟩, ⟨12, .data⟩, { on := 16, ground := Ground.gcOnly Departure.lateStores }], none⟩
def runder4_o14 : Oper := ⟨some 38, .fieldAddr 114 (.tmp 37) 2, 0, "ref.go:169", #[⟨13, .data⟩, { on := 16, ground := Ground.gcOnly Departure.lateStores }], none⟩
def runder4_o15 : Oper := ⟨some 39, .load 9 (.tmp 38), 9, "ref.go:169", #[⟨14, .data⟩, { on := 16, ground := Ground.gcOnly Departure.lateStores }], none⟩
def runder4_o16 : Oper := ⟨none, .store 37 (.tmp 4) (.tmp 31), 0, "ref.go:169", #[⟨7, .data⟩, ⟨0, .phase⟩, ⟨1, .phase⟩, ⟨2, .phase⟩, ⟨3, .phase⟩, ⟨4, .phase⟩, ⟨5, .phase⟩, ⟨6, .phase⟩, ⟨7, .phase⟩, { on := 8, ground := Ground.textOnly Departure.lateStores }, { on := 9, ground := Ground.textOnly Departure.lateStores }, { on := 10, ground := Ground.textOnly Departure.lateStores }, { on := 11, ground := Ground.textOnly Departure.lateStores }, { on := 12, ground := Ground.textOnly Departure.lateStores }, { on := 13, ground := Ground.textOnly Departure.lateStores }, { on := 14, ground := Ground.textOnly Departure.lateStores }, { on := 15, ground := Ground.textOnly Departure.lateStores }], none⟩
def runder4_o17 : Oper := ⟨some 5, .assign (.tmp 39), 9, "ref.go:169", #[⟨15, .data⟩, ⟨16, .chain⟩, ⟨0, .phase⟩, ⟨1, .phase⟩, ⟨2, .phase⟩, ⟨3, .phase⟩, ⟨4, .phase⟩, ⟨5, .phase⟩, ⟨6, .phase⟩, ⟨7, .phase⟩, ⟨8, .phase⟩, ⟨9, .phase⟩, ⟨10, .phase⟩, ⟨11, .phase⟩, ⟨12, .phase⟩, ⟨13, .phase⟩, ⟨14, .phase⟩, ⟨15, .phase⟩, ⟨16, .phase⟩], none⟩
def runder4_o18 : Oper := ⟨some 6, .assign (Operand.const (Value.bool true)), 4, "ref.go:169", #[⟨17, .chain⟩, ⟨0, .phase⟩, ⟨1, .phase⟩, ⟨2, .phase⟩, ⟨3, .phase⟩, ⟨4, .phase⟩, ⟨5, .phase⟩, ⟨6, .phase⟩, ⟨7, .phase⟩, ⟨8, .phase⟩, ⟨9, .phase⟩, ⟨10, .phase⟩, ⟨11, .phase⟩, ⟨12, .phase⟩, ⟨13, .phase⟩, ⟨14, .phase⟩, ⟨15, .phase⟩, ⟨16, .phase⟩, ⟨17, .phase⟩], none⟩
def runder4_ops : Array Oper := #[runder4_o0, runder4_o1, runder4_o2, runder4_o3, runder4_o4, runder4_o5, runder4_o6, runder4_o7, runder4_o8, runder4_o9, runder4_o10, runder4_o11, runder4_o12, runder4_o13, runder4_o14, runder4_o15, runder4_o16, runder4_o17, runder4_o18]
theorem runder4 (d rb nb no n c i : Nat) (uv : Value) (ks : ByteArray) (w2 : World) (S : World → Prop) (a : Act) (w : World) (Q : Exit → Act → World → Prop) (hsz : a.tmps.size = 40)
    (t0 : a.tmps.getD 0 undef = .pointer (some ⟨d, 0, none⟩))
    (t4 : a.tmps.getD 4 undef = .pointer (some ⟨rb, 0, none⟩))
    (t7 : a.tmps.getD 7 undef = .int .i64 (i : Int))
    (h0 : S w.drew) (S2 : S w2) (HST : (Instr.storeAt 37 (.pointer (some ⟨rb, 0, none⟩)) uv).run Try.prog w.drew = .ok () w2)
    (G1 : ∀ W, S W → (Instr.loadAt 83 (.pointer (some ⟨d, 0 + 0, none⟩))).run Try.prog W = .ok (.slice (some ⟨nb, no, none⟩) n c) W)
    (G2 : ∀ W, (Instr.indexAt 83 (.slice (some ⟨nb, no, none⟩) n c) (.int .i64 (i : Int))).run Try.prog W = .ok (.pointer (some ⟨nb, no + i * 68, none⟩)) W)
    (G3 : ∀ W, S W → (Instr.loadAt 37 (.pointer (some ⟨nb, no + i * 68 + 33, none⟩))).run Try.prog W = .ok (uv) W)
    (G4 : ∀ W, S W → (Instr.loadAt 9 (.pointer (some ⟨nb, no + i * 68 + 66, none⟩))).run Try.prog W = .ok (.string ks) W)
    (h : ∀ (a' : Act) (w' : World), w' = w2 → a' = ((((((((((((((((((a).put (some 24) (.pointer (some ⟨d, 0, none⟩))).put (some 25) (.pointer (some ⟨d, 0, none⟩))).put (some 26) (.pointer (some ⟨d, 0 + 0, none⟩))).put (some 27) (.slice (some ⟨nb, no, none⟩) n c)).put (some 28) (.int .i64 (i : Int))).put (some 29) (.pointer (some ⟨nb, no + i * 68, none⟩))).put (some 30) (.pointer (some ⟨nb, no + i * 68 + 33, none⟩))).put (some 31) (uv)).put (some 32) (.pointer (some ⟨d, 0, none⟩))).put (some 33) (.pointer (some ⟨d, 0, none⟩))).put (some 34) (.pointer (some ⟨d, 0 + 0, none⟩))).put (some 35) (.slice (some ⟨nb, no, none⟩) n c)).put (some 36) (.int .i64 (i : Int))).put (some 37) (.pointer (some ⟨nb, no + i * 68, none⟩))).put (some 38) (.pointer (some ⟨nb, no + i * 68 + 66, none⟩))).put (some 39) (.string ks)).put (some 5) (.string ks)).put (some 6) (.bool true) → Q .normal a' w') :
    (Code.region 4 runder4_ops true).wp Try.prog Q a w := by
  refine wp_region_noPanic ?_
  refine wp_region_held_drew (S := fun w' => S w') (by kernel_rfl) (h0) (fun hHeld => ?_)
  refine tk 0 runder4_o0 (.pointer (some ⟨d, 0, none⟩)) (by rfl) (fun w1 hw => exec_move rfl t0) hHeld (fun a1 e1 => ?_)
  rw [← e1] at h
  have z1 := pz e1 hsz
  replace t0 := pk e1 t0
  replace t4 := pk e1 t4
  replace t7 := pk e1 t7
  have t24 := pq e1 hsz
  clear e1 hsz
  refine tk 1 runder4_o1 (.pointer (some ⟨d, 0, none⟩)) (by rfl) (fun w1 hw => exec_nilCheck rfl t24) hHeld (fun a2 e2 => ?_)
  rw [← e2] at h
  have z2 := pz e2 z1
  replace t0 := pk e2 t0
  replace t4 := pk e2 t4
  replace t7 := pk e2 t7
  clear t24
  have t25 := pq e2 z1
  clear e2 z1
  refine tk 2 runder4_o2 (.pointer (some ⟨d, 0 + 0, none⟩)) (by rfl) (fun w1 hw => exec_fieldAt rfl t25 (fg_86_0 _ _ _)) hHeld (fun a3 e3 => ?_)
  rw [← e3] at h
  have z3 := pz e3 z2
  replace t0 := pk e3 t0
  replace t4 := pk e3 t4
  replace t7 := pk e3 t7
  clear t25
  have t26 := pq e3 z2
  clear e3 z2
  refine tk 3 runder4_o3 (.slice (some ⟨nb, no, none⟩) n c) (by rfl) (fun w1 hw => exec_load rfl t26 (G1 _ hw)) hHeld (fun a4 e4 => ?_)
  rw [← e4] at h
  have z4 := pz e4 z3
  replace t0 := pk e4 t0
  replace t4 := pk e4 t4
  replace t7 := pk e4 t7
  clear t26
  have t27 := pq e4 z3
  clear e4 z3
  refine tk 4 runder4_o4 (.int .i64 (i : Int)) (by rfl) (fun w1 hw => exec_move rfl t7) hHeld (fun a5 e5 => ?_)
  rw [← e5] at h
  have z5 := pz e5 z4
  replace t0 := pk e5 t0
  replace t4 := pk e5 t4
  replace t7 := pk e5 t7
  replace t27 := pk e5 t27
  have t28 := pq e5 z4
  clear e5 z4
  refine tk 5 runder4_o5 (.pointer (some ⟨nb, no + i * 68, none⟩)) (by rfl) (fun w1 hw => exec_indexAt rfl t27 t28 (G2 _)) hHeld (fun a6 e6 => ?_)
  rw [← e6] at h
  have z6 := pz e6 z5
  replace t0 := pk e6 t0
  replace t4 := pk e6 t4
  replace t7 := pk e6 t7
  clear t27
  clear t28
  have t29 := pq e6 z5
  clear e6 z5
  refine tk 6 runder4_o6 (.pointer (some ⟨nb, no + i * 68 + 33, none⟩)) (by rfl) (fun w1 hw => exec_fieldAt rfl t29 (fg_114_1 _ _ _)) hHeld (fun a7 e7 => ?_)
  rw [← e7] at h
  have z7 := pz e7 z6
  replace t0 := pk e7 t0
  replace t4 := pk e7 t4
  replace t7 := pk e7 t7
  clear t29
  have t30 := pq e7 z6
  clear e7 z6
  refine tk 7 runder4_o7 (uv) (by rfl) (fun w1 hw => exec_load rfl t30 (G3 _ hw)) hHeld (fun a8 e8 => ?_)
  rw [← e8] at h
  have z8 := pz e8 z7
  replace t0 := pk e8 t0
  replace t4 := pk e8 t4
  replace t7 := pk e8 t7
  clear t30
  have t31 := pq e8 z7
  clear e8 z7
  refine tk 8 runder4_o8 (.pointer (some ⟨d, 0, none⟩)) (by rfl) (fun w1 hw => exec_move rfl t0) hHeld (fun a9 e9 => ?_)
  rw [← e9] at h
  have z9 := pz e9 z8
  clear t0
  replace t4 := pk e9 t4
  replace t7 := pk e9 t7
  replace t31 := pk e9 t31
  have t32 := pq e9 z8
  clear e9 z8
  refine tk 9 runder4_o9 (.pointer (some ⟨d, 0, none⟩)) (by rfl) (fun w1 hw => exec_nilCheck rfl t32) hHeld (fun a10 e10 => ?_)
  rw [← e10] at h
  have z10 := pz e10 z9
  replace t4 := pk e10 t4
  replace t7 := pk e10 t7
  replace t31 := pk e10 t31
  clear t32
  have t33 := pq e10 z9
  clear e10 z9
  refine tk 10 runder4_o10 (.pointer (some ⟨d, 0 + 0, none⟩)) (by rfl) (fun w1 hw => exec_fieldAt rfl t33 (fg_86_0 _ _ _)) hHeld (fun a11 e11 => ?_)
  rw [← e11] at h
  have z11 := pz e11 z10
  replace t4 := pk e11 t4
  replace t7 := pk e11 t7
  replace t31 := pk e11 t31
  clear t33
  have t34 := pq e11 z10
  clear e11 z10
  refine tk 11 runder4_o11 (.slice (some ⟨nb, no, none⟩) n c) (by rfl) (fun w1 hw => exec_load rfl t34 (G1 _ hw)) hHeld (fun a12 e12 => ?_)
  rw [← e12] at h
  have z12 := pz e12 z11
  replace t4 := pk e12 t4
  replace t7 := pk e12 t7
  replace t31 := pk e12 t31
  clear t34
  have t35 := pq e12 z11
  clear e12 z11
  refine tk 12 runder4_o12 (.int .i64 (i : Int)) (by rfl) (fun w1 hw => exec_move rfl t7) hHeld (fun a13 e13 => ?_)
  rw [← e13] at h
  have z13 := pz e13 z12
  replace t4 := pk e13 t4
  clear t7
  replace t31 := pk e13 t31
  replace t35 := pk e13 t35
  have t36 := pq e13 z12
  clear e13 z12
  refine tk 13 runder4_o13 (.pointer (some ⟨nb, no + i * 68, none⟩)) (by rfl) (fun w1 hw => exec_indexAt rfl t35 t36 (G2 _)) hHeld (fun a14 e14 => ?_)
  rw [← e14] at h
  have z14 := pz e14 z13
  replace t4 := pk e14 t4
  replace t31 := pk e14 t31
  clear t35
  clear t36
  have t37 := pq e14 z13
  clear e14 z13
  refine tk 14 runder4_o14 (.pointer (some ⟨nb, no + i * 68 + 66, none⟩)) (by rfl) (fun w1 hw => exec_fieldAt rfl t37 (fg_114_2 _ _ _)) hHeld (fun a15 e15 => ?_)
  rw [← e15] at h
  have z15 := pz e15 z14
  replace t4 := pk e15 t4
  replace t31 := pk e15 t31
  clear t37
  have t38 := pq e15 z14
  clear e15 z14
  refine tk 15 runder4_o15 (.string ks) (by rfl) (fun w1 hw => exec_load rfl t38 (G4 _ hw)) hHeld (fun a16 e16 => ?_)
  rw [← e16] at h
  have z16 := pz e16 z15
  replace t4 := pk e16 t4
  replace t31 := pk e16 t31
  clear t38
  have t39 := pq e16 z15
  clear e16 z15
  refine wpAnyH_ready (rs := [16]) (by kernel_rfl) (by simp) ?_
  refine AllReadyH.cons (o := runder4_o16) rfl (fun K hK => ?_) AllReadyH.nil
  skip
  have X := exec_store (P := Try.prog) (a := a16) (o := runder4_o16) rfl t4 t31 HST
  rw [if_pos (by rfl), Oper.wp, X]
  show K _ _
  clear X
  refine hK.out _ _ (S2) (fun hHeld => ?_)
  clear hK K
  change wpAnyH _ _ _ _ _ _ _ a16 _
  refine tk 17 runder4_o17 (.string ks) (by rfl) (fun w1 hw => exec_assign rfl t39) hHeld (fun a18 e18 => ?_)
  rw [← e18] at h
  have z18 := pz e18 z16
  clear t4
  clear t31
  clear t39
  clear e18 z16
  refine tk 18 runder4_o18 (.bool true) (by rfl) (fun w1 hw => exec_assign rfl rfl) hHeld (fun a19 e19 => ?_)
  rw [← e19] at h
  have z19 := pz e19 z18
  clear e19 z18
  exact wpAnyH_done (by kernel_rfl) (NoPanic.normal (h _ _ (rfl) rfl)) _
def named5_o0 : Oper := ⟨some 13, .move (.tmp 3), 41, "law.go:117", #[], none⟩
def named5_o1 : Oper := ⟨some 14, .move (.tmp 0), 23, "law.go:117", #[], none⟩
def named5_o2 : Oper := ⟨some 15, .move (.tmp 4), 3, "law.go:117", #[], none⟩
def named5_o3 : Oper := ⟨some 16, .indexAddr 23 (.tmp 14) (.tmp 15), 0, "law.go:117", #[⟨1, .data⟩, ⟨2, .data⟩], none⟩
def named5_o4 : Oper := ⟨some 17, .fieldAddr 39 (.tmp 16) 1, 0, "law.go:117", #[⟨3, .data⟩], none⟩
def named5_o5 : Oper := ⟨some 18, .load 37 (.tmp 17), 37, "law.go:117", #[⟨4, .data⟩], none⟩
def named5_o6 : Oper := ⟨some 19, .move (.tmp 0), 23, "law.go:117", #[], none⟩
def named5_o7 : Oper := ⟨some 20, .move (.tmp 4), 3, "law.go:117", #[], none⟩
def named5_o8 : Oper := ⟨some 21, .indexAddr 23 (.tmp 19) (.tmp 20), 0, "law.go:117", #[⟨6, .data⟩, ⟨7, .data⟩], none⟩
def named5_o9 : Oper := ⟨some 22, .fieldAddr 39 (.tmp 21) 2, 0, "law.go:117", #[⟨8, .data⟩], none⟩
def named5_o10 : Oper := ⟨some 23, .load 37 (.tmp 22), 37, "law.go:117", #[⟨9, .data⟩], none⟩
def named5_o11 : Oper := ⟨some 24, .buildSlice 41 2 #[(0, .tmp 18), (1, .tmp 23)], 41, "law.go:117", #[⟨5, .data⟩, ⟨10, .data⟩], none⟩
def named5_o12 : Oper := ⟨some 25, .call { callee := Callee.builtin Builtin.append, args := #[.tmp 13, .tmp 24], argTypes := #[41, 41] }, 41, "law.go:117", #[⟨0, .data⟩, ⟨11, .data⟩], none⟩
def named5_o13 : Oper := ⟨some 3, .assign (.tmp 25), 41, "law.go:117", #[⟨12, .data⟩, ⟨12, .chain⟩, ⟨0, .phase⟩, ⟨1, .phase⟩, ⟨2, .phase⟩, ⟨3, .phase⟩, ⟨4, .phase⟩, ⟨5, .phase⟩, ⟨6, .phase⟩, ⟨7, .phase⟩, ⟨8, .phase⟩, ⟨9, .phase⟩, ⟨10, .phase⟩, ⟨11, .phase⟩, ⟨12, .phase⟩], none⟩
def named5_ops : Array Oper := #[named5_o0, named5_o1, named5_o2, named5_o3, named5_o4, named5_o5, named5_o6, named5_o7, named5_o8, named5_o9, named5_o10, named5_o11, named5_o12, named5_o13]
theorem named5 (b o n c i : Nat) (uv av bv lv rv : Value) (w1 w2 : World) (S : World → Prop) (a : Act) (w : World) (Q : Exit → Act → World → Prop) (hsz : a.tmps.size = 27)
    (t0 : a.tmps.getD 0 undef = .slice (some ⟨b, o, none⟩) n c)
    (t3 : a.tmps.getD 3 undef = uv)
    (t4 : a.tmps.getD 4 undef = .int .i64 (i : Int))
    (h0 : S w.drew) (S1 : S w1) (S2 : S w2) (EB : (Instr.buildSlice 41 2 #[(0, av), (1, bv)]).run Try.prog w.drew = .ok lv w1) (EA : (Builtin.append_ #[41, 41] 41 #[uv, lv]).run Try.prog w1 = .ok rv w2)
    (G1 : ∀ W, (Instr.indexAt 23 (.slice (some ⟨b, o, none⟩) n c) (.int .i64 (i : Int))).run Try.prog W = .ok (.pointer (some ⟨b, o + i * 69, none⟩)) W)
    (G2 : ∀ W, S W → (Instr.loadAt 37 (.pointer (some ⟨b, o + i * 69 + 1, none⟩))).run Try.prog W = .ok (av) W)
    (G3 : ∀ W, S W → (Instr.loadAt 37 (.pointer (some ⟨b, o + i * 69 + 34, none⟩))).run Try.prog W = .ok (bv) W)
    (h : ∀ (a' : Act) (w' : World), w' = w2 → a' = ((((((((((((((a).put (some 13) (uv)).put (some 14) (.slice (some ⟨b, o, none⟩) n c)).put (some 15) (.int .i64 (i : Int))).put (some 16) (.pointer (some ⟨b, o + i * 69, none⟩))).put (some 17) (.pointer (some ⟨b, o + i * 69 + 1, none⟩))).put (some 18) (av)).put (some 19) (.slice (some ⟨b, o, none⟩) n c)).put (some 20) (.int .i64 (i : Int))).put (some 21) (.pointer (some ⟨b, o + i * 69, none⟩))).put (some 22) (.pointer (some ⟨b, o + i * 69 + 34, none⟩))).put (some 23) (bv)).put (some 24) (lv)).put (some 25) (rv)).put (some 3) (rv) → Q .normal a' w') :
    (Code.region 5 named5_ops true).wp Try.prog Q a w := by
  refine wp_region_noPanic ?_
  refine wp_region_held_drew (S := fun w' => S w') (by kernel_rfl) (h0) (fun hHeld => ?_)
  refine tk 0 named5_o0 (uv) (by rfl) (fun w1 hw => exec_move rfl t3) hHeld (fun a1 e1 => ?_)
  rw [← e1] at h
  have z1 := pz e1 hsz
  replace t0 := pk e1 t0
  clear t3
  replace t4 := pk e1 t4
  have t13 := pq e1 hsz
  clear e1 hsz
  refine tk 1 named5_o1 (.slice (some ⟨b, o, none⟩) n c) (by rfl) (fun w1 hw => exec_move rfl t0) hHeld (fun a2 e2 => ?_)
  rw [← e2] at h
  have z2 := pz e2 z1
  replace t0 := pk e2 t0
  replace t4 := pk e2 t4
  replace t13 := pk e2 t13
  have t14 := pq e2 z1
  clear e2 z1
  refine tk 2 named5_o2 (.int .i64 (i : Int)) (by rfl) (fun w1 hw => exec_move rfl t4) hHeld (fun a3 e3 => ?_)
  rw [← e3] at h
  have z3 := pz e3 z2
  replace t0 := pk e3 t0
  replace t4 := pk e3 t4
  replace t13 := pk e3 t13
  replace t14 := pk e3 t14
  have t15 := pq e3 z2
  clear e3 z2
  refine tk 3 named5_o3 (.pointer (some ⟨b, o + i * 69, none⟩)) (by rfl) (fun w1 hw => exec_indexAt rfl t14 t15 (G1 _)) hHeld (fun a4 e4 => ?_)
  rw [← e4] at h
  have z4 := pz e4 z3
  replace t0 := pk e4 t0
  replace t4 := pk e4 t4
  replace t13 := pk e4 t13
  clear t14
  clear t15
  have t16 := pq e4 z3
  clear e4 z3
  refine tk 4 named5_o4 (.pointer (some ⟨b, o + i * 69 + 1, none⟩)) (by rfl) (fun w1 hw => exec_fieldAt rfl t16 (fg_39_1 _ _ _)) hHeld (fun a5 e5 => ?_)
  rw [← e5] at h
  have z5 := pz e5 z4
  replace t0 := pk e5 t0
  replace t4 := pk e5 t4
  replace t13 := pk e5 t13
  clear t16
  have t17 := pq e5 z4
  clear e5 z4
  refine tk 5 named5_o5 (av) (by rfl) (fun w1 hw => exec_load rfl t17 (G2 _ hw)) hHeld (fun a6 e6 => ?_)
  rw [← e6] at h
  have z6 := pz e6 z5
  replace t0 := pk e6 t0
  replace t4 := pk e6 t4
  replace t13 := pk e6 t13
  clear t17
  have t18 := pq e6 z5
  clear e6 z5
  refine tk 6 named5_o6 (.slice (some ⟨b, o, none⟩) n c) (by rfl) (fun w1 hw => exec_move rfl t0) hHeld (fun a7 e7 => ?_)
  rw [← e7] at h
  have z7 := pz e7 z6
  clear t0
  replace t4 := pk e7 t4
  replace t13 := pk e7 t13
  replace t18 := pk e7 t18
  have t19 := pq e7 z6
  clear e7 z6
  refine tk 7 named5_o7 (.int .i64 (i : Int)) (by rfl) (fun w1 hw => exec_move rfl t4) hHeld (fun a8 e8 => ?_)
  rw [← e8] at h
  have z8 := pz e8 z7
  clear t4
  replace t13 := pk e8 t13
  replace t18 := pk e8 t18
  replace t19 := pk e8 t19
  have t20 := pq e8 z7
  clear e8 z7
  refine tk 8 named5_o8 (.pointer (some ⟨b, o + i * 69, none⟩)) (by rfl) (fun w1 hw => exec_indexAt rfl t19 t20 (G1 _)) hHeld (fun a9 e9 => ?_)
  rw [← e9] at h
  have z9 := pz e9 z8
  replace t13 := pk e9 t13
  replace t18 := pk e9 t18
  clear t19
  clear t20
  have t21 := pq e9 z8
  clear e9 z8
  refine tk 9 named5_o9 (.pointer (some ⟨b, o + i * 69 + 34, none⟩)) (by rfl) (fun w1 hw => exec_fieldAt rfl t21 (fg_39_2 _ _ _)) hHeld (fun a10 e10 => ?_)
  rw [← e10] at h
  have z10 := pz e10 z9
  replace t13 := pk e10 t13
  replace t18 := pk e10 t18
  clear t21
  have t22 := pq e10 z9
  clear e10 z9
  refine tk 10 named5_o10 (bv) (by rfl) (fun w1 hw => exec_load rfl t22 (G3 _ hw)) hHeld (fun a11 e11 => ?_)
  rw [← e11] at h
  have z11 := pz e11 z10
  replace t13 := pk e11 t13
  replace t18 := pk e11 t18
  clear t22
  have t23 := pq e11 z10
  clear e11 z10
  refine wpAnyH_ready (rs := [11]) (by kernel_rfl) (by simp) ?_
  refine AllReadyH.cons (o := named5_o11) rfl (fun K hK => ?_) AllReadyH.nil
  skip
  have X := exec_buildSlice2 (P := Try.prog) (a := a11) (o := named5_o11) rfl t18 t23 EB
  rw [if_pos (by rfl), Oper.wp, X]
  show K _ _
  clear X
  refine hK.out _ _ (S1) (fun hHeld => ?_)
  clear hK K
  change wpAnyH _ _ _ _ _ _ _ (a11.put (some 24) (lv)) _
  obtain ⟨a12, e12⟩ : ∃ act, act = a11.put (some 24) (lv) := ⟨_, rfl⟩
  rw [← e12] at h ⊢
  have z12 := pz e12 z11
  replace t13 := pk e12 t13
  clear t18
  clear t23
  have t24 := pq e12 z11
  clear e12 z11
  refine wpAnyH_ready (rs := [12]) (by kernel_rfl) (by simp) ?_
  refine AllReadyH.cons (o := named5_o12) rfl (fun K hK => ?_) AllReadyH.nil
  skip
  have X := exec_append (P := Try.prog) (a := a12) (o := named5_o12) rfl t13 t24 EA
  rw [if_pos (by rfl), Oper.wp, X]
  show K _ _
  clear X
  refine hK.out _ _ (S2) (fun hHeld => ?_)
  clear hK K
  change wpAnyH _ _ _ _ _ _ _ (a12.put (some 25) (rv)) _
  obtain ⟨a13, e13⟩ : ∃ act, act = a12.put (some 25) (rv) := ⟨_, rfl⟩
  rw [← e13] at h ⊢
  have z13 := pz e13 z12
  clear t13
  clear t24
  have t25 := pq e13 z12
  clear e13 z12
  refine tk 13 named5_o13 (rv) (by rfl) (fun w1 hw => exec_assign rfl t25) hHeld (fun a14 e14 => ?_)
  rw [← e14] at h
  have z14 := pz e14 z13
  clear t25
  clear e14 z13
  exact wpAnyH_done (by kernel_rfl) (NoPanic.normal (h _ _ (rfl) rfl)) _
def pairs (L : List OpV) : List IdK := L.flatMap fun o => [o.id, o.under]
def namedL (L : List OpV) : List IdK := zId :: pairs L
theorem pairs_app (L M : List OpV) : pairs (L ++ M) = pairs L ++ pairs M := by simp [pairs]
theorem pairs_len : ∀ L : List OpV, (pairs L).length = 2 * L.length
  | [] => rfl
  | x :: L => by
    have := pairs_len L
    simp only [pairs, List.flatMap_cons, List.length_append, List.length_cons, List.length_nil] at this ⊢
    omega
theorem namedL_ok {L : List OpV} (h : ∀ x ∈ L, x.ok) : ∀ y ∈ namedL L, y.ok := by
  intro y hy
  rcases List.mem_cons.1 hy with rfl | hy
  · exact zId_ok
  · obtain ⟨o, ho, hm⟩ := List.mem_flatMap.1 hy
    simp at hm
    rcases hm with rfl | rfl
    · exact (h o ho).id
    · exact (h o ho).under
theorem own_lit1 (w : World) (x : IdK) (hx : x.ok) : OwnI (w.alloc (.cells x.c.toArray 37)) w.heap.size (.slice (some ⟨w.heap.size, 0, none⟩) 1 1) [x] := by
  have l := IdK.len hx
  refine ⟨by simp [flatI, l], Or.inr ⟨w.heap.size, 1, x.c.toArray, rfl, Nat.le_refl _, heap_alloc_new _ _, by simp, by unfold maxLen; omega, by simp [l], ?_⟩⟩
  rw [List.length_cons, List.length_nil, List.toList_toArray, List.take_of_length_le (by omega)]
  simp [flatI]
theorem below_grown {w w' : World} {B : Nat} {v : Value} {L : List IdK} (own : OwnI w B v L) (hB : B ≤ w.heap.size) (g : w.grownBy w' v.ownBlock) : Below B w w' :=
  ⟨g.os, g.tape, g.output, g.size, fun j hj => g.block j (Nat.lt_of_lt_of_le hj hB) (fun e => by have := (own.ge j e.symm).1; omega)⟩
theorem named_any (a : Option Addr) (c : Nat) (L : List OpV) (w : World) (hL : RowAt 69 OpV.c w a L) (ok : ∀ x ∈ L, x.ok) (hn : L.length ≤ 1256584717422) :
    Calls Try.prog 14 #[.slice a L.length c] w fun e w' => ∃ v, e = .returned v ∧ OwnI w' w.heap.size v (namedL L) ∧ Below w.heap.size w w' := by
  obtain ⟨n, hnn⟩ : ∃ n, L.length = n := ⟨_, rfl⟩
  have HNn := hidMk hnn
  have HLn := hidMk hn
  rw [hnn]
  clear hnn hn
  go_enter Try.func14, Try.ntmps14
  have ebs : Hid ((Instr.buildSlice 41 1 #[(0, zId.v)]).run Try.prog w = .ok (.slice (some ⟨w.heap.size, 0, none⟩) 1 1) (w.alloc (.cells zId.c.toArray 37))) := run_bsI zId zId_ok w
  have own1 := own_lit1 w zId zId_ok
  have bel1 : Below w.heap.size w (w.alloc (.cells zId.c.toArray 37)) := (Below.refl _ _).alloc (Nat.le_refl _) _
  go_wp2_with (first
    | (refine wpList_val rfl (exec_build0 rfl (build_id _)) ?_)
    | (refine wpList_run rfl (exec_buildSlice (t := 41) (n := 1) (xv := zId.v) (v := .slice (some ⟨w.heap.size, 0, none⟩) 1 1) rfl rfl ebs.out) ?_)
    | fail)
  generalize w.alloc (.cells zId.c.toArray 37) = w1 at *
  generalize Value.slice (some ⟨w.heap.size, 0, none⟩) 1 1 = v1 at *
  go_loopw [3, 4] (fun v3 v4 wr => ∃ i : Nat, v4 = .int .i64 (i : Int) ∧ i ≤ n ∧ OwnI wr w.heap.size v3 (namedL (L.take i)) ∧ Below w.heap.size w wr) (fun v3 v4 wr => n - (match v4 with | .int _ i => i.toNat | _ => 0))
  case atStart => exact ⟨0, rfl, Nat.zero_le _, own1, bel1⟩
  case round =>
    clear own1 bel1 ebs
    obtain ⟨i, rfl, hin, own, bel⟩ := hrel
    have hLn := HNn.out
    by_cases hi : i < n
    · have hxi : L[i]? = some L[i] := List.getElem?_eq_getElem (by omega)
      generalize L[i] = x at hxi
      have hxo : x.ok := ok x (List.mem_of_getElem? hxi)
      obtain ⟨b, o, rfl, lb, hr⟩ : ∃ b o, a = some ⟨b, o, none⟩ ∧ b < w.heap.size ∧ w.rangeAt b (o + i * 69) x.c := by
        rcases hL with rfl | ⟨b, o, e, h1, h2⟩
        · simp at hxi
        · exact ⟨b, o, e, h1, h2 i x hxi⟩
      have hbig := HLn.out
      have HR := hidMk (fun (W : World) (bb : Below w.heap.size w W) => rangeAt_keep hr (bb.block _ lb))
      obtain ⟨u, wu, eu, ⟨au, cu, rfl, iu⟩, lu⟩ := bs2_id x.id x.under hxo.id hxo.under wr.drew
      have beld : Below w.heap.size w wr.drew := bel.drew
      have belu : Below w.heap.size w wu := beld.trans (lu.mono beld.size)
      have ownd : OwnI wr.drew w.heap.size u3 (namedL (L.take i)) := own
      have ownu := ownd.below lu
      have htl : (L.take i).length = i := by simp; omega
      have hnl : (namedL (L.take i)).length = 1 + 2 * i := by rw [namedL, List.length_cons, pairs_len, htl]; omega
      obtain ⟨v3', wv, eap, own3, g3, _⟩ := run_appI wu w.heap.size u3 (namedL (L.take i)) au [x.id, x.under] cu ownu iu (by
        intro y hy
        simp at hy
        rcases hy with rfl | rfl
        · exact hxo.id
        · exact hxo.under) (by rw [hnl]; simp; omega) belu.size
      have belv : Below w.heap.size w wv := belu.trans (below_grown ownu belu.size g3)
      have hnext : namedL (L.take i) ++ [x.id, x.under] = namedL (L.take (i + 1)) := by
        rw [List.take_add_one, hxi]
        show zId :: (pairs (L.take i) ++ [x.id, x.under]) = zId :: pairs (L.take i ++ [x])
        rw [pairs_app]
        rfl
      rw [hnext] at own3
      have HO := hidMk own3
      clear own3 hnext hnl htl hxi own ownd ownu g3
      go_upto_region 5 with fail
      refine named5 b o n c i u3 x.id.v x.under.v (.slice au 2 cu) v3' wu wv (fun wx => Below w.heap.size w wx) _ wr _ rfl rfl rfl rfl beld belu belv eu eap ?_ ?_ ?_ ?_
      · exact fun W => ix_op hi (by omega) W
      · exact fun W hw => op_id hxo (HR.out W hw)
      · exact fun W hw => op_under hxo (HR.out W hw)
      intro a' w' hw' ha
      subst hw' ha
      simp only [Act.put, List.setIfInBounds_toArray, List.set_cons_zero, List.set_cons_succ]
      go_wp2
      rw [show ((i : Int) + 1) = ((i + 1 : Nat) : Int) by omega]
      refine ⟨⟨i + 1, rfl, hi, HO.out, belv⟩, ?_⟩
      show n - ((i + 1 : Nat) : Int).toNat < n - (i : Int).toNat
      omega
    · obtain rfl : i = n := by omega
      rw [List.take_of_length_le (by omega)] at own
      have HO := hidMk own
      clear own hLn hin hi
      go_wp2
      go_ret
      exact ⟨_, rfl, HO.out, bel⟩
structure Tells (w0 : World) (tv : Value) (f : Fn) (D : List IdK) (cl cw ck cu ci cd : Nat) : Prop where
  len : ∀ W, Below w0.heap.size w0 W → Calls Try.prog cl #[tv] W fun e w' => e = .returned (.int .i64 (D.length : Int)) ∧ Below W.heap.size W w'
  walk : ∀ W, Below w0.heap.size w0 W → Calls Try.prog cw #[tv] W fun e w' => ∃ v L, e = .returned v ∧ IdsIs L w' v ∧ IsWalk f L ∧ Below W.heap.size W w'
  kids : ∀ k : IdK, k.ok → ∀ W, Below w0.heap.size w0 W → Calls Try.prog ck #[tv, k.v] W fun e w' => ∃ v L, e = .returned v ∧ IdsIs L w' v ∧ IsKids f k L ∧ Below W.heap.size W w'
  under : ∀ k : IdK, k.ok → ∀ W, Below w0.heap.size w0 W → Calls Try.prog cu #[tv, k.v] W fun e w' => e = .returned (.tuple #[(nd f k).u.v, .string (nd f k).key, .bool ((f k).isSome && !(nd f k).pr)]) ∧ Below W.heap.size W w'
  live : ∀ k : IdK, k.ok → ∀ W, Below w0.heap.size w0 W → Calls Try.prog ci #[tv, k.v] W fun e w' => ∃ b, e = .returned (.bool b) ∧ LiveIs f k b ∧ Below W.heap.size W w'
  deep : ∀ k : IdK, k.ok → ∀ W, Below w0.heap.size w0 W → Calls Try.prog cd #[tv, k.v] W fun e w' => ∃ d, e = .returned (.int .i64 d) ∧ DeepIs f k d ∧ Below W.heap.size W w'
theorem own_is {w : World} {base : Nat} {v : Value} {L : List IdK} (h : OwnI w base v L) (ok : ∀ x ∈ L, x.ok) : IdsIs L w v := by
  obtain ⟨a, c, e, h2, _⟩ := h.open ok
  exact ⟨a, c, e, h2⟩
theorem walk_ok {f : Fn} {D L : List IdK} (hD : Dom f D) (h : IsWalk f L) : ∀ x ∈ L, x.ok := fun x hx => hD.ok x ((hD.mem x).2 (h.there x hx))
theorem tells_own {B : Nat} {w : World} {s : Tr} {H : List Rec} {f : Fn} (h : Own B w s H f) {D : List IdK} (hD : Dom f D) (hl : D.length ≤ 1300000000000) :
    Tells w (.pointer (some ⟨s.t, 0, none⟩)) f D 21 23 24 37 39 29 := {
  len := fun W b => len_own (h.below b) hD
  walk := fun W b => (walk_own (h.below b) hD hl).mono fun e w' ⟨v, L, h1, h2, h3, h4⟩ => ⟨v, L, h1, own_is h2 (walk_ok hD h3), h3, h4⟩
  kids := fun k hk W b => (kids_own (h.below b) hD hl k hk).mono fun e w' ⟨v, L, h1, h2, h3, h4⟩ => ⟨v, L, h1, own_is h2 h3.ok, h3, h4⟩
  under := fun k hk W b => under_own (h.below b) k hk
  live := fun k hk W b => live_own (h.below b) hD hl k hk
  deep := fun k hk W b => deep_own (h.below b) hD hl k hk }
def rnC (p : IdK × NodeV) : List Value := p.1.c ++ (p.2.u.c ++ [.string p.2.key, .bool p.2.pr])
structure RnOk (p : IdK × NodeV) : Prop where
  k : p.1.ok
  u : p.2.u.ok
theorem rn_len {p : IdK × NodeV} (h : RnOk p) : (rnC p).length = 68 := by
  have h1 := IdK.len h.k
  have h2 := IdK.len h.u
  simp [rnC, h1, h2]
structure RefAt (w : World) (d : Nat) (NL : List (IdK × NodeV)) (pv : Value) : Prop where
  cell : ∃ a c, w.heap[d]? = some (.cells #[.slice a NL.length c, pv] 86 (0, 0)) ∧ RowAt 68 rnC w a NL
  ok : ∀ p ∈ NL, RnOk p
  nd : (NL.map (·.1)).Nodup
theorem RefAt.lt {w : World} {d : Nat} {NL : List (IdK × NodeV)} {pv : Value} (h : RefAt w d NL pv) : d < w.heap.size := by
  obtain ⟨a, c, h1, _⟩ := h.cell
  exact (Array.getElem?_eq_some_iff.1 h1).1
theorem RefAt.below {w w' : World} {d : Nat} {NL : List (IdK × NodeV)} {pv : Value} (h : RefAt w d NL pv) (b : Below w.heap.size w w') : RefAt w' d NL pv := by
  have hl := h.lt
  obtain ⟨a, c, h1, h2⟩ := h.cell
  exact ⟨⟨a, c, (b.block _ hl).trans h1, h2.below b⟩, h.ok, h.nd⟩
def fPos (NL : List (IdK × NodeV)) (k : IdK) : Int := match M.fnd NL k 0 with | some (j, _) => (j : Int) | none => -1
theorem fnd_first {NL : List (IdK × NodeV)} {k : IdK} : ∀ {j : Nat} {n : NodeV}, NL[j]? = some (k, n) → (∀ i, i < j → ∀ p, NL[i]? = some p → p.1 ≠ k) → M.fnd NL k 0 = some (j, n) := by
  induction NL with
  | nil => intro j n h; simp at h
  | cons p NL ih =>
    intro j n h hb
    unfold M.fnd
    cases j with
    | zero =>
      simp at h
      subst h
      rw [if_pos rfl]
    | succ j =>
      have h0 := hb 0 (by omega) p rfl
      rw [if_neg (fun e => h0 e.symm), M.fnd_shift]
      have := ih (j := j) (n := n) (by simpa using h) (fun i hi q hq => hb (i + 1) (by omega) q (by simpa using hq))
      rw [this]
      simp
theorem fnd_no {NL : List (IdK × NodeV)} {k : IdK} (h : ∀ p ∈ NL, p.1 ≠ k) : M.fnd NL k 0 = none := by
  cases hf : M.fnd NL k 0 with
  | none => rfl
  | some q =>
    obtain ⟨j, n⟩ := q
    exact absurd rfl (h _ (List.mem_of_getElem? (M.fnd_some hf).1))
theorem ix_rn {b o n c i : Nat} (h : i < n) (hn : n ≤ 9223372036854775807) (w : World) : (Instr.indexAt 83 (.slice (some ⟨b, o, none⟩) n c) (.int .i64 (i : Int))).run Try.prog w = .ok (.pointer (some ⟨b, o + i * 68, none⟩)) w := by go_simp
section
variable {w : World} {b o : Nat} {p : IdK × NodeV}
theorem rn_id (hp : RnOk p) (h : w.rangeAt b o (rnC p)) : (Instr.loadAt 37 (.pointer (some ⟨b, o + 0, none⟩))).run Try.prog w = .ok p.1.v w := by
  refine load_id_at hp.k (fun j v hv => ?_)
  have hl := (List.getElem?_eq_some_iff.1 hv).1
  rw [Nat.add_zero]
  exact h j v (by rw [rnC, List.getElem?_append_left hl]; exact hv)
theorem rn_under (hp : RnOk p) (h : w.rangeAt b o (rnC p)) : (Instr.loadAt 37 (.pointer (some ⟨b, o + 33, none⟩))).run Try.prog w = .ok p.2.u.v w := by
  refine load_id_at hp.u (fun j v hv => ?_)
  have hl := (List.getElem?_eq_some_iff.1 hv).1
  have l1 := IdK.len hp.k
  have := h (33 + j) v (by rw [rnC, List.getElem?_append_right (by omega), l1, show 33 + j - 33 = j by omega, List.getElem?_append_left hl]; exact hv)
  rwa [← Nat.add_assoc] at this
theorem rn_key (hp : RnOk p) (h : w.rangeAt b o (rnC p)) : (Instr.loadAt 9 (.pointer (some ⟨b, o + 66, none⟩))).run Try.prog w = .ok (.string p.2.key) w := by
  have l1 := IdK.len hp.k
  have l2 := IdK.len hp.u
  have hc : w.cell? ⟨b, o + 66, none⟩ = some (.string p.2.key) := h 66 _ (by
    rw [rnC, List.getElem?_append_right (by omega), l1, List.getElem?_append_right (by omega), l2]
    rfl)
  go_simp
theorem rn_pr (hp : RnOk p) (h : w.rangeAt b o (rnC p)) : (Instr.loadAt 4 (.pointer (some ⟨b, o + 67, none⟩))).run Try.prog w = .ok (.bool p.2.pr) w := by
  have l1 := IdK.len hp.k
  have l2 := IdK.len hp.u
  have hc : w.cell? ⟨b, o + 67, none⟩ = some (.bool p.2.pr) := h 67 _ (by
    rw [rnC, List.getElem?_append_right (by omega), l1, List.getElem?_append_right (by omega), l2]
    rfl)
  go_simp
end
theorem load_ns {w : World} {b o : Nat} {v : Value} (h : w.cell? ⟨b, o, none⟩ = some v) : (Instr.loadAt 83 (.pointer (some ⟨b, o, none⟩))).run Try.prog w = .ok v w := by go_simp
theorem find_any (d : Nat) (NL : List (IdK × NodeV)) (pv : Value) (k : IdK) (w : World) (h : RefAt w d NL pv) (hk : k.ok) (hn : NL.length ≤ 1300000000000) :
    Calls Try.prog 77 #[.pointer (some ⟨d, 0, none⟩), k.v] w fun e w' => e = .returned (.int .i64 (fPos NL k)) ∧ Below w.heap.size w w' := by
  have lt := h.lt
  obtain ⟨a, c, hc, hrow⟩ := h.cell
  obtain ⟨n, hnn⟩ : ∃ n, NL.length = n := ⟨_, rfl⟩
  have HNn := hidMk hnn
  have HLn := hidMk hn
  rw [hnn] at hc
  have C0 : w.cell? ⟨d, 0, none⟩ = some (.slice a n c) := by rw [cell_of_row _ _ 0 _ _ _ hc]; rfl
  have HC := hidMk (fun (W : World) (b : Below w.heap.size w W) => (b.cell (p := ⟨d, 0, none⟩) lt).trans C0)
  clear hnn hn hc C0
  unfold IdK.v
  go_enter Try.func77, Try.ntmps77
  obtain ⟨hx, bx, zx⟩ := box_id w k
  have ZX := hidMk zx
  clear zx
  go_upto_region 1 with fail
  generalize w.alloc (.cells k.c.toArray 37) = W at *
  have HX := hidMk (fun (V : World) (b : Below W.heap.size W V) => load_id hk ((b.block _ (by have := ZX.out; omega)).trans hx))
  go_wp2
  go_loopw [5] (fun v5 wr => ∃ i : Nat, v5 = .int .i64 (i : Int) ∧ i ≤ n ∧ (∀ j, j < i → ∀ p, NL[j]? = some p → p.1 ≠ k) ∧ Below W.heap.size W wr) (fun v5 wr => n - (match v5 with | .int _ i => i.toNat | _ => 0))
  case atStart => exact ⟨0, rfl, Nat.zero_le _, fun j hj => (by omega), Below.refl _ _⟩
  case round =>
    obtain ⟨i, rfl, hin, hbf, belW⟩ := hrel
    have bel : Below w.heap.size w wr := bx.trans (belW.mono bx.size)
    have hLn := HNn.out
    have hbig := HLn.out
    have c0 := HC.out wr bel
    by_cases hi : i < n
    · have hxi : NL[i]? = some NL[i] := List.getElem?_eq_getElem (by omega)
      generalize NL[i] = p at hxi
      have hpo := h.ok p (List.mem_of_getElem? hxi)
      obtain ⟨b, o, rfl, lb, hr⟩ : ∃ b o, a = some ⟨b, o, none⟩ ∧ b < w.heap.size ∧ w.rangeAt b (o + i * 68) (rnC p) := by
        rcases hrow with e | ⟨b, o, e, h1, h2⟩
        · rw [e] at hxi; simp at hxi
        · exact ⟨b, o, e, h1, h2 i p hxi⟩
      have HXI := hidMk hxi
      have HB := hidMk hbf
      clear hxi hbf
      go_upto_region 4 with fail
      clear c0
      have beldW : Below W.heap.size W wr.drew := belW.drew
      have bw : ∀ V, Below W.heap.size W V → Below w.heap.size w V := fun V b => bx.trans (b.mono bx.size)
      refine find4 d w.heap.size b o n c i p.1.v k.v (decide (p.1 = k)) (fun V => Below W.heap.size W V) _ wr _ rfl rfl rfl rfl beldW ?_ ?_ ?_ ?_ ?_ ?_ ?_
      · exact fun V hV => load_ns (HC.out V (bw V hV))
      · exact fun V => ix_rn hi (by omega) V
      · exact fun V hV => rn_id hpo (rangeAt_keep hr ((bw V hV).block _ lb))
      · exact fun V hV => HX.out V hV
      · exact fun V => guard_id _ _ p.1 k V _
      · exact fun V hV => eql_id p.1 k hpo.k hk V
      intro a' w' hw' ha
      subst ha
      simp only [Act.put, List.setIfInBounds_toArray, List.set_cons_zero, List.set_cons_succ]
      by_cases e : p.1 = k
      · rw [decide_eq_true e]
        go_wp2
        go_ret
        refine ⟨?_, bw _ hw'⟩
        have hp : p = (k, p.2) := by rw [← e]
        have hx2 := HXI.out
        rw [hp] at hx2
        have := fnd_first hx2 HB.out
        unfold fPos
        rw [this]
        rfl
      · rw [decide_eq_false e]
        go_wp2
        rw [show ((i : Int) + 1) = ((i + 1 : Nat) : Int) by omega]
        refine ⟨⟨i + 1, rfl, hi, fun j hj q hq => ?_, hw'⟩, ?_⟩
        · by_cases ej : j = i
          · subst ej
            rw [HXI.out] at hq
            cases hq
            exact e
          · exact HB.out j (by omega) q hq
        · show n - ((i + 1 : Nat) : Int).toNat < n - (i : Int).toNat
          omega
    · obtain rfl : i = n := by omega
      have hno : M.fnd NL k 0 = none := fnd_no (fun p hp => by
        obtain ⟨j, hj⟩ := List.getElem?_of_mem hp
        exact hbf j (by have := (List.getElem?_eq_some_iff.1 hj).1; omega) p hj)
      have HNO := hidMk hno
      clear hno hbf hLn hin hi
      go_wp2
      go_ret
      exact ⟨by unfold fPos; rw [HNO.out]; rfl, bel⟩
theorem fPos_none {NL : List (IdK × NodeV)} {k : IdK} (h : lookN NL k = none) : fPos NL k = -1 := by
  unfold fPos
  cases hf : M.fnd NL k 0 with
  | none => rfl
  | some q => unfold lookN M.look at h; rw [hf] at h; cases h
theorem fPos_some {NL : List (IdK × NodeV)} {k : IdK} {n : NodeV} (h : lookN NL k = some n) : ∃ j : Nat, fPos NL k = (j : Int) ∧ NL[j]? = some (k, n) ∧ j < NL.length := by
  unfold fPos
  unfold lookN M.look at h
  cases hf : M.fnd NL k 0 with
  | none => rw [hf] at h; cases h
  | some q =>
    obtain ⟨j, m⟩ := q
    rw [hf] at h
    cases h
    have := M.fnd_some hf
    exact ⟨j, rfl, this.1, this.2⟩
section
variable (d : Nat) (NL : List (IdK × NodeV)) (pv : Value)
theorem rlen_any (w : World) (h : RefAt w d NL pv) : Calls Try.prog 34 #[.pointer (some ⟨d, 0, none⟩)] w fun e w' => e = .returned (.int .i64 (NL.length : Int)) ∧ Below w.heap.size w w' := by
  obtain ⟨a, c, hc, _⟩ := h.cell
  have C0 : w.cell? ⟨d, 0, none⟩ = some (.slice a NL.length c) := by rw [cell_of_row _ _ 0 _ _ _ hc]; rfl
  clear hc
  generalize NL.length = n at *
  go_enter Try.func34, Try.ntmps34
  go_wp2
  go_ret
  exact ⟨rfl, Below.refl _ _⟩
theorem rhas_any (k : IdK) (w : World) (h : RefAt w d NL pv) (hk : k.ok) (hn : NL.length ≤ 1300000000000) :
    Calls Try.prog 74 #[.pointer (some ⟨d, 0, none⟩), k.v] w fun e w' => e = .returned (.bool (lookN NL k).isSome) ∧ Below w.heap.size w w' := by
  have HF := hidMk (fun (W : World) (b : Below w.heap.size w W) => find_any d NL pv k W (h.below b) hk hn)
  have hq : (0 ≤ fPos NL k) ↔ (lookN NL k).isSome = true := by
    cases hl : lookN NL k with
    | none => rw [fPos_none hl]; simp
    | some n => obtain ⟨j, e, _⟩ := fPos_some hl; rw [e]; simp
  generalize fPos NL k = z at *
  have hz : decide (0 ≤ z) = (lookN NL k).isSome := by rw [Bool.eq_iff_iff, decide_eq_true_eq]; exact hq
  generalize (lookN NL k).isSome = r at *
  clear hq
  unfold IdK.v
  go_enter Try.func74, Try.ntmps74
  obtain ⟨hx, bx, zx⟩ := box_id w k
  have ZX := hidMk zx
  have HZ := hidMk hz
  clear zx hz
  go_upto_region 1 with fail
  generalize w.alloc (.cells k.c.toArray 37) = W at *
  have HL := hidMk (load_id hk hx)
  go_wp2_with (first
    | (refine wpList_val rfl (exec_load (t := 37) (u := .pointer (some ⟨w.heap.size, 0, none⟩)) rfl rfl HL.out) ?_)
    | (go_at_call 77; refine (HF.out _ bx).mono ?_; rintro e w1 ⟨rfl, b1⟩)
    | fail)
  go_ret
  refine ⟨?_, bx.trans (b1.mono bx.size)⟩
  rw [← HZ.out]
  simp
theorem runder_in (k : IdK) (nd0 : NodeV) (w : World) (h : RefAt w d NL pv) (hk : k.ok) (hn : NL.length ≤ 1300000000000) (hl : lookN NL k = some nd0) (hp : nd0.pr = false) :
    Calls Try.prog 38 #[.pointer (some ⟨d, 0, none⟩), k.v] w fun e w' => e = .returned (.tuple #[nd0.u.v, .string nd0.key, .bool true]) ∧ Below w.heap.size w w' := by
  have lt := h.lt
  obtain ⟨j, hj, hji, hjl⟩ := fPos_some hl
  have hpo := h.ok _ (List.mem_of_getElem? hji)
  obtain ⟨a, c, hc, hrow⟩ := h.cell
  obtain ⟨b, o, rfl, lb, hr⟩ : ∃ b o, a = some ⟨b, o, none⟩ ∧ b < w.heap.size ∧ w.rangeAt b (o + j * 68) (rnC (k, nd0)) := by
    rcases hrow with e | ⟨b, o, e, h1, h2⟩
    · rw [e] at hji; simp at hji
    · exact ⟨b, o, e, h1, h2 j _ hji⟩
  obtain ⟨n, hnn⟩ : ∃ n, NL.length = n := ⟨_, rfl⟩
  have HF : Hid (∀ (W : World) (b : Below w.heap.size w W), Calls Try.prog 77 #[.pointer (some ⟨d, 0, none⟩), k.v] W fun e w' => e = .returned (.int .i64 (j : Int)) ∧ Below W.heap.size W w') := fun W b => by rw [← hj]; exact find_any d NL pv k W (h.below b) hk hn
  rw [hnn] at hc hjl
  have C0 : w.cell? ⟨d, 0, none⟩ = some (.slice (some ⟨b, o, none⟩) n c) := by rw [cell_of_row _ _ 0 _ _ _ hc]; rfl
  have HC := hidMk (fun (W : World) (b : Below w.heap.size w W) => (b.cell (p := ⟨d, 0, none⟩) lt).trans C0)
  have HR := hidMk (fun (W : World) (bb : Below w.heap.size w W) => rangeAt_keep hr (bb.block _ lb))
  have HP := hidMk hp
  have hbig : n ≤ 1300000000000 := by omega
  clear hc hnn hn hj hji hrow C0 hr hl hp
  unfold IdK.v
  go_enter Try.func38, Try.ntmps38
  obtain ⟨hx, hrb, bx, zx⟩ := two_boxes w k zId
  have ZX := hidMk zx
  clear zx
  go_upto_region 1 with (first
    | (refine wpList_run rfl (exec_alloc (t := 37) rfl (id_zero _)) ?_)
    | fail)
  generalize (w.alloc (.cells k.c.toArray 37)).alloc (.cells zId.c.toArray 37) = W at *
  have HLD := hidMk (load_id hk hx)
  go_upto_region 2 with (first
    | (refine wpList_val rfl (exec_load (t := 37) (u := .pointer (some ⟨w.heap.size, 0, none⟩)) rfl rfl HLD.out) ?_)
    | (go_at_call 77; refine (HF.out _ bx).mono ?_; rintro e w1 ⟨rfl, b1⟩)
    | fail)
  have hz := ZX.out
  have bel1 : Below w.heap.size w w1 := bx.trans (b1.mono bx.size)
  have hr1 : IdAt w1 (w.heap.size + 1) zId := (b1.block _ (by omega)).trans hrb
  have c0 := HC.out w1 bel1
  have hcp : w1.cell? ⟨b, o + j * 68 + 67, none⟩ = some (.bool false) := by
    have l1 : k.c.length = 33 := IdK.len hpo.k
    have l2 : nd0.u.c.length = 33 := IdK.len hpo.u
    have := HR.out w1 bel1 67 (.bool nd0.pr) (by
      rw [rnC, List.getElem?_append_right (by simp only; omega), l1, List.getElem?_append_right (by simp only; omega), l2]
      rfl)
    rwa [HP.out] at this
  have s1 : W.heap.size ≤ w1.heap.size := b1.size
  clear HLD HF hx hrb b1 bx
  go_upto_region 4 with fail
  clear c0 hcp
  have hr2 : IdAt w1.drew (w.heap.size + 1) zId := hr1
  have bel2 : Below w.heap.size w w1.drew := bel1.drew
  have hno : nd0.u.ok := hpo.u
  have bel3 : Below w.heap.size w (w1.drew.setRow (w.heap.size + 1) nd0.u.c.toArray) := bel2.trans ((setRow_tch w1.drew (w.heap.size + 1) nd0.u.c.toArray).below bel2.size (fun j e => by simp at e; omega))
  refine runder4 d (w.heap.size + 1) b o n c j nd0.u.v nd0.key (w1.drew.setRow (w.heap.size + 1) nd0.u.c.toArray) (fun V => Below w.heap.size w V) _ w1 _ rfl rfl rfl rfl bel2 bel3 (store_id zId_ok hno hr2) ?_ ?_ ?_ ?_ ?_
  · exact fun V hV => load_ns (HC.out V hV)
  · exact fun V => ix_rn hjl (by omega) V
  · exact fun V hV => rn_under hpo (HR.out V hV)
  · exact fun V hV => rn_key hpo (HR.out V hV)
  intro a' w' hw' ha
  subst hw' ha
  simp only [Act.put, List.setIfInBounds_toArray, List.set_cons_zero, List.set_cons_succ]
  have hr4 := hr2.set nd0.u
  generalize w1.drew.setRow (w.heap.size + 1) nd0.u.c.toArray = y3 at *
  go_wp2
  refine bodyPost_ret (results_c3 rfl rfl (loadVar_id hno hr4)) rfl ?_
  exact ⟨rfl, bel3⟩
theorem runder_out (k : IdK) (w : World) (h : RefAt w d NL pv) (hk : k.ok) (hn : NL.length ≤ 1300000000000) (hl : lookN NL k = none ∨ ∃ m, lookN NL k = some m ∧ m.pr = true) :
    Calls Try.prog 38 #[.pointer (some ⟨d, 0, none⟩), k.v] w fun e w' => e = .returned (.tuple #[zId.v, .string ⟨#[]⟩, .bool false]) ∧ Below w.heap.size w w' := by
  have lt := h.lt
  have HF := hidMk (fun (W : World) (b : Below w.heap.size w W) => find_any d NL pv k W (h.below b) hk hn)
  obtain ⟨z, hz⟩ : ∃ z, fPos NL k = z := ⟨_, rfl⟩
  rw [hz] at HF
  have main : ∀ (z : Int) (Pr : World → Prop), (∀ W, Below w.heap.size w W → Pr W) → ((z = -1 ∧ True) ∨ ∃ (j n c b o : Nat), z = (j : Int) ∧ j < n ∧ n ≤ 1300000000000 ∧ ∀ W, Pr W → W.cell? ⟨d, 0, none⟩ = some (.slice (some ⟨b, o, none⟩) n c) ∧ W.cell? ⟨b, o + j * 68 + 67, none⟩ = some (.bool true)) →
      Hid (∀ (W : World) (b : Below w.heap.size w W), Calls Try.prog 77 #[.pointer (some ⟨d, 0, none⟩), k.v] W fun e w' => e = .returned (.int .i64 z) ∧ Below W.heap.size W w') →
      Calls Try.prog 38 #[.pointer (some ⟨d, 0, none⟩), k.v] w fun e w' => e = .returned (.tuple #[zId.v, .string ⟨#[]⟩, .bool false]) ∧ Below w.heap.size w w' := by
    clear hz HF z hl hn h
    intro z Pr HPr hcase HF
    unfold IdK.v
    go_enter Try.func38, Try.ntmps38
    obtain ⟨hx, hrb, bx, zx⟩ := two_boxes w k zId
    have ZX := hidMk zx
    clear zx
    go_upto_region 1 with (first
      | (refine wpList_run rfl (exec_alloc (t := 37) rfl (id_zero _)) ?_)
      | fail)
    generalize (w.alloc (.cells k.c.toArray 37)).alloc (.cells zId.c.toArray 37) = W at *
    have HLD := hidMk (load_id hk hx)
    go_upto_region 2 with (first
      | (refine wpList_val rfl (exec_load (t := 37) (u := .pointer (some ⟨w.heap.size, 0, none⟩)) rfl rfl HLD.out) ?_)
      | (go_at_call 77; refine (HF.out _ bx).mono ?_; rintro e w1 ⟨rfl, b1⟩)
      | fail)
    have hz := ZX.out
    have bel1 : Below w.heap.size w w1 := bx.trans (b1.mono bx.size)
    have hr1 : IdAt w1 (w.heap.size + 1) zId := (b1.block _ (by omega)).trans hrb
    have st1 := hidMk (store_id zId_ok zId_ok hr1)
    have hr2 := hr1.set zId
    have bel2 : Below w.heap.size w (w1.setRow (w.heap.size + 1) zId.c.toArray) := bel1.trans ((setRow_tch w1 (w.heap.size + 1) zId.c.toArray).below bel1.size (fun j e => by simp at e; omega))
    have HP1 := HPr w1 bel1
    clear HLD HF hx hrb b1 bx hz
    rcases hcase with ⟨rfl, _⟩ | ⟨j, n, c, b, o, rfl, hjl, hbig, hcs⟩
    · clear HP1
      go_wp2_with (first
        | (refine wpList_val rfl (exec_build0 rfl (build_id _)) ?_)
        | (refine wpList_skip rfl rfl (exec_store (t := 37) (xv := .pointer (some ⟨w.heap.size + 1, 0, none⟩)) (yv := zId.v) rfl rfl rfl st1.out) ?_)
        | fail)
      refine bodyPost_ret (results_c3 rfl rfl (loadVar_id zId_ok hr2)) rfl ?_
      exact ⟨rfl, bel2⟩
    · obtain ⟨c0, c1⟩ := hcs w1 HP1
      go_wp2_with (first
        | (refine wpList_val rfl (exec_build0 rfl (build_id _)) ?_)
        | (refine wpList_skip rfl rfl (exec_store (t := 37) (xv := .pointer (some ⟨w.heap.size + 1, 0, none⟩)) (yv := zId.v) rfl rfl rfl st1.out) ?_)
        | fail)
      refine bodyPost_ret (results_c3 rfl rfl (loadVar_id zId_ok hr2)) rfl ?_
      exact ⟨rfl, bel2⟩
  refine main z (fun W => Below w.heap.size w W) (fun W b => b) ?_ HF
  rcases hl with hl | ⟨m, hl, hp⟩
  · exact Or.inl ⟨by rw [← hz, fPos_none hl], trivial⟩
  · obtain ⟨j, hj, hji, hjl⟩ := fPos_some hl
    have hpo := h.ok _ (List.mem_of_getElem? hji)
    obtain ⟨a, c, hc, hrow⟩ := h.cell
    obtain ⟨b, o, rfl, lb, hr⟩ : ∃ b o, a = some ⟨b, o, none⟩ ∧ b < w.heap.size ∧ w.rangeAt b (o + j * 68) (rnC (k, m)) := by
      rcases hrow with e | ⟨b, o, e, h1, h2⟩
      · rw [e] at hji; simp at hji
      · exact ⟨b, o, e, h1, h2 j _ hji⟩
    refine Or.inr ⟨j, NL.length, c, b, o, by rw [← hz, hj], hjl, hn, fun W bb => ⟨(bb.cell (p := ⟨d, 0, none⟩) lt).trans (by rw [cell_of_row _ _ 0 _ _ _ hc]; rfl), ?_⟩⟩
    have l1 : k.c.length = 33 := IdK.len hpo.k
    have l2 : m.u.c.length = 33 := IdK.len hpo.u
    have := rangeAt_keep hr (bb.block _ lb) 67 (.bool m.pr) (by
      rw [rnC, List.getElem?_append_right (by simp only; omega), l1, List.getElem?_append_right (by simp only; omega), l2]
      rfl)
    rwa [hp] at this
theorem runder_any (k : IdK) (w : World) (h : RefAt w d NL pv) (hk : k.ok) (hn : NL.length ≤ 1300000000000) (hf : Forest (lookN NL)) :
    Calls Try.prog 38 #[.pointer (some ⟨d, 0, none⟩), k.v] w fun e w' => e = .returned (.tuple #[(nd (lookN NL) k).u.v, .string (nd (lookN NL) k).key, .bool ((lookN NL k).isSome && !(nd (lookN NL) k).pr)]) ∧ Below w.heap.size w w' := by
  unfold nd
  cases hl : lookN NL k with
  | none => exact runder_out d NL pv k w h hk hn (Or.inl hl)
  | some m =>
    cases hp : m.pr with
    | false =>
      have := runder_in d NL pv k m w h hk hn hl hp
      simpa [hp] using this
    | true =>
      have := runder_out d NL pv k w h hk hn (Or.inr ⟨m, hl, hp⟩)
      obtain ⟨h1, h2⟩ := hf.bare k m hl hp
      simpa [hp, h1, h2] using this
end
def UpIs (f : Fn) (k : IdK) (l : List IdK) (b : Bool) : Prop := (f k = none ∧ l = [] ∧ b = false) ∨ ((f k).isSome = true ∧ ∃ p, Climb f k l p ∧ b = !p)
theorem climb_cons {f : Fn} {k : IdK} {l : List IdK} {p : Bool} (h : Climb f k l p) (hp : (nd f k).pr = false) (hz : (nd f k).u ≠ zId) : ∃ l2, l = (nd f k).u :: l2 ∧ Climb f (nd f k).u l2 p := by
  cases h with
  | top q => rcases q with q | q
             · rw [hp] at q; cases q
             · exact absurd q hz
  | up _ _ h3 => exact ⟨_, rfl, h3⟩
theorem climb_top {f : Fn} {k : IdK} {l : List IdK} {p : Bool} (h : Climb f k l p) (hq : (nd f k).pr = true ∨ (nd f k).u = zId) : l = [] ∧ p = (nd f k).pr := by
  obtain ⟨h1, h2⟩ := h.same (Climb.top hq)
  exact ⟨h1, h2⟩
section
variable (d : Nat) (NL : List (IdK × NodeV)) (pv : Value)
theorem rup_any (k : IdK) (w : World) (h : RefAt w d NL pv) (hk : k.ok) (hn : NL.length ≤ 1300000000000) (hf : Forest (lookN NL)) :
    Calls Try.prog 79 #[.pointer (some ⟨d, 0, none⟩), k.v] w fun e w' => ∃ v l b, e = .returned (.tuple #[v, .bool b]) ∧ OwnI w' w.heap.size v l ∧ UpIs (lookN NL) k l b ∧ (∀ x ∈ l, x.ok) ∧ Below w.heap.size w w' := by
  have lt := h.lt
  have hD : ∀ x, (lookN NL x).isSome = true → x ∈ NL.map (·.1) := fun x hx => by
    obtain ⟨v, hv⟩ := Option.isSome_iff_exists.1 hx
    exact List.mem_map.2 ⟨_, M.look_mem hv, rfl⟩
  have hOK : ∀ x, (lookN NL x).isSome = true → x.ok := fun x hx => by
    obtain ⟨p, hp, rfl⟩ := List.mem_map.1 (hD x hx)
    exact (h.ok p hp).k
  obtain ⟨l0, p0, hc0⟩ := hf.ends k
  have hl0 : l0.length ≤ NL.length := by
    have := nodup_le (b := NL.map (·.1)) hc0.nodup (fun x hx => hD x (hc0.there hf x hx))
    simpa using this
  have HF := hidMk (fun (x : IdK) (hx : x.ok) (W : World) (b : RefAt W d NL pv) => find_any d NL pv x W b hx hn)
  obtain ⟨a, c, hc, hrow⟩ := h.cell
  obtain ⟨n, hnn⟩ : ∃ n, NL.length = n := ⟨_, rfl⟩
  have C0 : w.cell? ⟨d, 0, none⟩ = some (.slice a n c) := by rw [← hnn, cell_of_row _ _ 0 _ _ _ hc]; rfl
  have HC := hidMk (fun (W : World) (b : Below w.heap.size w W) => (b.cell (p := ⟨d, 0, none⟩) lt).trans C0)
  have HH := hidMk (fun (W : World) (b : Below w.heap.size w W) => h.below b)
  have HROW := hidMk hrow
  have HNn := hidMk hnn
  have hbig : n ≤ 1300000000000 := by omega
  have HL0 := hidMk hl0
  clear hc C0 hn hnn hl0 hrow
  unfold IdK.v
  go_enter Try.func79, Try.ntmps79
  obtain ⟨hx, bx, zx⟩ := box_id w k
  have ZX := hidMk zx
  clear zx
  go_upto_region 1 with fail
  generalize w.alloc (.cells k.c.toArray 37) = W at *
  have own0 : OwnI W w.heap.size (.slice none 0 0) [] := ⟨rfl, Or.inl ⟨rfl, rfl⟩⟩
  go_wp2
  go_loopw [6, 7] (fun v6 v7 wr => ∃ (y : IdK) (Lo l2 : List IdK), v7 = .int .i64 (Lo.length : Int) ∧ OwnI wr w.heap.size v6 Lo ∧ IdAt wr w.heap.size y ∧ y.ok ∧ Climb (lookN NL) y l2 p0 ∧ Lo ++ l2 = l0 ∧ (Lo = [] ∧ y = k ∨ (lookN NL y).isSome = true ∧ (lookN NL k).isSome = true) ∧ (∀ x ∈ Lo, x.ok) ∧ v6.ownBlock ≠ some w.heap.size ∧ Below w.heap.size w wr) (fun v6 v7 wr => n + 1 - (match v7 with | .int _ i => i.toNat | _ => 0))
  case atStart => exact ⟨k, [], l0, rfl, own0, hx, hk, hc0, rfl, Or.inl ⟨rfl, rfl⟩, fun x hx => (by cases hx), by simp [Value.ownBlock], bx⟩
  case round =>
    clear own0 hx
    obtain ⟨y, Lo, l2, rfl, own, hy, hyo, hcl, hsum, hst, hokL, hap, bel⟩ := hrel
    have hlen := congrArg List.length hsum
    rw [List.length_append] at hlen
    have hl0 := HL0.out
    have hN := HNn.out
    obtain ⟨m, hm⟩ : ∃ m, Lo.length = m := ⟨_, rfl⟩
    have hmn : m ≤ n := by omega
    rw [hm]
    have HMm := hidMk hm
    have HS := hidMk hsum
    have HCL := hidMk hcl
    have HST := hidMk hst
    have HOL := hidMk hokL
    have c0 := HC.out wr bel
    have LY := hidMk (load_id hyo hy)
    have FY := hidMk (HF.out y hyo wr (HH.out wr bel))
    have HOW := hidMk own
    clear hlen hl0 hN hm hsum hcl hst hokL own
    cases hl : lookN NL y with
    | none =>
      rw [fPos_none hl] at FY
      go_wp2_with (first
        | (refine wpList_val rfl (exec_load (t := 37) (u := .pointer (some ⟨w.heap.size, 0, none⟩)) rfl rfl LY.out) ?_)
        | (go_at_call 77; refine FY.out.mono ?_; rintro e w1 ⟨rfl, b1⟩)
        | fail)
      go_ret2
      refine ⟨_, _, _, rfl, HOW.out.below b1, ?_, HOL.out, bel.trans (b1.mono bel.size)⟩
      rcases HST.out with ⟨e1, e2⟩ | ⟨e1, e2⟩
      · subst e1 e2; exact Or.inl ⟨hl, rfl, rfl⟩
      · rw [hl] at e1; cases e1
    | some nd0 =>
      obtain ⟨j, hj, hji, hjl⟩ := fPos_some hl
      rw [hj] at FY
      have hpo := h.ok _ (List.mem_of_getElem? hji)
      have hkS : (lookN NL k).isSome = true := by
        rcases HST.out with ⟨_, e2⟩ | ⟨_, e2⟩
        · subst e2; rw [hl]; rfl
        · exact e2
      have hndy : nd (lookN NL) y = nd0 := by unfold nd; rw [hl]; rfl
      obtain ⟨b, o, rfl, lb, hr⟩ : ∃ b o, a = some ⟨b, o, none⟩ ∧ b < w.heap.size ∧ w.rangeAt b (o + j * 68) (rnC (y, nd0)) := by
        rcases HROW.out with e | ⟨b, o, e, h1, h2⟩
        · rw [e] at hji; simp at hji
        · exact ⟨b, o, e, h1, h2 j _ hji⟩
      rw [HNn.out] at hjl
      have HR := hidMk (fun (V : World) (bb : Below w.heap.size w V) => rangeAt_keep hr (bb.block _ lb))
      have hcp : ∀ V, Below w.heap.size w V → V.cell? ⟨b, o + j * 68 + 67, none⟩ = some (.bool nd0.pr) := fun V bb => by
        have l1 : y.c.length = 33 := IdK.len hpo.k
        have l2 : nd0.u.c.length = 33 := IdK.len hpo.u
        exact HR.out V bb 67 (.bool nd0.pr) (by
          rw [rnC, List.getElem?_append_right (by simp only; omega), l1, List.getElem?_append_right (by simp only; omega), l2]
          rfl)
      have hj0 : decide ((j : Int) < 0) = false := decide_eq_false (by omega)
      have HNDY := hidMk hndy
      have HHL := hidMk hl
      clear hji hj hr hndy hl
      cases hp : nd0.pr with
      | true =>
        rw [hp] at hcp
        have HCP := hidMk hcp
        clear hcp
        go_wp2_with (first
          | (refine wpList_val rfl (exec_load (t := 37) (u := .pointer (some ⟨w.heap.size, 0, none⟩)) rfl rfl LY.out) ?_)
          | (go_at_call 77; refine FY.out.mono ?_; rintro e w1 ⟨rfl, b1⟩; have bel1 : Below w.heap.size w w1 := bel.trans (b1.mono bel.size); have c01 := HC.out w1 bel1; have c02 := HCP.out w1 bel1; clear c0)
          | fail)
        go_ret2
        refine ⟨_, _, _, rfl, HOW.out.below b1, ?_, HOL.out, bel1⟩
        obtain ⟨e1, e2⟩ := climb_top HCL.out (Or.inl (by rw [HNDY.out]; exact hp))
        have hs := HS.out
        rw [e1, List.append_nil] at hs
        rw [HNDY.out, hp] at e2
        exact Or.inr ⟨hkS, true, by rw [hs, ← e2]; exact hc0, rfl⟩
      | false =>
        rw [hp] at hcp
        have HCP := hidMk hcp
        clear hcp
        have huo : nd0.u.ok := hpo.u
        go_upto_region 9 with (first
          | (refine wpList_val rfl (exec_load (t := 37) (u := .pointer (some ⟨w.heap.size, 0, none⟩)) rfl rfl LY.out) ?_)
          | (go_at_call 77; refine FY.out.mono ?_; rintro e w1 ⟨rfl, b1⟩; have bel1 : Below w.heap.size w w1 := bel.trans (b1.mono bel.size); have c01 := HC.out w1 bel1; have c02 := HCP.out w1 bel1; have LU := hidMk (rn_under hpo (HR.out w1 bel1)); have hy1 : IdAt w1 w.heap.size y := (b1.block _ (Array.getElem?_eq_some_iff.1 hy).1).trans hy; have ST := hidMk (store_id hyo huo hy1); clear c0)
          | (refine wpList_val rfl (exec_load (t := 37) (u := .pointer (some ⟨b, o + j * 68 + 33, none⟩)) rfl rfl LU.out) ?_)
          | (refine wpList_skip rfl rfl (exec_store (t := 37) (xv := .pointer (some ⟨w.heap.size, 0, none⟩)) (yv := nd0.u.v) rfl rfl rfl ST.out) ?_)
          | fail)
        clear c01 c02
        have hy2 := hy1.set nd0.u
        have t2 := setRow_tch w1 w.heap.size nd0.u.c.toArray
        have bel2 : Below w.heap.size w (w1.setRow w.heap.size nd0.u.c.toArray) := bel1.trans (t2.below bel1.size (fun j e => by simp at e; omega))
        have own2 : OwnI (w1.setRow w.heap.size nd0.u.c.toArray) w.heap.size u6 Lo := (HOW.out.below b1).keep (fun j hj => t2.block j (by obtain ⟨_, q, hq⟩ := (HOW.out.below b1).ge j hj; exact (Array.getElem?_eq_some_iff.1 hq).1) (fun e => by simp at e; subst e; exact hap hj))
        generalize w1.setRow w.heap.size nd0.u.c.toArray = w2 at *
        have LY2 := hidMk (load_id huo hy2)
        have HOW2 := hidMk own2
        clear LU ST LY FY HOW own2 hy1 t2 HCP
        by_cases hz : nd0.u = zId
        · have hq : ∀ V : World, (binOp .eql 37 nd0.u.v zId.v).run Try.prog V = .ok (.bool true) V := fun V => by rw [eql_id nd0.u zId huo zId_ok, decide_eq_true hz]
          go_wp2_with (first
            | (refine wpList_val rfl (exec_load (t := 37) (u := .pointer (some ⟨w.heap.size, 0, none⟩)) rfl rfl LY2.out) ?_)
            | (refine wpList_val rfl (exec_build0 rfl (build_id _)) ?_)
            | (refine wpList_val rfl (exec_binOp (xv := nd0.u.v) (yv := zId.v) rfl rfl rfl (guard_id _ _ nd0.u zId _ _) (hq _)) ?_)
            | fail)
          go_ret2
          refine ⟨_, _, _, rfl, HOW2.out, ?_, HOL.out, bel2⟩
          obtain ⟨e1, e2⟩ := climb_top HCL.out (Or.inr (by rw [HNDY.out]; exact hz))
          have hs := HS.out
          rw [e1, List.append_nil] at hs
          rw [HNDY.out, hp] at e2
          exact Or.inr ⟨hkS, false, by rw [hs, ← e2]; exact hc0, rfl⟩
        · have hq : ∀ V : World, (binOp .eql 37 nd0.u.v zId.v).run Try.prog V = .ok (.bool false) V := fun V => by rw [eql_id nd0.u zId huo zId_ok, decide_eq_false hz]
          obtain ⟨l3, hl3, hcl3⟩ := climb_cons HCL.out (by rw [HNDY.out]; exact hp) (by rw [HNDY.out]; exact hz)
          rw [HNDY.out] at hl3 hcl3
          have hsum2 : (Lo ++ [nd0.u]) ++ l3 = l0 := by rw [List.append_assoc, List.singleton_append, ← hl3]; exact HS.out
          have hlen2 := congrArg List.length hsum2
          simp only [List.length_append, List.length_cons, List.length_nil] at hlen2
          have hl0' := HL0.out
          have hNn' := HNn.out
          have hMm' := HMm.out
          have ebs : Hid ((Instr.buildSlice 41 1 #[(0, nd0.u.v)]).run Try.prog w2 = .ok (.slice (some ⟨w2.heap.size, 0, none⟩) 1 1) (w2.alloc (.cells nd0.u.c.toArray 37))) := run_bsI nd0.u huo w2
          have hlit := ids_lit w2 nd0.u 37
          have bb : Below w2.heap.size w2 (w2.alloc (.cells nd0.u.c.toArray 37)) := (Below.refl _ _).alloc (Nat.le_refl _) _
          generalize w2.alloc (.cells nd0.u.c.toArray 37) = w3 at *
          have own3 := HOW2.out.below bb
          have bel3 : Below w.heap.size w w3 := bel2.trans (bb.mono bel2.size)
          obtain ⟨v6', w4, eap, own4, g4, ob4⟩ := run_appI w3 w.heap.size u6 Lo (some ⟨w2.heap.size, 0, none⟩) [nd0.u] 1 own3 hlit (by simpa using huo) (by simp only [List.length_cons, List.length_nil]; omega) bel3.size
          have EAP : Hid ((Builtin.append_ #[41, 41] 41 #[u6, .slice (some ⟨w2.heap.size, 0, none⟩) 1 1]).run Try.prog w3 = .ok v6' w4) := eap
          have bel4 : Below w.heap.size w w4 := bel3.trans (below_grown own3 bel3.size g4)
          have lw : w.heap.size < w2.heap.size := (Array.getElem?_eq_some_iff.1 hy2).1
          have hy4 : IdAt w4 w.heap.size nd0.u := (g4.block _ (by have := bb.size; omega) (fun e => hap e.symm)).trans ((bb.block _ lw).trans hy2)
          have hap4 : v6'.ownBlock ≠ some w.heap.size := fun e => by
            rcases ob4 with q | q
            · rw [q] at e; exact hap e
            · rw [q] at e
              have h1 : w3.heap.size = w.heap.size := by simpa using e
              have := bb.size
              omega
          have hS2 : (lookN NL nd0.u).isSome = true := hf.under y nd0 HHL.out hp hz
          have HO4 := hidMk own4
          have HS2 := hidMk hsum2
          have HC3 := hidMk hcl3
          have hm1 : m + 1 ≤ n := by omega
          clear eap hlit own3 own4 hsum2 hlen2 hl3 hcl3 g4 ob4 hl0' hNn' hMm'
          go_wp2_with (first
            | (refine wpList_val rfl (exec_load (t := 37) (u := .pointer (some ⟨w.heap.size, 0, none⟩)) rfl rfl LY2.out) ?_)
            | (refine wpList_val rfl (exec_build0 rfl (build_id _)) ?_)
            | (refine wpList_val rfl (exec_binOp (xv := nd0.u.v) (yv := zId.v) rfl rfl rfl (guard_id _ _ nd0.u zId _ _) (hq _)) ?_)
            | (refine wpList_run rfl (exec_buildSlice (t := 41) (n := 1) (xv := nd0.u.v) (v := .slice (some ⟨w2.heap.size, 0, none⟩) 1 1) rfl rfl ebs.out) ?_)
            | (refine wpList_run rfl (exec_append (xv := u6) (yv := .slice (some ⟨w2.heap.size, 0, none⟩) 1 1) (v := v6') rfl rfl rfl EAP.out) ?_)
            | fail)
          rw [show ((m : Int) + 1) = ((m + 1 : Nat) : Int) by omega]
          refine ⟨⟨nd0.u, Lo ++ [nd0.u], l3, by rw [List.length_append, HMm.out]; rfl, HO4.out, hy4, huo, HC3.out, HS2.out, Or.inr ⟨hS2, hkS⟩, fun x hx => ?_, hap4, bel4⟩, ?_⟩
          · rcases List.mem_append.1 hx with hx | hx
            · exact HOL.out x hx
            · simp at hx; subst hx; exact huo
          · show n + 1 - ((m + 1 : Nat) : Int).toNat < n + 1 - (m : Int).toNat
            omega
end
section
variable (d : Nat) (NL : List (IdK × NodeV)) (pv : Value)
theorem rlive_any (k : IdK) (w : World) (h : RefAt w d NL pv) (hk : k.ok) (hn : NL.length ≤ 1300000000000) (hf : Forest (lookN NL)) :
    Calls Try.prog 40 #[.pointer (some ⟨d, 0, none⟩), k.v] w fun e w' => ∃ b, e = .returned (.bool b) ∧ LiveIs (lookN NL) k b ∧ Below w.heap.size w w' := by
  have HH := hidMk (fun (W : World) (b : Below w.heap.size w W) => rhas_any d NL pv k W (h.below b) hk hn)
  have HU := hidMk (fun (W : World) (b : Below w.heap.size w W) => rup_any d NL pv k W (h.below b) hk hn hf)
  cases hs : (lookN NL k).isSome with
  | false =>
    rw [hs] at HH
    unfold IdK.v
    go_enter Try.func40, Try.ntmps40
    obtain ⟨hx, bx, zx⟩ := box_id w k
    have ZX := hidMk zx
    have HSS := hidMk hs
    clear zx hs
    go_upto_region 1 with fail
    generalize w.alloc (.cells k.c.toArray 37) = W at *
    have HL := hidMk (load_id hk hx)
    go_wp2_with (first
      | (refine wpList_val rfl (exec_load (t := 37) (u := .pointer (some ⟨w.heap.size, 0, none⟩)) rfl rfl HL.out) ?_)
      | (go_at_call 74; refine (HH.out _ bx).mono ?_; rintro e w1 ⟨rfl, b1⟩)
      | fail)
    go_ret
    exact ⟨_, rfl, Or.inl ⟨HSS.out, rfl⟩, bx.trans (b1.mono bx.size)⟩
  | true =>
    rw [hs] at HH
    unfold IdK.v
    go_enter Try.func40, Try.ntmps40
    obtain ⟨hx, bx, zx⟩ := box_id w k
    have ZX := hidMk zx
    have HSS := hidMk hs
    clear zx hs
    go_upto_region 1 with fail
    generalize w.alloc (.cells k.c.toArray 37) = W at *
    have HL := hidMk (fun (V : World) (b : Below W.heap.size W V) => load_id hk ((b.block _ (by have := ZX.out; omega)).trans hx))
    go_wp2_with (first
      | (refine wpList_val rfl (exec_load (t := 37) (u := .pointer (some ⟨w.heap.size, 0, none⟩)) rfl rfl (HL.out _ (Below.refl _ _))) ?_)
      | (go_at_call 74; refine (HH.out _ bx).mono ?_; rintro e w1 ⟨rfl, b1⟩; have bel1 : Below w.heap.size w w1 := bx.trans (b1.mono bx.size))
      | (refine wpList_val rfl (exec_load (t := 37) (u := .pointer (some ⟨w.heap.size, 0, none⟩)) rfl rfl (HL.out _ b1)) ?_)
      | (go_at_call 79; refine (HU.out _ bel1).mono ?_; rintro e w2 ⟨v, l, q, rfl, own, hu, hol, b2⟩; have HUp := hidMk hu; clear hu own)
      | fail)
    go_ret
    refine ⟨_, rfl, ?_, bel1.trans (b2.mono bel1.size)⟩
    rcases HUp.out with ⟨e, _⟩ | ⟨e, p, hc, rfl⟩
    · have := HSS.out; rw [e] at this; cases this
    · exact Or.inr ⟨e, l, p, hc, rfl⟩
theorem rdeep_any (k : IdK) (w : World) (h : RefAt w d NL pv) (hk : k.ok) (hn : NL.length ≤ 1300000000000) (hf : Forest (lookN NL)) :
    Calls Try.prog 41 #[.pointer (some ⟨d, 0, none⟩), k.v] w fun e w' => ∃ z, e = .returned (.int .i64 z) ∧ DeepIs (lookN NL) k z ∧ Below w.heap.size w w' := by
  have HH := hidMk (fun (W : World) (b : Below w.heap.size w W) => rhas_any d NL pv k W (h.below b) hk hn)
  have HU := hidMk (fun (W : World) (b : Below w.heap.size w W) => rup_any d NL pv k W (h.below b) hk hn hf)
  cases hs : (lookN NL k).isSome with
  | false =>
    rw [hs] at HH
    unfold IdK.v
    go_enter Try.func41, Try.ntmps41
    obtain ⟨hx, bx, zx⟩ := box_id w k
    have ZX := hidMk zx
    have HSS := hidMk hs
    clear zx hs
    go_upto_region 1 with fail
    generalize w.alloc (.cells k.c.toArray 37) = W at *
    have HL := hidMk (load_id hk hx)
    go_wp2_with (first
      | (refine wpList_val rfl (exec_load (t := 37) (u := .pointer (some ⟨w.heap.size, 0, none⟩)) rfl rfl HL.out) ?_)
      | (go_at_call 74; refine (HH.out _ bx).mono ?_; rintro e w1 ⟨rfl, b1⟩)
      | fail)
    go_ret
    exact ⟨_, rfl, Or.inl ⟨HSS.out, rfl⟩, bx.trans (b1.mono bx.size)⟩
  | true =>
    rw [hs] at HH
    unfold IdK.v
    go_enter Try.func41, Try.ntmps41
    obtain ⟨hx, bx, zx⟩ := box_id w k
    have ZX := hidMk zx
    have HSS := hidMk hs
    clear zx hs
    go_upto_region 1 with fail
    generalize w.alloc (.cells k.c.toArray 37) = W at *
    have HL := hidMk (fun (V : World) (b : Below W.heap.size W V) => load_id hk ((b.block _ (by have := ZX.out; omega)).trans hx))
    go_wp2_with (first
      | (refine wpList_val rfl (exec_load (t := 37) (u := .pointer (some ⟨w.heap.size, 0, none⟩)) rfl rfl (HL.out _ (Below.refl _ _))) ?_)
      | (go_at_call 74; refine (HH.out _ bx).mono ?_; rintro e w1 ⟨rfl, b1⟩; have bel1 : Below w.heap.size w w1 := bx.trans (b1.mono bx.size))
      | (refine wpList_val rfl (exec_load (t := 37) (u := .pointer (some ⟨w.heap.size, 0, none⟩)) rfl rfl (HL.out _ b1)) ?_)
      | (go_at_call 79; refine (HU.out _ bel1).mono ?_; rintro e w2 ⟨v, l, q, rfl, own, hu, hol, b2⟩; have HUp := hidMk hu; obtain ⟨a5, c5, rfl, _⟩ := own.open hol; obtain ⟨n5, hn5⟩ : ∃ n5, l.length = n5 := ⟨_, rfl⟩; have HN5 := hidMk hn5; rw [hn5]; clear hu own hn5)
      | fail)
    go_ret
    refine ⟨_, rfl, ?_, bel1.trans (b2.mono bel1.size)⟩
    rcases HUp.out with ⟨e, _⟩ | ⟨e, p, hc, rfl⟩
    · have := HSS.out; rw [e] at this; cases this
    · exact Or.inr ⟨e, l, p, hc, by rw [HN5.out]⟩
end
abbrev RN := IdK × NodeV
def zRn : RN := (zId, zNode)
theorem zRn_ok : RnOk zRn := ⟨zId_ok, zId_ok⟩
theorem rn_one (p : RN) : ∀ v ∈ rnC p, v.oneCell' = true := by
  intro v hv
  simp only [rnC, List.mem_append, List.mem_cons, List.not_mem_nil, or_false] at hv
  rcases hv with h | h | rfl | rfl
  · exact IdK.one _ v h
  · exact IdK.one _ v h
  · rfl
  · rfl
def RnsAt (w : World) (a : Option Addr) (L : List RN) : Prop := L = [] ∨ ∃ b off, a = some ⟨b, off, none⟩ ∧ b < w.heap.size ∧ ∀ i h, L[i]? = some h → w.rangeAt b (off + 68 * i) (rnC h)
theorem RnsAt.below {w w' : World} {a : Option Addr} {L : List RN} (h : RnsAt w a L) (hb : Below w.heap.size w w') : RnsAt w' a L := by
  rcases h with h | ⟨b, off, e, hl, hr⟩
  · exact .inl h
  · exact .inr ⟨b, off, e, Nat.lt_of_lt_of_le hl hb.size, fun i x hx => rangeAt_keep (hr i x hx) (hb.block b hl)⟩
def flatN (L : List RN) : List Value := L.flatMap rnC
theorem flatN_len : ∀ {L : List RN}, (∀ h ∈ L, RnOk h) → (flatN L).length = 68 * L.length
  | [], _ => rfl
  | x :: L, ok => by
    have := flatN_len (L := L) (fun h hh => ok h (by simp [hh]))
    simp only [flatN, List.flatMap_cons, List.length_append, rn_len (ok x (by simp)), List.length_cons] at this ⊢
    omega
theorem flatN_get : ∀ {L : List RN}, (∀ h ∈ L, RnOk h) → ∀ {i : Nat} {h : RN}, L[i]? = some h → ∀ {j : Nat} {v : Value}, (rnC h)[j]? = some v → (flatN L)[68 * i + j]? = some v
  | x :: L, ok, 0, h, hi, j, v, hj => by
    simp only [List.getElem?_cons_zero, Option.some.injEq] at hi
    subst hi
    have hl := (List.getElem?_eq_some_iff.1 hj).1
    rw [Nat.mul_zero, Nat.zero_add, flatN, List.flatMap_cons, List.getElem?_append_left hl]
    exact hj
  | x :: L, ok, i + 1, h, hi, j, v, hj => by
    simp only [List.getElem?_cons_succ] at hi
    have := flatN_get (L := L) (fun h hh => ok h (by simp [hh])) hi hj
    have l := rn_len (ok x (by simp))
    rw [flatN, List.flatMap_cons, List.getElem?_append_right (by omega), l, show 68 * (i + 1) + j - 68 = 68 * i + j by omega]
    exact this
  | [], _, i, h, hi, _, _, _ => by simp at hi
theorem flatN_inv : ∀ {L : List RN}, (∀ h ∈ L, RnOk h) → ∀ {p : Nat} {u : Value}, (flatN L)[p]? = some u → ∃ i h j, p = 68 * i + j ∧ L[i]? = some h ∧ (rnC h)[j]? = some u
  | [], _, p, u, hp => by simp [flatN] at hp
  | x :: L, ok, p, u, hp => by
    have l := rn_len (ok x (by simp))
    rw [flatN, List.flatMap_cons, List.getElem?_append] at hp
    by_cases h : p < (rnC x).length
    · rw [if_pos h] at hp
      exact ⟨0, x, p, by omega, rfl, hp⟩
    · rw [if_neg h] at hp
      obtain ⟨i, y, j, e, hi, hj⟩ := flatN_inv (L := L) (fun h hh => ok h (by simp [hh])) hp
      exact ⟨i + 1, y, j, by omega, hi, hj⟩
theorem flatN_one (L : List RN) : ∀ u ∈ flatN L, u.oneCell' = true := by
  intro u hu
  simp only [flatN, List.mem_flatMap] at hu
  obtain ⟨h, _, hv⟩ := hu
  exact rn_one h u hv
theorem flatN_app (L M : List RN) : flatN (L ++ M) = flatN L ++ flatN M := by simp [flatN]
def OwnN (w : World) (base : Nat) (v : Value) (L : List RN) : Prop := w.ownsRow base 114 68 v L.length (flatN L)
theorem OwnN.below {w w' : World} {base : Nat} {v : Value} {L : List RN} (h : OwnN w base v L) (hb : Below w.heap.size w w') : OwnN w' base v L := by
  refine ⟨h.1, ?_⟩
  rcases h.2 with hn | ⟨g, cap, cur, rfl, hbg, hg, rest⟩
  · exact .inl hn
  · exact .inr ⟨g, cap, cur, rfl, hbg, by rw [hb.block g (Array.getElem?_eq_some_iff.1 hg).1]; exact hg, rest⟩
theorem OwnN.keep {w w' : World} {base : Nat} {v : Value} {L : List RN} (h : OwnN w base v L) (hk : ∀ k, v.ownBlock = some k → w'.heap[k]? = w.heap[k]?) : OwnN w' base v L := by
  refine ⟨h.1, ?_⟩
  rcases h.2 with hn | ⟨g, cap, cur, rfl, hbg, hg, rest⟩
  · exact .inl hn
  · exact .inr ⟨g, cap, cur, rfl, hbg, by rw [hk g rfl]; exact hg, rest⟩
theorem OwnN.open {w : World} {base : Nat} {v : Value} {L : List RN} (h : OwnN w base v L) (ok : ∀ h ∈ L, RnOk h) : ∃ a c, v = .slice a L.length c ∧ RnsAt w a L ∧ L.length ≤ c := by
  rcases h.2 with ⟨rfl, hn⟩ | ⟨g, cap, cur, rfl, hbg, hg, hnc, hcm, hcs, htake⟩
  · obtain rfl : L = [] := List.eq_nil_of_length_eq_zero hn
    exact ⟨none, 0, rfl, .inl rfl, Nat.le_refl _⟩
  · refine ⟨some ⟨g, 0, none⟩, cap, rfl, .inr ⟨g, 0, rfl, (Array.getElem?_eq_some_iff.1 hg).1, fun i x hx j u hj => ?_⟩, hnc⟩
    have e := flatN_get ok hx hj
    rw [Nat.zero_add, cell_of_row w g _ cur 114 (0, 0) hg]
    rw [← htake, List.getElem?_take] at e
    split at e
    · simpa using e
    · cases e
theorem infoN : (Try.prog.info? 114).map (fun i => (i.zero, i.size, i.bytes)) = some (some (.agg (rnC zRn).toArray), 68, 104) := by kernel_rfl
theorem zcellsN : (Value.agg (rnC zRn).toArray).cells.size = 68 := by
  show (rnC zRn).toArray.size = 68
  rw [List.size_toArray, rn_len zRn_ok]
theorem run_appN (w : World) (base : Nat) (v : Value) (L : List RN) (a : Option Addr) (M : List RN) (c : Nat) (hown : OwnN w base v L) (hb : RnsAt w a M) (ok : ∀ h ∈ M, RnOk h) (h : L.length + M.length ≤ 2000000000000) (hbase : base ≤ w.heap.size) :
    ∃ v' w', (Builtin.append_ #[83, 83] 83 #[v, .slice a M.length c]).run Try.prog w = .ok v' w' ∧ OwnN w' base v' (L ++ M) ∧ w.grownBy w' v.ownBlock ∧ (v'.ownBlock = v.ownBlock ∨ v'.ownBlock = some w.heap.size) := by
  obtain ⟨i, hi, hz, hs, hby⟩ := info_parts infoN
  cases a with
  | some ad =>
    have hnews : ∀ j u, (flatN M)[j]? = some u → w.cell? (ad.add j) = some u := fun j u hj => by
      rcases hb with rfl | ⟨b, off, e, _, hc⟩
      · simp [flatN] at hj
      · cases e
        obtain ⟨k, x, r, rfl, hx, hr⟩ := flatN_inv ok hj
        rw [Addr.add_mid, ← Nat.add_assoc]
        exact hc k x hx r u hr
    obtain ⟨v', w', hr, h2, h3, h5⟩ := app_at (P := Try.prog) w base 83 83 114 i _ 68 104 Try.underlying83 hi hz hs hby zcellsN (by decide) v L.length (flatN L) hown ad M.length c (flatN M) (by rw [flatN_len ok, Nat.mul_comm]) hnews (flatN_one M) (by unfold maxLen; omega) (by omega) hbase
    refine ⟨v', w', hr, ?_, h3, h5⟩
    unfold OwnN
    rw [List.length_append, flatN_app]
    exact h2
  | none =>
    obtain rfl : M = [] := by
      rcases hb with rfl | ⟨b, off, e, _⟩
      · rfl
      · cases e
    rcases hown.2 with ⟨rfl, hn⟩ | ⟨g, cap, cur, rfl, hbg, hg, hnc, rest⟩
    · refine ⟨.slice none 0 0, w, ?_, by rw [List.append_nil]; exact hown, ⟨rfl, rfl, rfl, Nat.le_refl _, fun _ _ _ => rfl⟩, .inl rfl⟩
      simp [Builtin.append_, run_underlying Try.underlying83, sizeOf, typeInfo, hi, Builtin.lenOf, Builtin.firstCells, loadCells, loadCellsFrom]
    · refine ⟨.slice (some ⟨g, 0, none⟩) L.length cap, w, ?_, by rw [List.append_nil]; exact hown, ⟨rfl, rfl, rfl, Nat.le_refl _, fun _ _ _ => rfl⟩, .inl rfl⟩
      simp [Builtin.append_, run_underlying Try.underlying83, sizeOf, typeInfo, hi, Builtin.lenOf, Builtin.firstCells, hnc, storeCells]
theorem rns_lit (w : World) (h : RN) (t : TypeId) : RnsAt (w.alloc (.cells (rnC h).toArray t)) (some ⟨w.heap.size, 0, none⟩) [h] :=
  .inr ⟨w.heap.size, 0, rfl, by simp, fun i x hx j v hj => by
    have hl := (List.getElem?_eq_some_iff.1 hx).1
    obtain rfl : i = 0 := by simp at hl; omega
    simp at hx
    subst hx
    rw [Nat.mul_zero, Nat.add_zero, Nat.zero_add]
    exact cell_new w (rnC h) t j v hj⟩
theorem run_bsN (h : RN) (ok : RnOk h) (w : World) : (Instr.buildSlice 83 1 #[(0, .agg (rnC h).toArray)]).run Try.prog w = .ok (.slice (some ⟨w.heap.size, 0, none⟩) 1 1) (w.alloc (.cells (rnC h).toArray 114)) := by
  obtain ⟨ie, hi, hz, hs, hby⟩ := info_parts infoN
  refine run_buildSlice w 83 114 1 _ (rnC h).toArray ie _ Try.underlying83 hi hz (by rw [hs]; decide) (by rw [hs]; decide) ?_
  rw [hs]
  have := Go.Great.fill_whole (s := 68) (by decide) [.agg (rnC h).toArray] ((Array.range (1 * 68)).map ((Value.agg (rnC zRn).toArray).cells[· % (Value.agg (rnC zRn).toArray).cells.size]!)) (by intro v hv; simp at hv; subst hv; show (rnC h).toArray.size = 68; rw [List.size_toArray, rn_len ok]) (by simp)
  simpa [Value.cells] using this
section
variable {ops : Array Oper} {rest : List Oper} {o : Oper} {a : Act} {w : World} {Q : Exit → Act → World → Prop} {K : Act → World → Prop} {E : Prop}
end
theorem szRn : (Try.prog.info? 114).map (·.size) = some 68 := by kernel_rfl
theorem OwnN.ge {w : World} {base : Nat} {v : Value} {L : List RN} (h : OwnN w base v L) : ∀ j, v.ownBlock = some j → base ≤ j ∧ ∃ c, w.heap[j]? = some (.cells c 114 (0, 0)) := by
  intro j hj
  rcases h.2 with ⟨rfl, hn⟩ | ⟨g, cap, cur, rfl, hbg, hg, rest⟩
  · cases hj
  · obtain rfl : g = j := by simpa [Value.ownBlock] using hj
    exact ⟨hbg, _, hg⟩
theorem flatN_cons (x : RN) (L : List RN) : flatN (x :: L) = rnC x ++ flatN L := rfl
theorem own_setN {w : World} {base : Nat} {v : Value} {L : List RN} (own : OwnN w base v L) (ok : ∀ x ∈ L, RnOk x) {i : Nat} (hi : i < L.length) {x : RN} (hx : RnOk x) :
    ∃ g cap, v = .slice (some ⟨g, 0, none⟩) L.length cap ∧ g < w.heap.size ∧ ∃ w', (Instr.storeAt 114 (.pointer (some ⟨g, i * 68, none⟩)) (.agg (rnC x).toArray)).run Try.prog w = .ok () w' ∧ OwnN w' base v (L.set i x) ∧ Tch (fun j => v.ownBlock = some j) w w' ∧ w'.heap.size = w.heap.size := by
  rcases own.2 with ⟨rfl, hn⟩ | ⟨g, cap, cur, rfl, hbg, hg, hnc, hcm, hcs, htake⟩
  · omega
  · rw [Nat.mul_comm i 68]
    refine ⟨g, cap, rfl, (Array.getElem?_eq_some_iff.1 hg).1, w.setRow g (cur.toList.take (68 * i) ++ rnC x ++ cur.toList.drop (68 * i + (rnC x).length)).toArray, ?_, ?_, setRow_tch w g _, by simp [World.setRow]⟩
    · have hlen := rn_len hx
      have hb : 68 * i + 68 ≤ cur.size := by rw [hcs]; omega
      have h := run_storeCells_at Try.prog g (68 * i) 114 (rnC x) 0 cur w hg (by rw [hlen]; omega) (fun v hv => rn_one x v hv)
      rw [Nat.add_zero] at h
      have hs := szRn
      cases hq : Try.prog.info? 114 with
      | none => rw [hq] at hs; simp at hs
      | some ii =>
        rw [hq] at hs
        simp at hs
        have hcz : (rnC x).toArray.size = ii.size := by simp [hlen, hs]
        simp only [Instr.storeAt, Instr.sureAddr, Sem.run_bind, Sem.run_pure, Result.andThen_ok, storeVar, sizeOf, typeInfo, hq, Value.cells]
        simp [typeInfo, hq, hlen, hs, h]
    · have hA : ∃ A y B, L = A ++ y :: B ∧ A.length = i := ⟨L.take i, L[i], L.drop (i + 1), by rw [← List.drop_eq_getElem_cons hi, List.take_append_drop], by simp; omega⟩
      obtain ⟨A, y, B, rfl, hA⟩ := hA
      have okA : ∀ x ∈ A, RnOk x := fun x hx => ok x (by simp [hx])
      have okB : ∀ x ∈ B, RnOk x := fun x hx => ok x (by simp [hx])
      have oky : RnOk y := ok y (by simp)
      have hset : (A ++ y :: B).set i x = A ++ x :: B := by rw [← hA, List.set_append_right _ _ (Nat.le_refl _)]; simp
      rw [hset]
      have hfl : flatN (A ++ x :: B) = flatN A ++ rnC x ++ flatN B := by rw [flatN_app, flatN_cons]; simp
      have hfl' : flatN (A ++ y :: B) = flatN A ++ rnC y ++ flatN B := by rw [flatN_app, flatN_cons]; simp
      rw [hfl'] at htake
      have hlA := flatN_len okA
      have hlB := flatN_len okB
      have l1 := rn_len oky
      have l2 := rn_len hx
      have hlenx : (A ++ x :: B).length = (A ++ y :: B).length := by simp
      refine ⟨?_, Or.inr ⟨g, cap, _, by rw [hlenx], hbg, setRow_heap w g cur _ 114 (0, 0) hg, by rw [hlenx]; exact hnc, hcm, ?_, ?_⟩⟩
      · rw [hfl]; simp only [List.length_append, List.length_cons]; omega
      · rw [← hcs]
        simp only [List.length_append, List.length_cons] at hnc
        have : cur.toList.length = cur.size := by simp
        simp only [List.size_toArray, List.length_append, List.length_take, List.length_drop]
        omega
      · rw [List.toList_toArray, hfl, hlenx]
        refine take_seg htake ?_ (by omega) (by omega)
        simp only [List.length_append, List.length_cons]
        omega
theorem exec_buildSlice0 {P : Program} {w w2 : World} {a : Act} {o : Oper} {t n : Nat} {v : Value} (ho : o.op = .buildSlice t n #[]) (hl : (Instr.buildSlice t n #[]).run P w = .ok v w2) : (execOp a.eval o).run P w = .ok (.value v) w2 := by
  unfold execOp; simp only [ho, List.map_toArray, List.map_nil, Sem.run_bind, hl, Result.andThen_ok, Sem.run_pure]
def mark0_o0 : Oper := ⟨some 2, .move (.tmp 0), 27, "ref.go:58", #[], none⟩
def mark0_o1 : Oper := ⟨some 3, .move (.tmp 0), 27, "ref.go:58", #[], none⟩
def mark0_o2 : Oper := ⟨some 4, .nilCheck (.tmp 3), 0, "ref.go:58", #[⟨1, .data⟩], none⟩
def mark0_o3 : Oper := ⟨some 5, .fieldAddr 86 (.tmp 4) 1, 0, "ref.go:58", #[⟨2, .data⟩], none⟩
def mark0_o4 : Oper := ⟨some 6, .load 84 (.tmp 5), 84, "ref.go:58", #[⟨3, .data⟩], none⟩
def mark0_o5 : Oper := ⟨some 7, .buildSlice 83 0 #[], 83, "ref.go:58", #[], none⟩
def mark0_o6 : Oper := ⟨some 8, .move (.tmp 0), 27, "ref.go:58", #[], none⟩
def mark0_o7 : Oper := ⟨some 9, .nilCheck (.tmp 8), 0, "ref.go:58", #[⟨6, .data⟩], none⟩
def mark0_o8 : Oper := ⟨some 10, .fieldAddr 86 (.tmp 9) 0, 0, "ref.go:58", #[⟨7, .data⟩], none⟩
def mark0_o9 : Oper := ⟨some 11, .load 83 (.tmp 10), 83, "ref.go:58", #[⟨8, .data⟩], none⟩
def mark0_o10 : Oper := ⟨some 12, .call { callee := Callee.builtin Builtin.append, args := #[.tmp 7, .tmp 11], argTypes := #[83, 83] }, 83, "ref.go:58", #[⟨5, .data⟩, ⟨9, .data⟩], none⟩
def mark0_o11 : Oper := ⟨some 13, .buildSlice 84 1 #[(0, .tmp 12)], 84, "ref.go:58", #[⟨10, .data⟩], none⟩
def mark0_o12 : Oper := ⟨some 14, .call { callee := Callee.builtin Builtin.append, args := #[.tmp 6, .tmp 13], argTypes := #[84, 84] }, 84, "ref.go:58", #[⟨4, .data⟩, ⟨11, .data⟩, ⟨10, .chain⟩], none⟩
def mark0_o13 : Oper := ⟨some 15, .nilCheck (.tmp 2), 0, "ref.go:58", #[⟨0, .data⟩, ⟨0, .phase⟩, ⟨1, .phase⟩, ⟨2, .phase⟩, ⟨3, .phase⟩, ⟨4, .phase⟩, ⟨5, .phase⟩, ⟨6, .phase⟩, ⟨7, .phase⟩, ⟨8, .phase⟩, ⟨9, .phase⟩, ⟨10, .phase⟩, ⟨11, .phase⟩, ⟨12, .phase⟩], none⟩
def mark0_o14 : Oper := ⟨some 16, .fieldAddr 86 (.tmp 15) 1, 0, "ref.go:58", #[⟨13, .data⟩, ⟨0, .phase⟩, ⟨1, .phase⟩, ⟨2, .phase⟩, ⟨3, .phase⟩, ⟨4, .phase⟩, ⟨5, .phase⟩, ⟨6, .phase⟩, ⟨7, .phase⟩, ⟨8, .phase⟩, ⟨9, .phase⟩, ⟨10, .phase⟩, ⟨11, .phase⟩, ⟨12, .phase⟩], none⟩
def mark0_o15 : Oper := ⟨none, .store 84 (.tmp 16) (.tmp 14), 0, "ref.go:58", #[⟨14, .data⟩, ⟨12, .data⟩, ⟨12, .chain⟩, ⟨0, .phase⟩, ⟨1, .phase⟩, ⟨2, .phase⟩, ⟨3, .phase⟩, ⟨4, .phase⟩, ⟨5, .phase⟩, ⟨6, .phase⟩, ⟨7, .phase⟩, ⟨8, .phase⟩, ⟨9, .phase⟩, ⟨10, .phase⟩, ⟨11, .phase⟩, ⟨12, .phase⟩], none⟩
def mark0_ops : Array Oper := #[mark0_o0, mark0_o1, mark0_o2, mark0_o3, mark0_o4, mark0_o5, mark0_o6, mark0_o7, mark0_o8, mark0_o9, mark0_o10, mark0_o11, mark0_o12, mark0_o13, mark0_o14, mark0_o15]
theorem mark0 (d : Nat) (f0 f1 nv pv ev cv lv qv : Value) (w1 w2 w3 w4 w5 : World) (S : World → Prop) (a : Act) (w : World) (Q : Exit → Act → World → Prop) (hsz : a.tmps.size = 17)
    (t0 : a.tmps.getD 0 undef = .pointer (some ⟨d, 0, none⟩))
    (GF0 : ∀ W, (Instr.fieldAt 86 (.pointer (some ⟨d, 0, none⟩)) 0).run Try.prog W = .ok f0 W) (GF1 : ∀ W, (Instr.fieldAt 86 (.pointer (some ⟨d, 0, none⟩)) 1).run Try.prog W = .ok f1 W) (GL0 : ∀ W, S W → (Instr.loadAt 83 f0).run Try.prog W = .ok nv W)
    (S0 : S w.drew) (S1 : S w1) (S2 : S w2) (S3 : S w3) (S4 : S w4) (S5 : S w5)
    (K0 : (Instr.loadAt 84 f1).run Try.prog w.drew = .ok pv w.drew) (K1 : (Instr.loadAt 84 f1).run Try.prog w1 = .ok pv w1) (K2 : (Instr.loadAt 84 f1).run Try.prog w2 = .ok pv w2) (K3 : (Instr.loadAt 84 f1).run Try.prog w3 = .ok pv w3)
    (EB0 : (Instr.buildSlice 83 0 #[]).run Try.prog w.drew = .ok ev w1) (EA1 : (Builtin.append_ #[83, 83] 83 #[ev, nv]).run Try.prog w1 = .ok cv w2)
    (EB1 : (Instr.buildSlice 84 1 #[(0, cv)]).run Try.prog w2 = .ok lv w3) (EA2 : (Builtin.append_ #[84, 84] 84 #[pv, lv]).run Try.prog w3 = .ok qv w4) (ES : (Instr.storeAt 84 f1 qv).run Try.prog w4 = .ok () w5)
    (h1 : ∀ (a' : Act) (w' : World), w' = w5 → a' = (((((((((((((((a).put (some 2) (.pointer (some ⟨d, 0, none⟩))).put (some 3) (.pointer (some ⟨d, 0, none⟩))).put (some 4) (.pointer (some ⟨d, 0, none⟩))).put (some 5) (f1)).put (some 8) (.pointer (some ⟨d, 0, none⟩))).put (some 9) (.pointer (some ⟨d, 0, none⟩))).put (some 10) (f0)).put (some 11) (nv)).put (some 6) (pv)).put (some 7) (ev)).put (some 12) (cv)).put (some 13) (lv)).put (some 14) (qv)).put (some 15) (.pointer (some ⟨d, 0, none⟩))).put (some 16) (f1) → Q .normal a' w')
    (h2 : ∀ (a' : Act) (w' : World), w' = w5 → a' = (((((((((((((((a).put (some 2) (.pointer (some ⟨d, 0, none⟩))).put (some 3) (.pointer (some ⟨d, 0, none⟩))).put (some 4) (.pointer (some ⟨d, 0, none⟩))).put (some 5) (f1)).put (some 8) (.pointer (some ⟨d, 0, none⟩))).put (some 9) (.pointer (some ⟨d, 0, none⟩))).put (some 10) (f0)).put (some 11) (nv)).put (some 7) (ev)).put (some 6) (pv)).put (some 12) (cv)).put (some 13) (lv)).put (some 14) (qv)).put (some 15) (.pointer (some ⟨d, 0, none⟩))).put (some 16) (f1) → Q .normal a' w')
    (h3 : ∀ (a' : Act) (w' : World), w' = w5 → a' = (((((((((((((((a).put (some 2) (.pointer (some ⟨d, 0, none⟩))).put (some 3) (.pointer (some ⟨d, 0, none⟩))).put (some 4) (.pointer (some ⟨d, 0, none⟩))).put (some 5) (f1)).put (some 8) (.pointer (some ⟨d, 0, none⟩))).put (some 9) (.pointer (some ⟨d, 0, none⟩))).put (some 10) (f0)).put (some 11) (nv)).put (some 7) (ev)).put (some 12) (cv)).put (some 6) (pv)).put (some 13) (lv)).put (some 14) (qv)).put (some 15) (.pointer (some ⟨d, 0, none⟩))).put (some 16) (f1) → Q .normal a' w')
    (h4 : ∀ (a' : Act) (w' : World), w' = w5 → a' = (((((((((((((((a).put (some 2) (.pointer (some ⟨d, 0, none⟩))).put (some 3) (.pointer (some ⟨d, 0, none⟩))).put (some 4) (.pointer (some ⟨d, 0, none⟩))).put (some 5) (f1)).put (some 8) (.pointer (some ⟨d, 0, none⟩))).put (some 9) (.pointer (some ⟨d, 0, none⟩))).put (some 10) (f0)).put (some 11) (nv)).put (some 7) (ev)).put (some 12) (cv)).put (some 13) (lv)).put (some 6) (pv)).put (some 14) (qv)).put (some 15) (.pointer (some ⟨d, 0, none⟩))).put (some 16) (f1) → Q .normal a' w') :
    (Code.region 0 mark0_ops true).wp Try.prog Q a w := by
  refine wp_region_noPanic ?_
  refine wp_region_held_drew (S := fun w' => S w') (by kernel_rfl) (S0) (fun hHeld => ?_)
  refine tk 0 mark0_o0 (.pointer (some ⟨d, 0, none⟩)) (by rfl) (fun w1 hw => exec_move rfl t0) hHeld (fun a1 e1 => ?_)
  rw [← e1] at h1 h2 h3 h4
  have z1 := pz e1 hsz
  replace t0 := pk e1 t0
  have t2 := pq e1 hsz
  clear e1 hsz
  refine tk 1 mark0_o1 (.pointer (some ⟨d, 0, none⟩)) (by rfl) (fun w1 hw => exec_move rfl t0) hHeld (fun a2 e2 => ?_)
  rw [← e2] at h1 h2 h3 h4
  have z2 := pz e2 z1
  replace t0 := pk e2 t0
  replace t2 := pk e2 t2
  have t3 := pq e2 z1
  clear e2 z1
  refine tk 2 mark0_o2 (.pointer (some ⟨d, 0, none⟩)) (by rfl) (fun w1 hw => exec_nilCheck rfl t3) hHeld (fun a3 e3 => ?_)
  rw [← e3] at h1 h2 h3 h4
  have z3 := pz e3 z2
  replace t0 := pk e3 t0
  replace t2 := pk e3 t2
  clear t3
  have t4 := pq e3 z2
  clear e3 z2
  refine tk 3 mark0_o3 (f1) (by rfl) (fun w1 hw => exec_fieldAt rfl t4 (GF1 _)) hHeld (fun a4 e4 => ?_)
  rw [← e4] at h1 h2 h3 h4
  have z4 := pz e4 z3
  replace t0 := pk e4 t0
  replace t2 := pk e4 t2
  clear t4
  have t5 := pq e4 z3
  clear e4 z3
  refine tk 6 mark0_o6 (.pointer (some ⟨d, 0, none⟩)) (by rfl) (fun w1 hw => exec_move rfl t0) hHeld (fun a5 e5 => ?_)
  rw [← e5] at h1 h2 h3 h4
  have z5 := pz e5 z4
  clear t0
  replace t2 := pk e5 t2
  replace t5 := pk e5 t5
  have t8 := pq e5 z4
  clear e5 z4
  refine tk 7 mark0_o7 (.pointer (some ⟨d, 0, none⟩)) (by rfl) (fun w1 hw => exec_nilCheck rfl t8) hHeld (fun a6 e6 => ?_)
  rw [← e6] at h1 h2 h3 h4
  have z6 := pz e6 z5
  replace t2 := pk e6 t2
  replace t5 := pk e6 t5
  clear t8
  have t9 := pq e6 z5
  clear e6 z5
  refine tk 8 mark0_o8 (f0) (by rfl) (fun w1 hw => exec_fieldAt rfl t9 (GF0 _)) hHeld (fun a7 e7 => ?_)
  rw [← e7] at h1 h2 h3 h4
  have z7 := pz e7 z6
  replace t2 := pk e7 t2
  replace t5 := pk e7 t5
  clear t9
  have t10 := pq e7 z6
  clear e7 z6
  refine tk 9 mark0_o9 (nv) (by rfl) (fun w1 hw => exec_load rfl t10 (GL0 _ hw)) hHeld (fun a8 e8 => ?_)
  rw [← e8] at h1 h2 h3 h4
  have z8 := pz e8 z7
  replace t2 := pk e8 t2
  replace t5 := pk e8 t5
  clear t10
  have t11 := pq e8 z7
  clear e8 z7
  refine wpAnyH_ready (rs := [4, 5]) (by kernel_rfl) (by simp) ?_
  refine AllReadyH.cons (o := mark0_o4) rfl (fun K hK => ?_) (AllReadyH.cons (o := mark0_o5) rfl (fun K hK => ?_) (AllReadyH.nil))
  · clear h2 h3 h4
    skip
    have X := exec_load (P := Try.prog) (a := a8) (o := mark0_o4) rfl t5 K0
    rw [if_pos (by rfl), Oper.wp, X]
    show K _ _
    clear X
    refine hK.out _ _ (S0) (fun hHeld => ?_)
    clear hK K
    change wpAnyH _ _ _ _ _ _ _ (a8.put (some 6) (pv)) _
    obtain ⟨a9, e9⟩ : ∃ act, act = a8.put (some 6) (pv) := ⟨_, rfl⟩
    rw [← e9] at h1 ⊢
    have z9 := pz e9 z8
    replace t2 := pk e9 t2
    clear t5
    replace t11 := pk e9 t11
    have t6 := pq e9 z8
    clear e9 z8
    refine wpAnyH_ready (rs := [5]) (by kernel_rfl) (by simp) ?_
    refine AllReadyH.cons (o := mark0_o5) rfl (fun K hK => ?_) AllReadyH.nil
    skip
    have X := exec_buildSlice0 (P := Try.prog) (a := a9) (o := mark0_o5) rfl EB0
    rw [if_pos (by rfl), Oper.wp, X]
    show K _ _
    clear X
    refine hK.out _ _ (S1) (fun hHeld => ?_)
    clear hK K
    change wpAnyH _ _ _ _ _ _ _ (a9.put (some 7) (ev)) _
    obtain ⟨a10, e10⟩ : ∃ act, act = a9.put (some 7) (ev) := ⟨_, rfl⟩
    rw [← e10] at h1 ⊢
    have z10 := pz e10 z9
    replace t2 := pk e10 t2
    replace t11 := pk e10 t11
    replace t6 := pk e10 t6
    have t7 := pq e10 z9
    clear e10 z9
    refine wpAnyH_ready (rs := [10]) (by kernel_rfl) (by simp) ?_
    refine AllReadyH.cons (o := mark0_o10) rfl (fun K hK => ?_) AllReadyH.nil
    skip
    have X := exec_append (P := Try.prog) (a := a10) (o := mark0_o10) rfl t7 t11 EA1
    rw [if_pos (by rfl), Oper.wp, X]
    show K _ _
    clear X
    refine hK.out _ _ (S2) (fun hHeld => ?_)
    clear hK K
    change wpAnyH _ _ _ _ _ _ _ (a10.put (some 12) (cv)) _
    obtain ⟨a11, e11⟩ : ∃ act, act = a10.put (some 12) (cv) := ⟨_, rfl⟩
    rw [← e11] at h1 ⊢
    have z11 := pz e11 z10
    replace t2 := pk e11 t2
    clear t11
    replace t6 := pk e11 t6
    clear t7
    have t12 := pq e11 z10
    clear e11 z10
    refine wpAnyH_ready (rs := [11]) (by kernel_rfl) (by simp) ?_
    refine AllReadyH.cons (o := mark0_o11) rfl (fun K hK => ?_) AllReadyH.nil
    skip
    have X := exec_buildSlice (P := Try.prog) (a := a11) (o := mark0_o11) rfl t12 EB1
    rw [if_pos (by rfl), Oper.wp, X]
    show K _ _
    clear X
    refine hK.out _ _ (S3) (fun hHeld => ?_)
    clear hK K
    change wpAnyH _ _ _ _ _ _ _ (a11.put (some 13) (lv)) _
    obtain ⟨a12, e12⟩ : ∃ act, act = a11.put (some 13) (lv) := ⟨_, rfl⟩
    rw [← e12] at h1 ⊢
    have z12 := pz e12 z11
    replace t2 := pk e12 t2
    replace t6 := pk e12 t6
    clear t12
    have t13 := pq e12 z11
    clear e12 z11
    refine wpAnyH_ready (rs := [12]) (by kernel_rfl) (by simp) ?_
    refine AllReadyH.cons (o := mark0_o12) rfl (fun K hK => ?_) AllReadyH.nil
    skip
    have X := exec_append (P := Try.prog) (a := a12) (o := mark0_o12) rfl t6 t13 EA2
    rw [if_pos (by rfl), Oper.wp, X]
    show K _ _
    clear X
    refine hK.out _ _ (S4) (fun hHeld => ?_)
    clear hK K
    change wpAnyH _ _ _ _ _ _ _ (a12.put (some 14) (qv)) _
    obtain ⟨a13, e13⟩ : ∃ act, act = a12.put (some 14) (qv) := ⟨_, rfl⟩
    rw [← e13] at h1 ⊢
    have z13 := pz e13 z12
    replace t2 := pk e13 t2
    clear t6
    clear t13
    have t14 := pq e13 z12
    clear e13 z12
    refine tk 13 mark0_o13 (.pointer (some ⟨d, 0, none⟩)) (by rfl) (fun w1 hw => exec_nilCheck rfl t2) hHeld (fun a14 e14 => ?_)
    rw [← e14] at h1
    have z14 := pz e14 z13
    clear t2
    replace t14 := pk e14 t14
    have t15 := pq e14 z13
    clear e14 z13
    refine tk 14 mark0_o14 (f1) (by rfl) (fun w1 hw => exec_fieldAt rfl t15 (GF1 _)) hHeld (fun a15 e15 => ?_)
    rw [← e15] at h1
    have z15 := pz e15 z14
    replace t14 := pk e15 t14
    clear t15
    have t16 := pq e15 z14
    clear e15 z14
    refine wpAnyH_ready (rs := [15]) (by kernel_rfl) (by simp) ?_
    refine AllReadyH.cons (o := mark0_o15) rfl (fun K hK => ?_) AllReadyH.nil
    skip
    have X := exec_store (P := Try.prog) (a := a15) (o := mark0_o15) rfl t16 t14 ES
    rw [if_pos (by rfl), Oper.wp, X]
    show K _ _
    clear X
    refine hK.out _ _ (S5) (fun hHeld => ?_)
    clear hK K
    exact wpAnyH_done (by kernel_rfl) (NoPanic.normal (h1 _ _ (rfl) rfl)) _
  · clear h1
    skip
    have X := exec_buildSlice0 (P := Try.prog) (a := a8) (o := mark0_o5) rfl EB0
    rw [if_pos (by rfl), Oper.wp, X]
    show K _ _
    clear X
    refine hK.out _ _ (S1) (fun hHeld => ?_)
    clear hK K
    change wpAnyH _ _ _ _ _ _ _ (a8.put (some 7) (ev)) _
    obtain ⟨a17, e17⟩ : ∃ act, act = a8.put (some 7) (ev) := ⟨_, rfl⟩
    rw [← e17] at h2 h3 h4 ⊢
    have z17 := pz e17 z8
    replace t2 := pk e17 t2
    replace t5 := pk e17 t5
    replace t11 := pk e17 t11
    have t7 := pq e17 z8
    clear e17 z8
    refine wpAnyH_ready (rs := [4, 10]) (by kernel_rfl) (by simp) ?_
    refine AllReadyH.cons (o := mark0_o4) rfl (fun K hK => ?_) (AllReadyH.cons (o := mark0_o10) rfl (fun K hK => ?_) (AllReadyH.nil))
    · clear h3 h4
      skip
      have X := exec_load (P := Try.prog) (a := a17) (o := mark0_o4) rfl t5 K1
      rw [if_pos (by rfl), Oper.wp, X]
      show K _ _
      clear X
      refine hK.out _ _ (S1) (fun hHeld => ?_)
      clear hK K
      change wpAnyH _ _ _ _ _ _ _ (a17.put (some 6) (pv)) _
      obtain ⟨a18, e18⟩ : ∃ act, act = a17.put (some 6) (pv) := ⟨_, rfl⟩
      rw [← e18] at h2 ⊢
      have z18 := pz e18 z17
      replace t2 := pk e18 t2
      clear t5
      replace t11 := pk e18 t11
      replace t7 := pk e18 t7
      have t6 := pq e18 z17
      clear e18 z17
      refine wpAnyH_ready (rs := [10]) (by kernel_rfl) (by simp) ?_
      refine AllReadyH.cons (o := mark0_o10) rfl (fun K hK => ?_) AllReadyH.nil
      skip
      have X := exec_append (P := Try.prog) (a := a18) (o := mark0_o10) rfl t7 t11 EA1
      rw [if_pos (by rfl), Oper.wp, X]
      show K _ _
      clear X
      refine hK.out _ _ (S2) (fun hHeld => ?_)
      clear hK K
      change wpAnyH _ _ _ _ _ _ _ (a18.put (some 12) (cv)) _
      obtain ⟨a19, e19⟩ : ∃ act, act = a18.put (some 12) (cv) := ⟨_, rfl⟩
      rw [← e19] at h2 ⊢
      have z19 := pz e19 z18
      replace t2 := pk e19 t2
      clear t11
      clear t7
      replace t6 := pk e19 t6
      have t12 := pq e19 z18
      clear e19 z18
      refine wpAnyH_ready (rs := [11]) (by kernel_rfl) (by simp) ?_
      refine AllReadyH.cons (o := mark0_o11) rfl (fun K hK => ?_) AllReadyH.nil
      skip
      have X := exec_buildSlice (P := Try.prog) (a := a19) (o := mark0_o11) rfl t12 EB1
      rw [if_pos (by rfl), Oper.wp, X]
      show K _ _
      clear X
      refine hK.out _ _ (S3) (fun hHeld => ?_)
      clear hK K
      change wpAnyH _ _ _ _ _ _ _ (a19.put (some 13) (lv)) _
      obtain ⟨a20, e20⟩ : ∃ act, act = a19.put (some 13) (lv) := ⟨_, rfl⟩
      rw [← e20] at h2 ⊢
      have z20 := pz e20 z19
      replace t2 := pk e20 t2
      replace t6 := pk e20 t6
      clear t12
      have t13 := pq e20 z19
      clear e20 z19
      refine wpAnyH_ready (rs := [12]) (by kernel_rfl) (by simp) ?_
      refine AllReadyH.cons (o := mark0_o12) rfl (fun K hK => ?_) AllReadyH.nil
      skip
      have X := exec_append (P := Try.prog) (a := a20) (o := mark0_o12) rfl t6 t13 EA2
      rw [if_pos (by rfl), Oper.wp, X]
      show K _ _
      clear X
      refine hK.out _ _ (S4) (fun hHeld => ?_)
      clear hK K
      change wpAnyH _ _ _ _ _ _ _ (a20.put (some 14) (qv)) _
      obtain ⟨a21, e21⟩ : ∃ act, act = a20.put (some 14) (qv) := ⟨_, rfl⟩
      rw [← e21] at h2 ⊢
      have z21 := pz e21 z20
      replace t2 := pk e21 t2
      clear t6
      clear t13
      have t14 := pq e21 z20
      clear e21 z20
      refine tk 13 mark0_o13 (.pointer (some ⟨d, 0, none⟩)) (by rfl) (fun w1 hw => exec_nilCheck rfl t2) hHeld (fun a22 e22 => ?_)
      rw [← e22] at h2
      have z22 := pz e22 z21
      clear t2
      replace t14 := pk e22 t14
      have t15 := pq e22 z21
      clear e22 z21
      refine tk 14 mark0_o14 (f1) (by rfl) (fun w1 hw => exec_fieldAt rfl t15 (GF1 _)) hHeld (fun a23 e23 => ?_)
      rw [← e23] at h2
      have z23 := pz e23 z22
      replace t14 := pk e23 t14
      clear t15
      have t16 := pq e23 z22
      clear e23 z22
      refine wpAnyH_ready (rs := [15]) (by kernel_rfl) (by simp) ?_
      refine AllReadyH.cons (o := mark0_o15) rfl (fun K hK => ?_) AllReadyH.nil
      skip
      have X := exec_store (P := Try.prog) (a := a23) (o := mark0_o15) rfl t16 t14 ES
      rw [if_pos (by rfl), Oper.wp, X]
      show K _ _
      clear X
      refine hK.out _ _ (S5) (fun hHeld => ?_)
      clear hK K
      exact wpAnyH_done (by kernel_rfl) (NoPanic.normal (h2 _ _ (rfl) rfl)) _
    · clear h2
      skip
      have X := exec_append (P := Try.prog) (a := a17) (o := mark0_o10) rfl t7 t11 EA1
      rw [if_pos (by rfl), Oper.wp, X]
      show K _ _
      clear X
      refine hK.out _ _ (S2) (fun hHeld => ?_)
      clear hK K
      change wpAnyH _ _ _ _ _ _ _ (a17.put (some 12) (cv)) _
      obtain ⟨a25, e25⟩ : ∃ act, act = a17.put (some 12) (cv) := ⟨_, rfl⟩
      rw [← e25] at h3 h4 ⊢
      have z25 := pz e25 z17
      replace t2 := pk e25 t2
      replace t5 := pk e25 t5
      clear t11
      clear t7
      have t12 := pq e25 z17
      clear e25 z17
      refine wpAnyH_ready (rs := [4, 11]) (by kernel_rfl) (by simp) ?_
      refine AllReadyH.cons (o := mark0_o4) rfl (fun K hK => ?_) (AllReadyH.cons (o := mark0_o11) rfl (fun K hK => ?_) (AllReadyH.nil))
      · clear h4
        skip
        have X := exec_load (P := Try.prog) (a := a25) (o := mark0_o4) rfl t5 K2
        rw [if_pos (by rfl), Oper.wp, X]
        show K _ _
        clear X
        refine hK.out _ _ (S2) (fun hHeld => ?_)
        clear hK K
        change wpAnyH _ _ _ _ _ _ _ (a25.put (some 6) (pv)) _
        obtain ⟨a26, e26⟩ : ∃ act, act = a25.put (some 6) (pv) := ⟨_, rfl⟩
        rw [← e26] at h3 ⊢
        have z26 := pz e26 z25
        replace t2 := pk e26 t2
        clear t5
        replace t12 := pk e26 t12
        have t6 := pq e26 z25
        clear e26 z25
        refine wpAnyH_ready (rs := [11]) (by kernel_rfl) (by simp) ?_
        refine AllReadyH.cons (o := mark0_o11) rfl (fun K hK => ?_) AllReadyH.nil
        skip
        have X := exec_buildSlice (P := Try.prog) (a := a26) (o := mark0_o11) rfl t12 EB1
        rw [if_pos (by rfl), Oper.wp, X]
        show K _ _
        clear X
        refine hK.out _ _ (S3) (fun hHeld => ?_)
        clear hK K
        change wpAnyH _ _ _ _ _ _ _ (a26.put (some 13) (lv)) _
        obtain ⟨a27, e27⟩ : ∃ act, act = a26.put (some 13) (lv) := ⟨_, rfl⟩
        rw [← e27] at h3 ⊢
        have z27 := pz e27 z26
        replace t2 := pk e27 t2
        clear t12
        replace t6 := pk e27 t6
        have t13 := pq e27 z26
        clear e27 z26
        refine wpAnyH_ready (rs := [12]) (by kernel_rfl) (by simp) ?_
        refine AllReadyH.cons (o := mark0_o12) rfl (fun K hK => ?_) AllReadyH.nil
        skip
        have X := exec_append (P := Try.prog) (a := a27) (o := mark0_o12) rfl t6 t13 EA2
        rw [if_pos (by rfl), Oper.wp, X]
        show K _ _
        clear X
        refine hK.out _ _ (S4) (fun hHeld => ?_)
        clear hK K
        change wpAnyH _ _ _ _ _ _ _ (a27.put (some 14) (qv)) _
        obtain ⟨a28, e28⟩ : ∃ act, act = a27.put (some 14) (qv) := ⟨_, rfl⟩
        rw [← e28] at h3 ⊢
        have z28 := pz e28 z27
        replace t2 := pk e28 t2
        clear t6
        clear t13
        have t14 := pq e28 z27
        clear e28 z27
        refine tk 13 mark0_o13 (.pointer (some ⟨d, 0, none⟩)) (by rfl) (fun w1 hw => exec_nilCheck rfl t2) hHeld (fun a29 e29 => ?_)
        rw [← e29] at h3
        have z29 := pz e29 z28
        clear t2
        replace t14 := pk e29 t14
        have t15 := pq e29 z28
        clear e29 z28
        refine tk 14 mark0_o14 (f1) (by rfl) (fun w1 hw => exec_fieldAt rfl t15 (GF1 _)) hHeld (fun a30 e30 => ?_)
        rw [← e30] at h3
        have z30 := pz e30 z29
        replace t14 := pk e30 t14
        clear t15
        have t16 := pq e30 z29
        clear e30 z29
        refine wpAnyH_ready (rs := [15]) (by kernel_rfl) (by simp) ?_
        refine AllReadyH.cons (o := mark0_o15) rfl (fun K hK => ?_) AllReadyH.nil
        skip
        have X := exec_store (P := Try.prog) (a := a30) (o := mark0_o15) rfl t16 t14 ES
        rw [if_pos (by rfl), Oper.wp, X]
        show K _ _
        clear X
        refine hK.out _ _ (S5) (fun hHeld => ?_)
        clear hK K
        exact wpAnyH_done (by kernel_rfl) (NoPanic.normal (h3 _ _ (rfl) rfl)) _
      · clear h3
        skip
        have X := exec_buildSlice (P := Try.prog) (a := a25) (o := mark0_o11) rfl t12 EB1
        rw [if_pos (by rfl), Oper.wp, X]
        show K _ _
        clear X
        refine hK.out _ _ (S3) (fun hHeld => ?_)
        clear hK K
        change wpAnyH _ _ _ _ _ _ _ (a25.put (some 13) (lv)) _
        obtain ⟨a32, e32⟩ : ∃ act, act = a25.put (some 13) (lv) := ⟨_, rfl⟩
        rw [← e32] at h4 ⊢
        have z32 := pz e32 z25
        replace t2 := pk e32 t2
        replace t5 := pk e32 t5
        clear t12
        have t13 := pq e32 z25
        clear e32 z25
        refine wpAnyH_ready (rs := [4]) (by kernel_rfl) (by simp) ?_
        refine AllReadyH.cons (o := mark0_o4) rfl (fun K hK => ?_) AllReadyH.nil
        skip
        have X := exec_load (P := Try.prog) (a := a32) (o := mark0_o4) rfl t5 K3
        rw [if_pos (by rfl), Oper.wp, X]
        show K _ _
        clear X
        refine hK.out _ _ (S3) (fun hHeld => ?_)
        clear hK K
        change wpAnyH _ _ _ _ _ _ _ (a32.put (some 6) (pv)) _
        obtain ⟨a33, e33⟩ : ∃ act, act = a32.put (some 6) (pv) := ⟨_, rfl⟩
        rw [← e33] at h4 ⊢
        have z33 := pz e33 z32
        replace t2 := pk e33 t2
        clear t5
        replace t13 := pk e33 t13
        have t6 := pq e33 z32
        clear e33 z32
        refine wpAnyH_ready (rs := [12]) (by kernel_rfl) (by simp) ?_
        refine AllReadyH.cons (o := mark0_o12) rfl (fun K hK => ?_) AllReadyH.nil
        skip
        have X := exec_append (P := Try.prog) (a := a33) (o := mark0_o12) rfl t6 t13 EA2
        rw [if_pos (by rfl), Oper.wp, X]
        show K _ _
        clear X
        refine hK.out _ _ (S4) (fun hHeld => ?_)
        clear hK K
        change wpAnyH _ _ _ _ _ _ _ (a33.put (some 14) (qv)) _
        obtain ⟨a34, e34⟩ : ∃ act, act = a33.put (some 14) (qv) := ⟨_, rfl⟩
        rw [← e34] at h4 ⊢
        have z34 := pz e34 z33
        replace t2 := pk e34 t2
        clear t13
        clear t6
        have t14 := pq e34 z33
        clear e34 z33
        refine tk 13 mark0_o13 (.pointer (some ⟨d, 0, none⟩)) (by rfl) (fun w1 hw => exec_nilCheck rfl t2) hHeld (fun a35 e35 => ?_)
        rw [← e35] at h4
        have z35 := pz e35 z34
        clear t2
        replace t14 := pk e35 t14
        have t15 := pq e35 z34
        clear e35 z34
        refine tk 14 mark0_o14 (f1) (by rfl) (fun w1 hw => exec_fieldAt rfl t15 (GF1 _)) hHeld (fun a36 e36 => ?_)
        rw [← e36] at h4
        have z36 := pz e36 z35
        replace t14 := pk e36 t14
        clear t15
        have t16 := pq e36 z35
        clear e36 z35
        refine wpAnyH_ready (rs := [15]) (by kernel_rfl) (by simp) ?_
        refine AllReadyH.cons (o := mark0_o15) rfl (fun K hK => ?_) AllReadyH.nil
        skip
        have X := exec_store (P := Try.prog) (a := a36) (o := mark0_o15) rfl t16 t14 ES
        rw [if_pos (by rfl), Oper.wp, X]
        show K _ _
        clear X
        refine hK.out _ _ (S5) (fun hHeld => ?_)
        clear hK K
        exact wpAnyH_done (by kernel_rfl) (NoPanic.normal (h4 _ _ (rfl) rfl)) _
end Go.Proofs.Ytoofljkgdjjllaa
