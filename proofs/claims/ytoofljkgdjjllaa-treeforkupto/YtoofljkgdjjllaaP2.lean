import Derived.Test.YtoofljkgdjjllaaRg
import Derived.Test.YtoofljkgdjjllaaP0
set_option maxRecDepth 100000
set_option maxHeartbeats 4000000
namespace Go.Proofs.Ytoofljkgdjjllaa
open Go.RowKit
set_option linter.unusedVariables false
set_option linter.unusedSimpArgs false
theorem fg_32_0 (b o : Nat) (w : World) : (Instr.fieldAt 32 (.pointer (some ⟨b, o, none⟩)) 0).run Try.prog w = .ok (.pointer (some ⟨b, o + 0, none⟩)) w := by go_simp
theorem fg_32_1 (b o : Nat) (w : World) : (Instr.fieldAt 32 (.pointer (some ⟨b, o, none⟩)) 1).run Try.prog w = .ok (.pointer (some ⟨b, o + 1, none⟩)) w := by go_simp
theorem fg_32_2 (b o : Nat) (w : World) : (Instr.fieldAt 32 (.pointer (some ⟨b, o, none⟩)) 2).run Try.prog w = .ok (.pointer (some ⟨b, o + 2, none⟩)) w := by go_simp
theorem fg_32_3 (b o : Nat) (w : World) : (Instr.fieldAt 32 (.pointer (some ⟨b, o, none⟩)) 3).run Try.prog w = .ok (.pointer (some ⟨b, o + 3, none⟩)) w := by go_simp
def step6_o0 : Oper := ⟨some 14, .move (.tmp 0), 24, "law.go:49", #[], none⟩
def step6_o1 : Oper := ⟨some 15, .nilCheck (.tmp 14), 0, "law.go:49", #[⟨0, .data⟩], none⟩
def step6_o2 : Oper := ⟨some 16, .fieldAddr 32 (.tmp 15) 0, 0, "law.go:49", #[⟨1, .data⟩], none⟩
def step6_o3 : Oper := ⟨some 17, .load 25 (.tmp 16), 25, "law.go:49", #[⟨2, .data⟩], none⟩
def step6_o4 : Oper := ⟨some 18, .fieldAddr 39 (.tmp 3) 1, 0, "law.go:49", #[], none⟩
def step6_o5 : Oper := ⟨some 19, .load 37 (.tmp 18), 37, "law.go:49", #[⟨4, .data⟩], none⟩
def step6_o6 : Oper := ⟨some 20, .fieldAddr 39 (.tmp 3) 2, 0, "law.go:49", #[], none⟩
def step6_o7 : Oper := ⟨some 21, .load 37 (.tmp 20), 37, "law.go:49", #[⟨6, .data⟩], none⟩
def step6_o8 : Oper := ⟨some 22, .fieldAddr 39 (.tmp 3) 3, 0, "law.go:49", #[], none⟩
def step6_o9 : Oper := ⟨some 23, .load 9 (.tmp 22), 9, "law.go:49", #[⟨8, .data⟩], none⟩
def step6_o10 : Oper := ⟨some 24, .call { callee := Callee.value (Operand.func 17), args := #[.tmp 17, .tmp 19, .tmp 21, .tmp 23], argTypes := #[25, 37, 37, 9] }, 47, "law.go:49", #[⟨3, .data⟩, ⟨5, .data⟩, ⟨7, .data⟩, ⟨9, .data⟩], none⟩
def step6_o11 : Oper := ⟨some 13, .move (.tmp 24), 47, "law.go:49", #[⟨10, .data⟩], none⟩
def step6_o12 : Oper := ⟨some 25, .extract (.tmp 13) 0, 45, "law.go:49", #[⟨11, .data⟩], none⟩
def step6_o13 : Oper := ⟨some 26, .extract (.tmp 13) 1, 46, "law.go:49", #[⟨11, .data⟩, { on := 14, ground := Ground.gcOnly Departure.lateStores }], none⟩
def step6_o14 : Oper := ⟨some 5, .assign (.tmp 25), 45, "law.go:49", #[⟨12, .data⟩, ⟨10, .chain⟩, ⟨0, .phase⟩, ⟨1, .phase⟩, ⟨2, .phase⟩, ⟨3, .phase⟩, ⟨4, .phase⟩, ⟨5, .phase⟩, ⟨6, .phase⟩, ⟨7, .phase⟩, ⟨8, .phase⟩, ⟨9, .phase⟩, ⟨10, .phase⟩, ⟨11, .phase⟩, ⟨12, .phase⟩, { on := 13, ground := Ground.textOnly Departure.lateStores }], none⟩
def step6_o15 : Oper := ⟨some 6, .assign (.tmp 26), 46, "law.go:49", #[⟨13, .data⟩, ⟨14, .chain⟩, ⟨0, .phase⟩, ⟨1, .phase⟩, ⟨2, .phase⟩, ⟨3, .phase⟩, ⟨4, .phase⟩, ⟨5, .phase⟩, ⟨6, .phase⟩, ⟨7, .phase⟩, ⟨8, .phase⟩, ⟨9, .phase⟩, ⟨10, .phase⟩, ⟨11, .phase⟩, ⟨12, .phase⟩, ⟨13, .phase⟩, ⟨14, .phase⟩], none⟩
def step6_ops : Array Oper := #[step6_o0, step6_o1, step6_o2, step6_o3, step6_o4, step6_o5, step6_o6, step6_o7, step6_o8, step6_o9, step6_o10, step6_o11, step6_o12, step6_o13, step6_o14, step6_o15]
theorem step6 (S : World → Prop) (Po : Value → Value → World → Prop) (x bo : Nat) (tv kv uv sv : Value) (a : Act) (w : World) (Q : Exit → Act → World → Prop) (hsz : a.tmps.size = 127)
    (t0 : a.tmps.getD 0 undef = .pointer (some ⟨x, 0, none⟩))
    (t3 : a.tmps.getD 3 undef = .pointer (some ⟨bo, 0, none⟩))
    (h0 : S w.drew)
    (C : Calls Try.prog 17 #[tv, kv, uv, sv] w.drew fun e w' => ∃ t v, e = .returned (.tuple #[t, v]) ∧ S w' ∧ Po t v w')
    (G1 : ∀ W, S W → (Instr.loadAt 25 (.pointer (some ⟨x, 0 + 0, none⟩))).run Try.prog W = .ok (tv) W)
    (G2 : ∀ W, S W → (Instr.loadAt 37 (.pointer (some ⟨bo, 0 + 1, none⟩))).run Try.prog W = .ok (kv) W)
    (G3 : ∀ W, S W → (Instr.loadAt 37 (.pointer (some ⟨bo, 0 + 34, none⟩))).run Try.prog W = .ok (uv) W)
    (G4 : ∀ W, S W → (Instr.loadAt 9 (.pointer (some ⟨bo, 0 + 67, none⟩))).run Try.prog W = .ok (sv) W)
    (h : ∀ (t v : Value) (a' : Act) (w' : World), Po t v w' → a' = ((((((((((((((((a).put (some 14) (.pointer (some ⟨x, 0, none⟩))).put (some 15) (.pointer (some ⟨x, 0, none⟩))).put (some 16) (.pointer (some ⟨x, 0 + 0, none⟩))).put (some 17) (tv)).put (some 18) (.pointer (some ⟨bo, 0 + 1, none⟩))).put (some 19) (kv)).put (some 20) (.pointer (some ⟨bo, 0 + 34, none⟩))).put (some 21) (uv)).put (some 22) (.pointer (some ⟨bo, 0 + 67, none⟩))).put (some 23) (sv)).put (some 24) (.tuple #[t, v])).put (some 13) (.tuple #[t, v])).put (some 25) (t)).put (some 26) (v)).put (some 5) (t)).put (some 6) (v) → Q .normal a' w') :
    (Code.region 6 step6_ops true).wp Try.prog Q a w := by
  refine wp_region_noPanic ?_
  refine wp_region_held_drew (S := fun w' => S w') (by kernel_rfl) (h0) (fun hHeld => ?_)
  refine tk 0 step6_o0 (.pointer (some ⟨x, 0, none⟩)) (by rfl) (fun w1 hw => exec_move rfl t0) hHeld (fun a1 e1 => ?_)
  rw [← e1] at h
  have z1 := pz e1 hsz
  replace t3 := pk e1 t3
  clear t0
  have t14 := pq e1 hsz
  clear e1 hsz
  refine tk 1 step6_o1 (.pointer (some ⟨x, 0, none⟩)) (by rfl) (fun w1 hw => exec_nilCheck rfl t14) hHeld (fun a2 e2 => ?_)
  rw [← e2] at h
  have z2 := pz e2 z1
  replace t3 := pk e2 t3
  clear t14
  have t15 := pq e2 z1
  clear e2 z1
  refine tk 2 step6_o2 (.pointer (some ⟨x, 0 + 0, none⟩)) (by rfl) (fun w1 hw => exec_fieldAt rfl t15 (fg_32_0 _ _ _)) hHeld (fun a3 e3 => ?_)
  rw [← e3] at h
  have z3 := pz e3 z2
  replace t3 := pk e3 t3
  clear t15
  have t16 := pq e3 z2
  clear e3 z2
  refine tk 3 step6_o3 (tv) (by rfl) (fun w1 hw => exec_load rfl t16 (G1 _ hw)) hHeld (fun a4 e4 => ?_)
  rw [← e4] at h
  have z4 := pz e4 z3
  replace t3 := pk e4 t3
  clear t16
  have t17 := pq e4 z3
  clear e4 z3
  refine tk 4 step6_o4 (.pointer (some ⟨bo, 0 + 1, none⟩)) (by rfl) (fun w1 hw => exec_fieldAt rfl t3 (fg_39_1 _ _ _)) hHeld (fun a5 e5 => ?_)
  rw [← e5] at h
  have z5 := pz e5 z4
  replace t3 := pk e5 t3
  replace t17 := pk e5 t17
  have t18 := pq e5 z4
  clear e5 z4
  refine tk 5 step6_o5 (kv) (by rfl) (fun w1 hw => exec_load rfl t18 (G2 _ hw)) hHeld (fun a6 e6 => ?_)
  rw [← e6] at h
  have z6 := pz e6 z5
  replace t3 := pk e6 t3
  replace t17 := pk e6 t17
  clear t18
  have t19 := pq e6 z5
  clear e6 z5
  refine tk 6 step6_o6 (.pointer (some ⟨bo, 0 + 34, none⟩)) (by rfl) (fun w1 hw => exec_fieldAt rfl t3 (fg_39_2 _ _ _)) hHeld (fun a7 e7 => ?_)
  rw [← e7] at h
  have z7 := pz e7 z6
  replace t3 := pk e7 t3
  replace t17 := pk e7 t17
  replace t19 := pk e7 t19
  have t20 := pq e7 z6
  clear e7 z6
  refine tk 7 step6_o7 (uv) (by rfl) (fun w1 hw => exec_load rfl t20 (G3 _ hw)) hHeld (fun a8 e8 => ?_)
  rw [← e8] at h
  have z8 := pz e8 z7
  replace t3 := pk e8 t3
  replace t17 := pk e8 t17
  replace t19 := pk e8 t19
  clear t20
  have t21 := pq e8 z7
  clear e8 z7
  refine tk 8 step6_o8 (.pointer (some ⟨bo, 0 + 67, none⟩)) (by rfl) (fun w1 hw => exec_fieldAt rfl t3 (fg_39_3 _ _ _)) hHeld (fun a9 e9 => ?_)
  rw [← e9] at h
  have z9 := pz e9 z8
  replace t17 := pk e9 t17
  replace t19 := pk e9 t19
  replace t21 := pk e9 t21
  clear t3
  have t22 := pq e9 z8
  clear e9 z8
  refine tk 9 step6_o9 (sv) (by rfl) (fun w1 hw => exec_load rfl t22 (G4 _ hw)) hHeld (fun a10 e10 => ?_)
  rw [← e10] at h
  have z10 := pz e10 z9
  replace t17 := pk e10 t17
  replace t19 := pk e10 t19
  replace t21 := pk e10 t21
  clear t22
  have t23 := pq e10 z9
  clear e10 z9
  refine wpAnyH_ready (rs := [10]) (by kernel_rfl) (by simp) ?_
  refine AllReadyH.cons (o := step6_o10) rfl (fun K hK => ?_) AllReadyH.nil
  rw [if_pos (by rfl)]
  unfold step6_o10 at hK ⊢
  go_simp
  refine (C).mono ?_
  rintro e x11 ⟨t, v, rfl, hs, hq⟩
  try go_wp2_with fail
  replace h := h t v
  refine hK.out _ _ (hs) (fun hHeld => ?_)
  clear hK K
  change wpAnyH _ _ _ _ _ _ _ (a10.put (some 24) (.tuple #[t, v])) _
  obtain ⟨a11, e11⟩ : ∃ act, act = a10.put (some 24) (.tuple #[t, v]) := ⟨_, rfl⟩
  rw [← e11] at h ⊢
  have z11 := pz e11 z10
  clear t17 t19 t21 t23
  have t24 := pq e11 z10
  clear e11 z10
  refine tk 11 step6_o11 (.tuple #[t, v]) (by rfl) (fun w1 hw => exec_move rfl t24) hHeld (fun a12 e12 => ?_)
  rw [← e12] at h
  have z12 := pz e12 z11
  clear t24
  have t13 := pq e12 z11
  clear e12 z11
  refine tk 12 step6_o12 (t) (by rfl) (fun w1 hw => exec_extract rfl t13 rfl) hHeld (fun a13 e13 => ?_)
  rw [← e13] at h
  have z13 := pz e13 z12
  replace t13 := pk e13 t13
  have t25 := pq e13 z12
  clear e13 z12
  refine tk 13 step6_o13 (v) (by rfl) (fun w1 hw => exec_extract rfl t13 rfl) hHeld (fun a14 e14 => ?_)
  rw [← e14] at h
  have z14 := pz e14 z13
  replace t25 := pk e14 t25
  clear t13
  have t26 := pq e14 z13
  clear e14 z13
  refine tk 14 step6_o14 (t) (by rfl) (fun w1 hw => exec_assign rfl t25) hHeld (fun a15 e15 => ?_)
  rw [← e15] at h
  have z15 := pz e15 z14
  replace t26 := pk e15 t26
  clear t25
  clear e15 z14
  refine tk 15 step6_o15 (v) (by rfl) (fun w1 hw => exec_assign rfl t26) hHeld (fun a16 e16 => ?_)
  rw [← e16] at h
  have z16 := pz e16 z15
  clear t26
  clear e16 z15
  exact wpAnyH_done (by kernel_rfl) (NoPanic.normal (h _ _ (hq) rfl)) _
def step9_o0 : Oper := ⟨some 41, .move (.tmp 0), 24, "law.go:52", #[], none⟩
def step9_o1 : Oper := ⟨some 42, .nilCheck (.tmp 41), 0, "law.go:52", #[⟨0, .data⟩], none⟩
def step9_o2 : Oper := ⟨some 43, .fieldAddr 32 (.tmp 42) 0, 0, "law.go:52", #[⟨1, .data⟩], none⟩
def step9_o3 : Oper := ⟨some 44, .load 25 (.tmp 43), 25, "law.go:52", #[⟨2, .data⟩], none⟩
def step9_o4 : Oper := ⟨some 45, .fieldAddr 39 (.tmp 3) 1, 0, "law.go:52", #[], none⟩
def step9_o5 : Oper := ⟨some 46, .load 37 (.tmp 45), 37, "law.go:52", #[⟨4, .data⟩], none⟩
def step9_o6 : Oper := ⟨some 47, .fieldAddr 39 (.tmp 3) 2, 0, "law.go:52", #[], none⟩
def step9_o7 : Oper := ⟨some 48, .load 37 (.tmp 47), 37, "law.go:52", #[⟨6, .data⟩], none⟩
def step9_o8 : Oper := ⟨some 49, .fieldAddr 39 (.tmp 3) 3, 0, "law.go:52", #[], none⟩
def step9_o9 : Oper := ⟨some 50, .load 9 (.tmp 49), 9, "law.go:52", #[⟨8, .data⟩], none⟩
def step9_o10 : Oper := ⟨some 51, .call { callee := Callee.value (Operand.func 19), args := #[.tmp 44, .tmp 46, .tmp 48, .tmp 50], argTypes := #[25, 37, 37, 9] }, 47, "law.go:52", #[⟨3, .data⟩, ⟨5, .data⟩, ⟨7, .data⟩, ⟨9, .data⟩], none⟩
def step9_o11 : Oper := ⟨some 40, .move (.tmp 51), 47, "law.go:52", #[⟨10, .data⟩], none⟩
def step9_o12 : Oper := ⟨some 52, .extract (.tmp 40) 0, 45, "law.go:52", #[⟨11, .data⟩], none⟩
def step9_o13 : Oper := ⟨some 53, .extract (.tmp 40) 1, 46, "law.go:52", #[⟨11, .data⟩, { on := 14, ground := Ground.gcOnly Departure.lateStores }], none⟩
def step9_o14 : Oper := ⟨some 5, .assign (.tmp 52), 45, "law.go:52", #[⟨12, .data⟩, ⟨10, .chain⟩, ⟨0, .phase⟩, ⟨1, .phase⟩, ⟨2, .phase⟩, ⟨3, .phase⟩, ⟨4, .phase⟩, ⟨5, .phase⟩, ⟨6, .phase⟩, ⟨7, .phase⟩, ⟨8, .phase⟩, ⟨9, .phase⟩, ⟨10, .phase⟩, ⟨11, .phase⟩, ⟨12, .phase⟩, { on := 13, ground := Ground.textOnly Departure.lateStores }], none⟩
def step9_o15 : Oper := ⟨some 6, .assign (.tmp 53), 46, "law.go:52", #[⟨13, .data⟩, ⟨14, .chain⟩, ⟨0, .phase⟩, ⟨1, .phase⟩, ⟨2, .phase⟩, ⟨3, .phase⟩, ⟨4, .phase⟩, ⟨5, .phase⟩, ⟨6, .phase⟩, ⟨7, .phase⟩, ⟨8, .phase⟩, ⟨9, .phase⟩, ⟨10, .phase⟩, ⟨11, .phase⟩, ⟨12, .phase⟩, ⟨13, .phase⟩, ⟨14, .phase⟩], none⟩
def step9_ops : Array Oper := #[step9_o0, step9_o1, step9_o2, step9_o3, step9_o4, step9_o5, step9_o6, step9_o7, step9_o8, step9_o9, step9_o10, step9_o11, step9_o12, step9_o13, step9_o14, step9_o15]
theorem step9 (S : World → Prop) (Po : Value → Value → World → Prop) (x bo : Nat) (tv kv uv sv : Value) (a : Act) (w : World) (Q : Exit → Act → World → Prop) (hsz : a.tmps.size = 127)
    (t0 : a.tmps.getD 0 undef = .pointer (some ⟨x, 0, none⟩))
    (t3 : a.tmps.getD 3 undef = .pointer (some ⟨bo, 0, none⟩))
    (h0 : S w.drew)
    (C : Calls Try.prog 19 #[tv, kv, uv, sv] w.drew fun e w' => ∃ t v, e = .returned (.tuple #[t, v]) ∧ S w' ∧ Po t v w')
    (G1 : ∀ W, S W → (Instr.loadAt 25 (.pointer (some ⟨x, 0 + 0, none⟩))).run Try.prog W = .ok (tv) W)
    (G2 : ∀ W, S W → (Instr.loadAt 37 (.pointer (some ⟨bo, 0 + 1, none⟩))).run Try.prog W = .ok (kv) W)
    (G3 : ∀ W, S W → (Instr.loadAt 37 (.pointer (some ⟨bo, 0 + 34, none⟩))).run Try.prog W = .ok (uv) W)
    (G4 : ∀ W, S W → (Instr.loadAt 9 (.pointer (some ⟨bo, 0 + 67, none⟩))).run Try.prog W = .ok (sv) W)
    (h : ∀ (t v : Value) (a' : Act) (w' : World), Po t v w' → a' = ((((((((((((((((a).put (some 41) (.pointer (some ⟨x, 0, none⟩))).put (some 42) (.pointer (some ⟨x, 0, none⟩))).put (some 43) (.pointer (some ⟨x, 0 + 0, none⟩))).put (some 44) (tv)).put (some 45) (.pointer (some ⟨bo, 0 + 1, none⟩))).put (some 46) (kv)).put (some 47) (.pointer (some ⟨bo, 0 + 34, none⟩))).put (some 48) (uv)).put (some 49) (.pointer (some ⟨bo, 0 + 67, none⟩))).put (some 50) (sv)).put (some 51) (.tuple #[t, v])).put (some 40) (.tuple #[t, v])).put (some 52) (t)).put (some 53) (v)).put (some 5) (t)).put (some 6) (v) → Q .normal a' w') :
    (Code.region 9 step9_ops true).wp Try.prog Q a w := by
  refine wp_region_noPanic ?_
  refine wp_region_held_drew (S := fun w' => S w') (by kernel_rfl) (h0) (fun hHeld => ?_)
  refine tk 0 step9_o0 (.pointer (some ⟨x, 0, none⟩)) (by rfl) (fun w1 hw => exec_move rfl t0) hHeld (fun a1 e1 => ?_)
  rw [← e1] at h
  have z1 := pz e1 hsz
  replace t3 := pk e1 t3
  clear t0
  have t41 := pq e1 hsz
  clear e1 hsz
  refine tk 1 step9_o1 (.pointer (some ⟨x, 0, none⟩)) (by rfl) (fun w1 hw => exec_nilCheck rfl t41) hHeld (fun a2 e2 => ?_)
  rw [← e2] at h
  have z2 := pz e2 z1
  replace t3 := pk e2 t3
  clear t41
  have t42 := pq e2 z1
  clear e2 z1
  refine tk 2 step9_o2 (.pointer (some ⟨x, 0 + 0, none⟩)) (by rfl) (fun w1 hw => exec_fieldAt rfl t42 (fg_32_0 _ _ _)) hHeld (fun a3 e3 => ?_)
  rw [← e3] at h
  have z3 := pz e3 z2
  replace t3 := pk e3 t3
  clear t42
  have t43 := pq e3 z2
  clear e3 z2
  refine tk 3 step9_o3 (tv) (by rfl) (fun w1 hw => exec_load rfl t43 (G1 _ hw)) hHeld (fun a4 e4 => ?_)
  rw [← e4] at h
  have z4 := pz e4 z3
  replace t3 := pk e4 t3
  clear t43
  have t44 := pq e4 z3
  clear e4 z3
  refine tk 4 step9_o4 (.pointer (some ⟨bo, 0 + 1, none⟩)) (by rfl) (fun w1 hw => exec_fieldAt rfl t3 (fg_39_1 _ _ _)) hHeld (fun a5 e5 => ?_)
  rw [← e5] at h
  have z5 := pz e5 z4
  replace t3 := pk e5 t3
  replace t44 := pk e5 t44
  have t45 := pq e5 z4
  clear e5 z4
  refine tk 5 step9_o5 (kv) (by rfl) (fun w1 hw => exec_load rfl t45 (G2 _ hw)) hHeld (fun a6 e6 => ?_)
  rw [← e6] at h
  have z6 := pz e6 z5
  replace t3 := pk e6 t3
  replace t44 := pk e6 t44
  clear t45
  have t46 := pq e6 z5
  clear e6 z5
  refine tk 6 step9_o6 (.pointer (some ⟨bo, 0 + 34, none⟩)) (by rfl) (fun w1 hw => exec_fieldAt rfl t3 (fg_39_2 _ _ _)) hHeld (fun a7 e7 => ?_)
  rw [← e7] at h
  have z7 := pz e7 z6
  replace t3 := pk e7 t3
  replace t44 := pk e7 t44
  replace t46 := pk e7 t46
  have t47 := pq e7 z6
  clear e7 z6
  refine tk 7 step9_o7 (uv) (by rfl) (fun w1 hw => exec_load rfl t47 (G3 _ hw)) hHeld (fun a8 e8 => ?_)
  rw [← e8] at h
  have z8 := pz e8 z7
  replace t3 := pk e8 t3
  replace t44 := pk e8 t44
  replace t46 := pk e8 t46
  clear t47
  have t48 := pq e8 z7
  clear e8 z7
  refine tk 8 step9_o8 (.pointer (some ⟨bo, 0 + 67, none⟩)) (by rfl) (fun w1 hw => exec_fieldAt rfl t3 (fg_39_3 _ _ _)) hHeld (fun a9 e9 => ?_)
  rw [← e9] at h
  have z9 := pz e9 z8
  replace t44 := pk e9 t44
  replace t46 := pk e9 t46
  replace t48 := pk e9 t48
  clear t3
  have t49 := pq e9 z8
  clear e9 z8
  refine tk 9 step9_o9 (sv) (by rfl) (fun w1 hw => exec_load rfl t49 (G4 _ hw)) hHeld (fun a10 e10 => ?_)
  rw [← e10] at h
  have z10 := pz e10 z9
  replace t44 := pk e10 t44
  replace t46 := pk e10 t46
  replace t48 := pk e10 t48
  clear t49
  have t50 := pq e10 z9
  clear e10 z9
  refine wpAnyH_ready (rs := [10]) (by kernel_rfl) (by simp) ?_
  refine AllReadyH.cons (o := step9_o10) rfl (fun K hK => ?_) AllReadyH.nil
  rw [if_pos (by rfl)]
  unfold step9_o10 at hK ⊢
  go_simp
  refine (C).mono ?_
  rintro e x11 ⟨t, v, rfl, hs, hq⟩
  try go_wp2_with fail
  replace h := h t v
  refine hK.out _ _ (hs) (fun hHeld => ?_)
  clear hK K
  change wpAnyH _ _ _ _ _ _ _ (a10.put (some 51) (.tuple #[t, v])) _
  obtain ⟨a11, e11⟩ : ∃ act, act = a10.put (some 51) (.tuple #[t, v]) := ⟨_, rfl⟩
  rw [← e11] at h ⊢
  have z11 := pz e11 z10
  clear t44 t46 t48 t50
  have t51 := pq e11 z10
  clear e11 z10
  refine tk 11 step9_o11 (.tuple #[t, v]) (by rfl) (fun w1 hw => exec_move rfl t51) hHeld (fun a12 e12 => ?_)
  rw [← e12] at h
  have z12 := pz e12 z11
  clear t51
  have t40 := pq e12 z11
  clear e12 z11
  refine tk 12 step9_o12 (t) (by rfl) (fun w1 hw => exec_extract rfl t40 rfl) hHeld (fun a13 e13 => ?_)
  rw [← e13] at h
  have z13 := pz e13 z12
  replace t40 := pk e13 t40
  have t52 := pq e13 z12
  clear e13 z12
  refine tk 13 step9_o13 (v) (by rfl) (fun w1 hw => exec_extract rfl t40 rfl) hHeld (fun a14 e14 => ?_)
  rw [← e14] at h
  have z14 := pz e14 z13
  replace t52 := pk e14 t52
  clear t40
  have t53 := pq e14 z13
  clear e14 z13
  refine tk 14 step9_o14 (t) (by rfl) (fun w1 hw => exec_assign rfl t52) hHeld (fun a15 e15 => ?_)
  rw [← e15] at h
  have z15 := pz e15 z14
  replace t53 := pk e15 t53
  clear t52
  clear e15 z14
  refine tk 15 step9_o15 (v) (by rfl) (fun w1 hw => exec_assign rfl t53) hHeld (fun a16 e16 => ?_)
  rw [← e16] at h
  have z16 := pz e16 z15
  clear t53
  clear e16 z15
  exact wpAnyH_done (by kernel_rfl) (NoPanic.normal (h _ _ (hq) rfl)) _
def step7_o0 : Oper := ⟨some 27, .move (.tmp 0), 24, "law.go:50", #[], none⟩
def step7_o1 : Oper := ⟨some 28, .nilCheck (.tmp 27), 0, "law.go:50", #[⟨0, .data⟩], none⟩
def step7_o2 : Oper := ⟨some 29, .fieldAddr 32 (.tmp 28) 1, 0, "law.go:50", #[⟨1, .data⟩], none⟩
def step7_o3 : Oper := ⟨some 30, .load 27 (.tmp 29), 27, "law.go:50", #[⟨2, .data⟩], none⟩
def step7_o4 : Oper := ⟨some 31, .fieldAddr 39 (.tmp 3) 1, 0, "law.go:50", #[], none⟩
def step7_o5 : Oper := ⟨some 32, .load 37 (.tmp 31), 37, "law.go:50", #[⟨4, .data⟩], none⟩
def step7_o6 : Oper := ⟨some 33, .fieldAddr 39 (.tmp 3) 2, 0, "law.go:50", #[], none⟩
def step7_o7 : Oper := ⟨some 34, .load 37 (.tmp 33), 37, "law.go:50", #[⟨6, .data⟩], none⟩
def step7_o8 : Oper := ⟨some 35, .fieldAddr 39 (.tmp 3) 3, 0, "law.go:50", #[], none⟩
def step7_o9 : Oper := ⟨some 36, .load 9 (.tmp 35), 9, "law.go:50", #[⟨8, .data⟩], none⟩
def step7_o10 : Oper := ⟨some 37, .call { callee := Callee.value (Operand.func 30), args := #[.tmp 30, .tmp 32, .tmp 34, .tmp 36], argTypes := #[27, 37, 37, 9] }, 46, "law.go:50", #[⟨3, .data⟩, ⟨5, .data⟩, ⟨7, .data⟩, ⟨9, .data⟩], none⟩
def step7_o11 : Oper := ⟨some 7, .assign (.tmp 37), 46, "law.go:50", #[⟨10, .data⟩, ⟨10, .chain⟩, ⟨0, .phase⟩, ⟨1, .phase⟩, ⟨2, .phase⟩, ⟨3, .phase⟩, ⟨4, .phase⟩, ⟨5, .phase⟩, ⟨6, .phase⟩, ⟨7, .phase⟩, ⟨8, .phase⟩, ⟨9, .phase⟩, ⟨10, .phase⟩], none⟩
def step7_ops : Array Oper := #[step7_o0, step7_o1, step7_o2, step7_o3, step7_o4, step7_o5, step7_o6, step7_o7, step7_o8, step7_o9, step7_o10, step7_o11]
theorem step7 (S : World → Prop) (Po : Value → World → Prop) (x bo : Nat) (tv kv uv sv : Value) (a : Act) (w : World) (Q : Exit → Act → World → Prop) (hsz : a.tmps.size = 127)
    (t0 : a.tmps.getD 0 undef = .pointer (some ⟨x, 0, none⟩))
    (t3 : a.tmps.getD 3 undef = .pointer (some ⟨bo, 0, none⟩))
    (h0 : S w.drew)
    (C : Calls Try.prog 30 #[tv, kv, uv, sv] w.drew fun e w' => ∃ v, e = .returned v ∧ S w' ∧ Po v w')
    (G1 : ∀ W, S W → (Instr.loadAt 27 (.pointer (some ⟨x, 0 + 1, none⟩))).run Try.prog W = .ok (tv) W)
    (G2 : ∀ W, S W → (Instr.loadAt 37 (.pointer (some ⟨bo, 0 + 1, none⟩))).run Try.prog W = .ok (kv) W)
    (G3 : ∀ W, S W → (Instr.loadAt 37 (.pointer (some ⟨bo, 0 + 34, none⟩))).run Try.prog W = .ok (uv) W)
    (G4 : ∀ W, S W → (Instr.loadAt 9 (.pointer (some ⟨bo, 0 + 67, none⟩))).run Try.prog W = .ok (sv) W)
    (h : ∀ (v : Value) (a' : Act) (w' : World), Po v w' → a' = ((((((((((((a).put (some 27) (.pointer (some ⟨x, 0, none⟩))).put (some 28) (.pointer (some ⟨x, 0, none⟩))).put (some 29) (.pointer (some ⟨x, 0 + 1, none⟩))).put (some 30) (tv)).put (some 31) (.pointer (some ⟨bo, 0 + 1, none⟩))).put (some 32) (kv)).put (some 33) (.pointer (some ⟨bo, 0 + 34, none⟩))).put (some 34) (uv)).put (some 35) (.pointer (some ⟨bo, 0 + 67, none⟩))).put (some 36) (sv)).put (some 37) (v)).put (some 7) (v) → Q .normal a' w') :
    (Code.region 7 step7_ops true).wp Try.prog Q a w := by
  refine wp_region_noPanic ?_
  refine wp_region_held_drew (S := fun w' => S w') (by kernel_rfl) (h0) (fun hHeld => ?_)
  refine tk 0 step7_o0 (.pointer (some ⟨x, 0, none⟩)) (by rfl) (fun w1 hw => exec_move rfl t0) hHeld (fun a1 e1 => ?_)
  rw [← e1] at h
  have z1 := pz e1 hsz
  replace t3 := pk e1 t3
  clear t0
  have t27 := pq e1 hsz
  clear e1 hsz
  refine tk 1 step7_o1 (.pointer (some ⟨x, 0, none⟩)) (by rfl) (fun w1 hw => exec_nilCheck rfl t27) hHeld (fun a2 e2 => ?_)
  rw [← e2] at h
  have z2 := pz e2 z1
  replace t3 := pk e2 t3
  clear t27
  have t28 := pq e2 z1
  clear e2 z1
  refine tk 2 step7_o2 (.pointer (some ⟨x, 0 + 1, none⟩)) (by rfl) (fun w1 hw => exec_fieldAt rfl t28 (fg_32_1 _ _ _)) hHeld (fun a3 e3 => ?_)
  rw [← e3] at h
  have z3 := pz e3 z2
  replace t3 := pk e3 t3
  clear t28
  have t29 := pq e3 z2
  clear e3 z2
  refine tk 3 step7_o3 (tv) (by rfl) (fun w1 hw => exec_load rfl t29 (G1 _ hw)) hHeld (fun a4 e4 => ?_)
  rw [← e4] at h
  have z4 := pz e4 z3
  replace t3 := pk e4 t3
  clear t29
  have t30 := pq e4 z3
  clear e4 z3
  refine tk 4 step7_o4 (.pointer (some ⟨bo, 0 + 1, none⟩)) (by rfl) (fun w1 hw => exec_fieldAt rfl t3 (fg_39_1 _ _ _)) hHeld (fun a5 e5 => ?_)
  rw [← e5] at h
  have z5 := pz e5 z4
  replace t3 := pk e5 t3
  replace t30 := pk e5 t30
  have t31 := pq e5 z4
  clear e5 z4
  refine tk 5 step7_o5 (kv) (by rfl) (fun w1 hw => exec_load rfl t31 (G2 _ hw)) hHeld (fun a6 e6 => ?_)
  rw [← e6] at h
  have z6 := pz e6 z5
  replace t3 := pk e6 t3
  replace t30 := pk e6 t30
  clear t31
  have t32 := pq e6 z5
  clear e6 z5
  refine tk 6 step7_o6 (.pointer (some ⟨bo, 0 + 34, none⟩)) (by rfl) (fun w1 hw => exec_fieldAt rfl t3 (fg_39_2 _ _ _)) hHeld (fun a7 e7 => ?_)
  rw [← e7] at h
  have z7 := pz e7 z6
  replace t3 := pk e7 t3
  replace t30 := pk e7 t30
  replace t32 := pk e7 t32
  have t33 := pq e7 z6
  clear e7 z6
  refine tk 7 step7_o7 (uv) (by rfl) (fun w1 hw => exec_load rfl t33 (G3 _ hw)) hHeld (fun a8 e8 => ?_)
  rw [← e8] at h
  have z8 := pz e8 z7
  replace t3 := pk e8 t3
  replace t30 := pk e8 t30
  replace t32 := pk e8 t32
  clear t33
  have t34 := pq e8 z7
  clear e8 z7
  refine tk 8 step7_o8 (.pointer (some ⟨bo, 0 + 67, none⟩)) (by rfl) (fun w1 hw => exec_fieldAt rfl t3 (fg_39_3 _ _ _)) hHeld (fun a9 e9 => ?_)
  rw [← e9] at h
  have z9 := pz e9 z8
  replace t30 := pk e9 t30
  replace t32 := pk e9 t32
  replace t34 := pk e9 t34
  clear t3
  have t35 := pq e9 z8
  clear e9 z8
  refine tk 9 step7_o9 (sv) (by rfl) (fun w1 hw => exec_load rfl t35 (G4 _ hw)) hHeld (fun a10 e10 => ?_)
  rw [← e10] at h
  have z10 := pz e10 z9
  replace t30 := pk e10 t30
  replace t32 := pk e10 t32
  replace t34 := pk e10 t34
  clear t35
  have t36 := pq e10 z9
  clear e10 z9
  refine wpAnyH_ready (rs := [10]) (by kernel_rfl) (by simp) ?_
  refine AllReadyH.cons (o := step7_o10) rfl (fun K hK => ?_) AllReadyH.nil
  rw [if_pos (by rfl)]
  unfold step7_o10 at hK ⊢
  go_simp
  refine (C).mono ?_
  rintro e x11 ⟨v, rfl, hs, hq⟩
  try go_wp2_with fail
  replace h := h v
  refine hK.out _ _ (hs) (fun hHeld => ?_)
  clear hK K
  change wpAnyH _ _ _ _ _ _ _ (a10.put (some 37) (v)) _
  obtain ⟨a11, e11⟩ : ∃ act, act = a10.put (some 37) (v) := ⟨_, rfl⟩
  rw [← e11] at h ⊢
  have z11 := pz e11 z10
  clear t30 t32 t34 t36
  have t37 := pq e11 z10
  clear e11 z10
  refine tk 11 step7_o11 (v) (by rfl) (fun w1 hw => exec_assign rfl t37) hHeld (fun a12 e12 => ?_)
  rw [← e12] at h
  have z12 := pz e12 z11
  clear t37
  clear e12 z11
  exact wpAnyH_done (by kernel_rfl) (NoPanic.normal (h _ _ (hq) rfl)) _
def step10_o0 : Oper := ⟨some 54, .move (.tmp 0), 24, "law.go:53", #[], none⟩
def step10_o1 : Oper := ⟨some 55, .nilCheck (.tmp 54), 0, "law.go:53", #[⟨0, .data⟩], none⟩
def step10_o2 : Oper := ⟨some 56, .fieldAddr 32 (.tmp 55) 1, 0, "law.go:53", #[⟨1, .data⟩], none⟩
def step10_o3 : Oper := ⟨some 57, .load 27 (.tmp 56), 27, "law.go:53", #[⟨2, .data⟩], none⟩
def step10_o4 : Oper := ⟨some 58, .fieldAddr 39 (.tmp 3) 1, 0, "law.go:53", #[], none⟩
def step10_o5 : Oper := ⟨some 59, .load 37 (.tmp 58), 37, "law.go:53", #[⟨4, .data⟩], none⟩
def step10_o6 : Oper := ⟨some 60, .fieldAddr 39 (.tmp 3) 2, 0, "law.go:53", #[], none⟩
def step10_o7 : Oper := ⟨some 61, .load 37 (.tmp 60), 37, "law.go:53", #[⟨6, .data⟩], none⟩
def step10_o8 : Oper := ⟨some 62, .fieldAddr 39 (.tmp 3) 3, 0, "law.go:53", #[], none⟩
def step10_o9 : Oper := ⟨some 63, .load 9 (.tmp 62), 9, "law.go:53", #[⟨8, .data⟩], none⟩
def step10_o10 : Oper := ⟨some 64, .call { callee := Callee.value (Operand.func 31), args := #[.tmp 57, .tmp 59, .tmp 61, .tmp 63], argTypes := #[27, 37, 37, 9] }, 46, "law.go:53", #[⟨3, .data⟩, ⟨5, .data⟩, ⟨7, .data⟩, ⟨9, .data⟩], none⟩
def step10_o11 : Oper := ⟨some 7, .assign (.tmp 64), 46, "law.go:53", #[⟨10, .data⟩, ⟨10, .chain⟩, ⟨0, .phase⟩, ⟨1, .phase⟩, ⟨2, .phase⟩, ⟨3, .phase⟩, ⟨4, .phase⟩, ⟨5, .phase⟩, ⟨6, .phase⟩, ⟨7, .phase⟩, ⟨8, .phase⟩, ⟨9, .phase⟩, ⟨10, .phase⟩], none⟩
def step10_ops : Array Oper := #[step10_o0, step10_o1, step10_o2, step10_o3, step10_o4, step10_o5, step10_o6, step10_o7, step10_o8, step10_o9, step10_o10, step10_o11]
theorem step10 (S : World → Prop) (Po : Value → World → Prop) (x bo : Nat) (tv kv uv sv : Value) (a : Act) (w : World) (Q : Exit → Act → World → Prop) (hsz : a.tmps.size = 127)
    (t0 : a.tmps.getD 0 undef = .pointer (some ⟨x, 0, none⟩))
    (t3 : a.tmps.getD 3 undef = .pointer (some ⟨bo, 0, none⟩))
    (h0 : S w.drew)
    (C : Calls Try.prog 31 #[tv, kv, uv, sv] w.drew fun e w' => ∃ v, e = .returned v ∧ S w' ∧ Po v w')
    (G1 : ∀ W, S W → (Instr.loadAt 27 (.pointer (some ⟨x, 0 + 1, none⟩))).run Try.prog W = .ok (tv) W)
    (G2 : ∀ W, S W → (Instr.loadAt 37 (.pointer (some ⟨bo, 0 + 1, none⟩))).run Try.prog W = .ok (kv) W)
    (G3 : ∀ W, S W → (Instr.loadAt 37 (.pointer (some ⟨bo, 0 + 34, none⟩))).run Try.prog W = .ok (uv) W)
    (G4 : ∀ W, S W → (Instr.loadAt 9 (.pointer (some ⟨bo, 0 + 67, none⟩))).run Try.prog W = .ok (sv) W)
    (h : ∀ (v : Value) (a' : Act) (w' : World), Po v w' → a' = ((((((((((((a).put (some 54) (.pointer (some ⟨x, 0, none⟩))).put (some 55) (.pointer (some ⟨x, 0, none⟩))).put (some 56) (.pointer (some ⟨x, 0 + 1, none⟩))).put (some 57) (tv)).put (some 58) (.pointer (some ⟨bo, 0 + 1, none⟩))).put (some 59) (kv)).put (some 60) (.pointer (some ⟨bo, 0 + 34, none⟩))).put (some 61) (uv)).put (some 62) (.pointer (some ⟨bo, 0 + 67, none⟩))).put (some 63) (sv)).put (some 64) (v)).put (some 7) (v) → Q .normal a' w') :
    (Code.region 10 step10_ops true).wp Try.prog Q a w := by
  refine wp_region_noPanic ?_
  refine wp_region_held_drew (S := fun w' => S w') (by kernel_rfl) (h0) (fun hHeld => ?_)
  refine tk 0 step10_o0 (.pointer (some ⟨x, 0, none⟩)) (by rfl) (fun w1 hw => exec_move rfl t0) hHeld (fun a1 e1 => ?_)
  rw [← e1] at h
  have z1 := pz e1 hsz
  replace t3 := pk e1 t3
  clear t0
  have t54 := pq e1 hsz
  clear e1 hsz
  refine tk 1 step10_o1 (.pointer (some ⟨x, 0, none⟩)) (by rfl) (fun w1 hw => exec_nilCheck rfl t54) hHeld (fun a2 e2 => ?_)
  rw [← e2] at h
  have z2 := pz e2 z1
  replace t3 := pk e2 t3
  clear t54
  have t55 := pq e2 z1
  clear e2 z1
  refine tk 2 step10_o2 (.pointer (some ⟨x, 0 + 1, none⟩)) (by rfl) (fun w1 hw => exec_fieldAt rfl t55 (fg_32_1 _ _ _)) hHeld (fun a3 e3 => ?_)
  rw [← e3] at h
  have z3 := pz e3 z2
  replace t3 := pk e3 t3
  clear t55
  have t56 := pq e3 z2
  clear e3 z2
  refine tk 3 step10_o3 (tv) (by rfl) (fun w1 hw => exec_load rfl t56 (G1 _ hw)) hHeld (fun a4 e4 => ?_)
  rw [← e4] at h
  have z4 := pz e4 z3
  replace t3 := pk e4 t3
  clear t56
  have t57 := pq e4 z3
  clear e4 z3
  refine tk 4 step10_o4 (.pointer (some ⟨bo, 0 + 1, none⟩)) (by rfl) (fun w1 hw => exec_fieldAt rfl t3 (fg_39_1 _ _ _)) hHeld (fun a5 e5 => ?_)
  rw [← e5] at h
  have z5 := pz e5 z4
  replace t3 := pk e5 t3
  replace t57 := pk e5 t57
  have t58 := pq e5 z4
  clear e5 z4
  refine tk 5 step10_o5 (kv) (by rfl) (fun w1 hw => exec_load rfl t58 (G2 _ hw)) hHeld (fun a6 e6 => ?_)
  rw [← e6] at h
  have z6 := pz e6 z5
  replace t3 := pk e6 t3
  replace t57 := pk e6 t57
  clear t58
  have t59 := pq e6 z5
  clear e6 z5
  refine tk 6 step10_o6 (.pointer (some ⟨bo, 0 + 34, none⟩)) (by rfl) (fun w1 hw => exec_fieldAt rfl t3 (fg_39_2 _ _ _)) hHeld (fun a7 e7 => ?_)
  rw [← e7] at h
  have z7 := pz e7 z6
  replace t3 := pk e7 t3
  replace t57 := pk e7 t57
  replace t59 := pk e7 t59
  have t60 := pq e7 z6
  clear e7 z6
  refine tk 7 step10_o7 (uv) (by rfl) (fun w1 hw => exec_load rfl t60 (G3 _ hw)) hHeld (fun a8 e8 => ?_)
  rw [← e8] at h
  have z8 := pz e8 z7
  replace t3 := pk e8 t3
  replace t57 := pk e8 t57
  replace t59 := pk e8 t59
  clear t60
  have t61 := pq e8 z7
  clear e8 z7
  refine tk 8 step10_o8 (.pointer (some ⟨bo, 0 + 67, none⟩)) (by rfl) (fun w1 hw => exec_fieldAt rfl t3 (fg_39_3 _ _ _)) hHeld (fun a9 e9 => ?_)
  rw [← e9] at h
  have z9 := pz e9 z8
  replace t57 := pk e9 t57
  replace t59 := pk e9 t59
  replace t61 := pk e9 t61
  clear t3
  have t62 := pq e9 z8
  clear e9 z8
  refine tk 9 step10_o9 (sv) (by rfl) (fun w1 hw => exec_load rfl t62 (G4 _ hw)) hHeld (fun a10 e10 => ?_)
  rw [← e10] at h
  have z10 := pz e10 z9
  replace t57 := pk e10 t57
  replace t59 := pk e10 t59
  replace t61 := pk e10 t61
  clear t62
  have t63 := pq e10 z9
  clear e10 z9
  refine wpAnyH_ready (rs := [10]) (by kernel_rfl) (by simp) ?_
  refine AllReadyH.cons (o := step10_o10) rfl (fun K hK => ?_) AllReadyH.nil
  rw [if_pos (by rfl)]
  unfold step10_o10 at hK ⊢
  go_simp
  refine (C).mono ?_
  rintro e x11 ⟨v, rfl, hs, hq⟩
  try go_wp2_with fail
  replace h := h v
  refine hK.out _ _ (hs) (fun hHeld => ?_)
  clear hK K
  change wpAnyH _ _ _ _ _ _ _ (a10.put (some 64) (v)) _
  obtain ⟨a11, e11⟩ : ∃ act, act = a10.put (some 64) (v) := ⟨_, rfl⟩
  rw [← e11] at h ⊢
  have z11 := pz e11 z10
  clear t57 t59 t61 t63
  have t64 := pq e11 z10
  clear e11 z10
  refine tk 11 step10_o11 (v) (by rfl) (fun w1 hw => exec_assign rfl t64) hHeld (fun a12 e12 => ?_)
  rw [← e12] at h
  have z12 := pz e12 z11
  clear t64
  clear e12 z11
  exact wpAnyH_done (by kernel_rfl) (NoPanic.normal (h _ _ (hq) rfl)) _
def step12_o0 : Oper := ⟨some 68, .move (.tmp 0), 24, "law.go:55", #[], none⟩
def step12_o1 : Oper := ⟨some 69, .nilCheck (.tmp 68), 0, "law.go:55", #[⟨0, .data⟩], none⟩
def step12_o2 : Oper := ⟨some 70, .fieldAddr 32 (.tmp 69) 0, 0, "law.go:55", #[⟨1, .data⟩], none⟩
def step12_o3 : Oper := ⟨some 71, .load 25 (.tmp 70), 25, "law.go:55", #[⟨2, .data⟩], none⟩
def step12_o4 : Oper := ⟨some 72, .fieldAddr 39 (.tmp 3) 1, 0, "law.go:55", #[], none⟩
def step12_o5 : Oper := ⟨some 73, .load 37 (.tmp 72), 37, "law.go:55", #[⟨4, .data⟩], none⟩
def step12_o6 : Oper := ⟨some 74, .call { callee := Callee.value (Operand.func 20), args := #[.tmp 71, .tmp 73], argTypes := #[25, 37] }, 47, "law.go:55", #[⟨3, .data⟩, ⟨5, .data⟩], none⟩
def step12_o7 : Oper := ⟨some 67, .move (.tmp 74), 47, "law.go:55", #[⟨6, .data⟩], none⟩
def step12_o8 : Oper := ⟨some 75, .extract (.tmp 67) 0, 45, "law.go:55", #[⟨7, .data⟩], none⟩
def step12_o9 : Oper := ⟨some 76, .extract (.tmp 67) 1, 46, "law.go:55", #[⟨7, .data⟩, { on := 10, ground := Ground.gcOnly Departure.lateStores }], none⟩
def step12_o10 : Oper := ⟨some 5, .assign (.tmp 75), 45, "law.go:55", #[⟨8, .data⟩, ⟨6, .chain⟩, ⟨0, .phase⟩, ⟨1, .phase⟩, ⟨2, .phase⟩, ⟨3, .phase⟩, ⟨4, .phase⟩, ⟨5, .phase⟩, ⟨6, .phase⟩, ⟨7, .phase⟩, ⟨8, .phase⟩, { on := 9, ground := Ground.textOnly Departure.lateStores }], none⟩
def step12_o11 : Oper := ⟨some 6, .assign (.tmp 76), 46, "law.go:55", #[⟨9, .data⟩, ⟨10, .chain⟩, ⟨0, .phase⟩, ⟨1, .phase⟩, ⟨2, .phase⟩, ⟨3, .phase⟩, ⟨4, .phase⟩, ⟨5, .phase⟩, ⟨6, .phase⟩, ⟨7, .phase⟩, ⟨8, .phase⟩, ⟨9, .phase⟩, ⟨10, .phase⟩], none⟩
def step12_ops : Array Oper := #[step12_o0, step12_o1, step12_o2, step12_o3, step12_o4, step12_o5, step12_o6, step12_o7, step12_o8, step12_o9, step12_o10, step12_o11]
theorem step12 (S : World → Prop) (Po : Value → Value → World → Prop) (x bo : Nat) (tv kv : Value) (a : Act) (w : World) (Q : Exit → Act → World → Prop) (hsz : a.tmps.size = 127)
    (t0 : a.tmps.getD 0 undef = .pointer (some ⟨x, 0, none⟩))
    (t3 : a.tmps.getD 3 undef = .pointer (some ⟨bo, 0, none⟩))
    (h0 : S w.drew)
    (C : Calls Try.prog 20 #[tv, kv] w.drew fun e w' => ∃ t v, e = .returned (.tuple #[t, v]) ∧ S w' ∧ Po t v w')
    (G1 : ∀ W, S W → (Instr.loadAt 25 (.pointer (some ⟨x, 0 + 0, none⟩))).run Try.prog W = .ok (tv) W)
    (G2 : ∀ W, S W → (Instr.loadAt 37 (.pointer (some ⟨bo, 0 + 1, none⟩))).run Try.prog W = .ok (kv) W)
    (h : ∀ (t v : Value) (a' : Act) (w' : World), Po t v w' → a' = ((((((((((((a).put (some 68) (.pointer (some ⟨x, 0, none⟩))).put (some 69) (.pointer (some ⟨x, 0, none⟩))).put (some 70) (.pointer (some ⟨x, 0 + 0, none⟩))).put (some 71) (tv)).put (some 72) (.pointer (some ⟨bo, 0 + 1, none⟩))).put (some 73) (kv)).put (some 74) (.tuple #[t, v])).put (some 67) (.tuple #[t, v])).put (some 75) (t)).put (some 76) (v)).put (some 5) (t)).put (some 6) (v) → Q .normal a' w') :
    (Code.region 12 step12_ops true).wp Try.prog Q a w := by
  refine wp_region_noPanic ?_
  refine wp_region_held_drew (S := fun w' => S w') (by kernel_rfl) (h0) (fun hHeld => ?_)
  refine tk 0 step12_o0 (.pointer (some ⟨x, 0, none⟩)) (by rfl) (fun w1 hw => exec_move rfl t0) hHeld (fun a1 e1 => ?_)
  rw [← e1] at h
  have z1 := pz e1 hsz
  replace t3 := pk e1 t3
  clear t0
  have t68 := pq e1 hsz
  clear e1 hsz
  refine tk 1 step12_o1 (.pointer (some ⟨x, 0, none⟩)) (by rfl) (fun w1 hw => exec_nilCheck rfl t68) hHeld (fun a2 e2 => ?_)
  rw [← e2] at h
  have z2 := pz e2 z1
  replace t3 := pk e2 t3
  clear t68
  have t69 := pq e2 z1
  clear e2 z1
  refine tk 2 step12_o2 (.pointer (some ⟨x, 0 + 0, none⟩)) (by rfl) (fun w1 hw => exec_fieldAt rfl t69 (fg_32_0 _ _ _)) hHeld (fun a3 e3 => ?_)
  rw [← e3] at h
  have z3 := pz e3 z2
  replace t3 := pk e3 t3
  clear t69
  have t70 := pq e3 z2
  clear e3 z2
  refine tk 3 step12_o3 (tv) (by rfl) (fun w1 hw => exec_load rfl t70 (G1 _ hw)) hHeld (fun a4 e4 => ?_)
  rw [← e4] at h
  have z4 := pz e4 z3
  replace t3 := pk e4 t3
  clear t70
  have t71 := pq e4 z3
  clear e4 z3
  refine tk 4 step12_o4 (.pointer (some ⟨bo, 0 + 1, none⟩)) (by rfl) (fun w1 hw => exec_fieldAt rfl t3 (fg_39_1 _ _ _)) hHeld (fun a5 e5 => ?_)
  rw [← e5] at h
  have z5 := pz e5 z4
  replace t71 := pk e5 t71
  clear t3
  have t72 := pq e5 z4
  clear e5 z4
  refine tk 5 step12_o5 (kv) (by rfl) (fun w1 hw => exec_load rfl t72 (G2 _ hw)) hHeld (fun a6 e6 => ?_)
  rw [← e6] at h
  have z6 := pz e6 z5
  replace t71 := pk e6 t71
  clear t72
  have t73 := pq e6 z5
  clear e6 z5
  refine wpAnyH_ready (rs := [6]) (by kernel_rfl) (by simp) ?_
  refine AllReadyH.cons (o := step12_o6) rfl (fun K hK => ?_) AllReadyH.nil
  rw [if_pos (by rfl)]
  unfold step12_o6 at hK ⊢
  go_simp
  refine (C).mono ?_
  rintro e x7 ⟨t, v, rfl, hs, hq⟩
  try go_wp2_with fail
  replace h := h t v
  refine hK.out _ _ (hs) (fun hHeld => ?_)
  clear hK K
  change wpAnyH _ _ _ _ _ _ _ (a6.put (some 74) (.tuple #[t, v])) _
  obtain ⟨a7, e7⟩ : ∃ act, act = a6.put (some 74) (.tuple #[t, v]) := ⟨_, rfl⟩
  rw [← e7] at h ⊢
  have z7 := pz e7 z6
  clear t71 t73
  have t74 := pq e7 z6
  clear e7 z6
  refine tk 7 step12_o7 (.tuple #[t, v]) (by rfl) (fun w1 hw => exec_move rfl t74) hHeld (fun a8 e8 => ?_)
  rw [← e8] at h
  have z8 := pz e8 z7
  clear t74
  have t67 := pq e8 z7
  clear e8 z7
  refine tk 8 step12_o8 (t) (by rfl) (fun w1 hw => exec_extract rfl t67 rfl) hHeld (fun a9 e9 => ?_)
  rw [← e9] at h
  have z9 := pz e9 z8
  replace t67 := pk e9 t67
  have t75 := pq e9 z8
  clear e9 z8
  refine tk 9 step12_o9 (v) (by rfl) (fun w1 hw => exec_extract rfl t67 rfl) hHeld (fun a10 e10 => ?_)
  rw [← e10] at h
  have z10 := pz e10 z9
  replace t75 := pk e10 t75
  clear t67
  have t76 := pq e10 z9
  clear e10 z9
  refine tk 10 step12_o10 (t) (by rfl) (fun w1 hw => exec_assign rfl t75) hHeld (fun a11 e11 => ?_)
  rw [← e11] at h
  have z11 := pz e11 z10
  replace t76 := pk e11 t76
  clear t75
  clear e11 z10
  refine tk 11 step12_o11 (v) (by rfl) (fun w1 hw => exec_assign rfl t76) hHeld (fun a12 e12 => ?_)
  rw [← e12] at h
  have z12 := pz e12 z11
  clear t76
  clear e12 z11
  exact wpAnyH_done (by kernel_rfl) (NoPanic.normal (h _ _ (hq) rfl)) _
def step13_o0 : Oper := ⟨some 77, .move (.tmp 0), 24, "law.go:56", #[], none⟩
def step13_o1 : Oper := ⟨some 78, .nilCheck (.tmp 77), 0, "law.go:56", #[⟨0, .data⟩], none⟩
def step13_o2 : Oper := ⟨some 79, .fieldAddr 32 (.tmp 78) 1, 0, "law.go:56", #[⟨1, .data⟩], none⟩
def step13_o3 : Oper := ⟨some 80, .load 27 (.tmp 79), 27, "law.go:56", #[⟨2, .data⟩], none⟩
def step13_o4 : Oper := ⟨some 81, .fieldAddr 39 (.tmp 3) 1, 0, "law.go:56", #[], none⟩
def step13_o5 : Oper := ⟨some 82, .load 37 (.tmp 81), 37, "law.go:56", #[⟨4, .data⟩], none⟩
def step13_o6 : Oper := ⟨some 83, .call { callee := Callee.value (Operand.func 32), args := #[.tmp 80, .tmp 82], argTypes := #[27, 37] }, 46, "law.go:56", #[⟨3, .data⟩, ⟨5, .data⟩], none⟩
def step13_o7 : Oper := ⟨some 7, .assign (.tmp 83), 46, "law.go:56", #[⟨6, .data⟩, ⟨6, .chain⟩, ⟨0, .phase⟩, ⟨1, .phase⟩, ⟨2, .phase⟩, ⟨3, .phase⟩, ⟨4, .phase⟩, ⟨5, .phase⟩, ⟨6, .phase⟩], none⟩
def step13_ops : Array Oper := #[step13_o0, step13_o1, step13_o2, step13_o3, step13_o4, step13_o5, step13_o6, step13_o7]
theorem step13 (S : World → Prop) (Po : Value → World → Prop) (x bo : Nat) (tv kv : Value) (a : Act) (w : World) (Q : Exit → Act → World → Prop) (hsz : a.tmps.size = 127)
    (t0 : a.tmps.getD 0 undef = .pointer (some ⟨x, 0, none⟩))
    (t3 : a.tmps.getD 3 undef = .pointer (some ⟨bo, 0, none⟩))
    (h0 : S w.drew)
    (C : Calls Try.prog 32 #[tv, kv] w.drew fun e w' => ∃ v, e = .returned v ∧ S w' ∧ Po v w')
    (G1 : ∀ W, S W → (Instr.loadAt 27 (.pointer (some ⟨x, 0 + 1, none⟩))).run Try.prog W = .ok (tv) W)
    (G2 : ∀ W, S W → (Instr.loadAt 37 (.pointer (some ⟨bo, 0 + 1, none⟩))).run Try.prog W = .ok (kv) W)
    (h : ∀ (v : Value) (a' : Act) (w' : World), Po v w' → a' = ((((((((a).put (some 77) (.pointer (some ⟨x, 0, none⟩))).put (some 78) (.pointer (some ⟨x, 0, none⟩))).put (some 79) (.pointer (some ⟨x, 0 + 1, none⟩))).put (some 80) (tv)).put (some 81) (.pointer (some ⟨bo, 0 + 1, none⟩))).put (some 82) (kv)).put (some 83) (v)).put (some 7) (v) → Q .normal a' w') :
    (Code.region 13 step13_ops true).wp Try.prog Q a w := by
  refine wp_region_noPanic ?_
  refine wp_region_held_drew (S := fun w' => S w') (by kernel_rfl) (h0) (fun hHeld => ?_)
  refine tk 0 step13_o0 (.pointer (some ⟨x, 0, none⟩)) (by rfl) (fun w1 hw => exec_move rfl t0) hHeld (fun a1 e1 => ?_)
  rw [← e1] at h
  have z1 := pz e1 hsz
  replace t3 := pk e1 t3
  clear t0
  have t77 := pq e1 hsz
  clear e1 hsz
  refine tk 1 step13_o1 (.pointer (some ⟨x, 0, none⟩)) (by rfl) (fun w1 hw => exec_nilCheck rfl t77) hHeld (fun a2 e2 => ?_)
  rw [← e2] at h
  have z2 := pz e2 z1
  replace t3 := pk e2 t3
  clear t77
  have t78 := pq e2 z1
  clear e2 z1
  refine tk 2 step13_o2 (.pointer (some ⟨x, 0 + 1, none⟩)) (by rfl) (fun w1 hw => exec_fieldAt rfl t78 (fg_32_1 _ _ _)) hHeld (fun a3 e3 => ?_)
  rw [← e3] at h
  have z3 := pz e3 z2
  replace t3 := pk e3 t3
  clear t78
  have t79 := pq e3 z2
  clear e3 z2
  refine tk 3 step13_o3 (tv) (by rfl) (fun w1 hw => exec_load rfl t79 (G1 _ hw)) hHeld (fun a4 e4 => ?_)
  rw [← e4] at h
  have z4 := pz e4 z3
  replace t3 := pk e4 t3
  clear t79
  have t80 := pq e4 z3
  clear e4 z3
  refine tk 4 step13_o4 (.pointer (some ⟨bo, 0 + 1, none⟩)) (by rfl) (fun w1 hw => exec_fieldAt rfl t3 (fg_39_1 _ _ _)) hHeld (fun a5 e5 => ?_)
  rw [← e5] at h
  have z5 := pz e5 z4
  replace t80 := pk e5 t80
  clear t3
  have t81 := pq e5 z4
  clear e5 z4
  refine tk 5 step13_o5 (kv) (by rfl) (fun w1 hw => exec_load rfl t81 (G2 _ hw)) hHeld (fun a6 e6 => ?_)
  rw [← e6] at h
  have z6 := pz e6 z5
  replace t80 := pk e6 t80
  clear t81
  have t82 := pq e6 z5
  clear e6 z5
  refine wpAnyH_ready (rs := [6]) (by kernel_rfl) (by simp) ?_
  refine AllReadyH.cons (o := step13_o6) rfl (fun K hK => ?_) AllReadyH.nil
  rw [if_pos (by rfl)]
  unfold step13_o6 at hK ⊢
  go_simp
  refine (C).mono ?_
  rintro e x7 ⟨v, rfl, hs, hq⟩
  try go_wp2_with fail
  replace h := h v
  refine hK.out _ _ (hs) (fun hHeld => ?_)
  clear hK K
  change wpAnyH _ _ _ _ _ _ _ (a6.put (some 83) (v)) _
  obtain ⟨a7, e7⟩ : ∃ act, act = a6.put (some 83) (v) := ⟨_, rfl⟩
  rw [← e7] at h ⊢
  have z7 := pz e7 z6
  clear t80 t82
  have t83 := pq e7 z6
  clear e7 z6
  refine tk 7 step13_o7 (v) (by rfl) (fun w1 hw => exec_assign rfl t83) hHeld (fun a8 e8 => ?_)
  rw [← e8] at h
  have z8 := pz e8 z7
  clear t83
  clear e8 z7
  exact wpAnyH_done (by kernel_rfl) (NoPanic.normal (h _ _ (hq) rfl)) _
def undo5_o0 : Oper := ⟨some 28, .move (.tmp 0), 24, "law.go:79", #[], none⟩
def undo5_o1 : Oper := ⟨some 29, .nilCheck (.tmp 28), 0, "law.go:79", #[⟨0, .data⟩], none⟩
def undo5_o2 : Oper := ⟨some 30, .fieldAddr 32 (.tmp 29) 0, 0, "law.go:79", #[⟨1, .data⟩], none⟩
def undo5_o3 : Oper := ⟨some 31, .load 25 (.tmp 30), 25, "law.go:79", #[⟨2, .data⟩], none⟩
def undo5_o4 : Oper := ⟨some 32, .move (.tmp 0), 24, "law.go:79", #[], none⟩
def undo5_o5 : Oper := ⟨some 33, .nilCheck (.tmp 32), 0, "law.go:79", #[⟨4, .data⟩], none⟩
def undo5_o6 : Oper := ⟨some 34, .fieldAddr 32 (.tmp 33) 2, 0, "law.go:79", #[⟨5, .data⟩], none⟩
def undo5_o7 : Oper := ⟨some 35, .load 29 (.tmp 34), 29, "law.go:79", #[⟨6, .data⟩], none⟩
def undo5_o8 : Oper := ⟨some 36, .move (.tmp 1), 3, "law.go:79", #[], none⟩
def undo5_o9 : Oper := ⟨some 37, .indexAddr 29 (.tmp 35) (.tmp 36), 0, "law.go:79", #[⟨7, .data⟩, ⟨8, .data⟩], none⟩
def undo5_o10 : Oper := ⟨some 38, .load 45 (.tmp 37), 45, "law.go:79", #[⟨9, .data⟩], none⟩
def undo5_o11 : Oper := ⟨some 39, .call { callee := Callee.value (Operand.func 18), args := #[.tmp 31, .tmp 38], argTypes := #[25, 45] }, 46, "law.go:79", #[⟨3, .data⟩, ⟨10, .data⟩], none⟩
def undo5_o12 : Oper := ⟨some 5, .assign (.tmp 39), 46, "law.go:79", #[⟨11, .data⟩, ⟨11, .chain⟩, ⟨0, .phase⟩, ⟨1, .phase⟩, ⟨2, .phase⟩, ⟨3, .phase⟩, ⟨4, .phase⟩, ⟨5, .phase⟩, ⟨6, .phase⟩, ⟨7, .phase⟩, ⟨8, .phase⟩, ⟨9, .phase⟩, ⟨10, .phase⟩, ⟨11, .phase⟩], none⟩
def undo5_ops : Array Oper := #[undo5_o0, undo5_o1, undo5_o2, undo5_o3, undo5_o4, undo5_o5, undo5_o6, undo5_o7, undo5_o8, undo5_o9, undo5_o10, undo5_o11, undo5_o12]
theorem undo5 (S : World → Prop) (Po : Value → World → Prop) (x b p : Nat) (tv lv iv ev : Value) (a : Act) (w : World) (Q : Exit → Act → World → Prop) (hsz : a.tmps.size = 63)
    (t0 : a.tmps.getD 0 undef = .pointer (some ⟨x, 0, none⟩))
    (t1 : a.tmps.getD 1 undef = iv)
    (h0 : S w.drew)
    (C : Calls Try.prog 18 #[tv, ev] w.drew fun e w' => ∃ v, e = .returned v ∧ S w' ∧ Po v w')
    (G1 : ∀ W, S W → (Instr.loadAt 25 (.pointer (some ⟨x, 0 + 0, none⟩))).run Try.prog W = .ok (tv) W)
    (G2 : ∀ W, S W → (Instr.loadAt 29 (.pointer (some ⟨x, 0 + 2, none⟩))).run Try.prog W = .ok (lv) W)
    (G3 : ∀ W, (Instr.indexAt 29 (lv) (iv)).run Try.prog W = .ok (.pointer (some ⟨b, p, none⟩)) W)
    (G4 : ∀ W, S W → (Instr.loadAt 45 (.pointer (some ⟨b, p, none⟩))).run Try.prog W = .ok (ev) W)
    (h : ∀ (v : Value) (a' : Act) (w' : World), Po v w' → a' = (((((((((((((a).put (some 28) (.pointer (some ⟨x, 0, none⟩))).put (some 29) (.pointer (some ⟨x, 0, none⟩))).put (some 30) (.pointer (some ⟨x, 0 + 0, none⟩))).put (some 31) (tv)).put (some 32) (.pointer (some ⟨x, 0, none⟩))).put (some 33) (.pointer (some ⟨x, 0, none⟩))).put (some 34) (.pointer (some ⟨x, 0 + 2, none⟩))).put (some 35) (lv)).put (some 36) (iv)).put (some 37) (.pointer (some ⟨b, p, none⟩))).put (some 38) (ev)).put (some 39) (v)).put (some 5) (v) → Q .normal a' w') :
    (Code.region 5 undo5_ops true).wp Try.prog Q a w := by
  refine wp_region_noPanic ?_
  refine wp_region_held_drew (S := fun w' => S w') (by kernel_rfl) (h0) (fun hHeld => ?_)
  refine tk 0 undo5_o0 (.pointer (some ⟨x, 0, none⟩)) (by rfl) (fun w1 hw => exec_move rfl t0) hHeld (fun a1 e1 => ?_)
  rw [← e1] at h
  have z1 := pz e1 hsz
  replace t0 := pk e1 t0
  replace t1 := pk e1 t1
  have t28 := pq e1 hsz
  clear e1 hsz
  refine tk 1 undo5_o1 (.pointer (some ⟨x, 0, none⟩)) (by rfl) (fun w1 hw => exec_nilCheck rfl t28) hHeld (fun a2 e2 => ?_)
  rw [← e2] at h
  have z2 := pz e2 z1
  replace t0 := pk e2 t0
  replace t1 := pk e2 t1
  clear t28
  have t29 := pq e2 z1
  clear e2 z1
  refine tk 2 undo5_o2 (.pointer (some ⟨x, 0 + 0, none⟩)) (by rfl) (fun w1 hw => exec_fieldAt rfl t29 (fg_32_0 _ _ _)) hHeld (fun a3 e3 => ?_)
  rw [← e3] at h
  have z3 := pz e3 z2
  replace t0 := pk e3 t0
  replace t1 := pk e3 t1
  clear t29
  have t30 := pq e3 z2
  clear e3 z2
  refine tk 3 undo5_o3 (tv) (by rfl) (fun w1 hw => exec_load rfl t30 (G1 _ hw)) hHeld (fun a4 e4 => ?_)
  rw [← e4] at h
  have z4 := pz e4 z3
  replace t0 := pk e4 t0
  replace t1 := pk e4 t1
  clear t30
  have t31 := pq e4 z3
  clear e4 z3
  refine tk 4 undo5_o4 (.pointer (some ⟨x, 0, none⟩)) (by rfl) (fun w1 hw => exec_move rfl t0) hHeld (fun a5 e5 => ?_)
  rw [← e5] at h
  have z5 := pz e5 z4
  replace t1 := pk e5 t1
  replace t31 := pk e5 t31
  clear t0
  have t32 := pq e5 z4
  clear e5 z4
  refine tk 5 undo5_o5 (.pointer (some ⟨x, 0, none⟩)) (by rfl) (fun w1 hw => exec_nilCheck rfl t32) hHeld (fun a6 e6 => ?_)
  rw [← e6] at h
  have z6 := pz e6 z5
  replace t1 := pk e6 t1
  replace t31 := pk e6 t31
  clear t32
  have t33 := pq e6 z5
  clear e6 z5
  refine tk 6 undo5_o6 (.pointer (some ⟨x, 0 + 2, none⟩)) (by rfl) (fun w1 hw => exec_fieldAt rfl t33 (fg_32_2 _ _ _)) hHeld (fun a7 e7 => ?_)
  rw [← e7] at h
  have z7 := pz e7 z6
  replace t1 := pk e7 t1
  replace t31 := pk e7 t31
  clear t33
  have t34 := pq e7 z6
  clear e7 z6
  refine tk 7 undo5_o7 (lv) (by rfl) (fun w1 hw => exec_load rfl t34 (G2 _ hw)) hHeld (fun a8 e8 => ?_)
  rw [← e8] at h
  have z8 := pz e8 z7
  replace t1 := pk e8 t1
  replace t31 := pk e8 t31
  clear t34
  have t35 := pq e8 z7
  clear e8 z7
  refine tk 8 undo5_o8 (iv) (by rfl) (fun w1 hw => exec_move rfl t1) hHeld (fun a9 e9 => ?_)
  rw [← e9] at h
  have z9 := pz e9 z8
  replace t31 := pk e9 t31
  replace t35 := pk e9 t35
  clear t1
  have t36 := pq e9 z8
  clear e9 z8
  refine tk 9 undo5_o9 (.pointer (some ⟨b, p, none⟩)) (by rfl) (fun w1 hw => exec_indexAt rfl t35 t36 (G3 _)) hHeld (fun a10 e10 => ?_)
  rw [← e10] at h
  have z10 := pz e10 z9
  replace t31 := pk e10 t31
  clear t35 t36
  have t37 := pq e10 z9
  clear e10 z9
  refine tk 10 undo5_o10 (ev) (by rfl) (fun w1 hw => exec_load rfl t37 (G4 _ hw)) hHeld (fun a11 e11 => ?_)
  rw [← e11] at h
  have z11 := pz e11 z10
  replace t31 := pk e11 t31
  clear t37
  have t38 := pq e11 z10
  clear e11 z10
  refine wpAnyH_ready (rs := [11]) (by kernel_rfl) (by simp) ?_
  refine AllReadyH.cons (o := undo5_o11) rfl (fun K hK => ?_) AllReadyH.nil
  rw [if_pos (by rfl)]
  unfold undo5_o11 at hK ⊢
  go_simp
  refine (C).mono ?_
  rintro e x12 ⟨v, rfl, hs, hq⟩
  try go_wp2_with fail
  replace h := h v
  refine hK.out _ _ (hs) (fun hHeld => ?_)
  clear hK K
  change wpAnyH _ _ _ _ _ _ _ (a11.put (some 39) (v)) _
  obtain ⟨a12, e12⟩ : ∃ act, act = a11.put (some 39) (v) := ⟨_, rfl⟩
  rw [← e12] at h ⊢
  have z12 := pz e12 z11
  clear t31 t38
  have t39 := pq e12 z11
  clear e12 z11
  refine tk 12 undo5_o12 (v) (by rfl) (fun w1 hw => exec_assign rfl t39) hHeld (fun a13 e13 => ?_)
  rw [← e13] at h
  have z13 := pz e13 z12
  clear t39
  clear e13 z12
  exact wpAnyH_done (by kernel_rfl) (NoPanic.normal (h _ _ (hq) rfl)) _
def undo6_o0 : Oper := ⟨some 40, .move (.tmp 0), 24, "law.go:80", #[], none⟩
def undo6_o1 : Oper := ⟨some 41, .nilCheck (.tmp 40), 0, "law.go:80", #[⟨0, .data⟩], none⟩
def undo6_o2 : Oper := ⟨some 42, .fieldAddr 32 (.tmp 41) 1, 0, "law.go:80", #[⟨1, .data⟩], none⟩
def undo6_o3 : Oper := ⟨some 43, .load 27 (.tmp 42), 27, "law.go:80", #[⟨2, .data⟩], none⟩
def undo6_o4 : Oper := ⟨some 44, .move (.tmp 0), 24, "law.go:80", #[], none⟩
def undo6_o5 : Oper := ⟨some 45, .nilCheck (.tmp 44), 0, "law.go:80", #[⟨4, .data⟩], none⟩
def undo6_o6 : Oper := ⟨some 46, .fieldAddr 32 (.tmp 45) 3, 0, "law.go:80", #[⟨5, .data⟩], none⟩
def undo6_o7 : Oper := ⟨some 47, .load 30 (.tmp 46), 30, "law.go:80", #[⟨6, .data⟩], none⟩
def undo6_o8 : Oper := ⟨some 48, .move (.tmp 1), 3, "law.go:80", #[], none⟩
def undo6_o9 : Oper := ⟨some 49, .indexAddr 30 (.tmp 47) (.tmp 48), 0, "law.go:80", #[⟨7, .data⟩, ⟨8, .data⟩], none⟩
def undo6_o10 : Oper := ⟨some 50, .load 3 (.tmp 49), 3, "law.go:80", #[⟨9, .data⟩], none⟩
def undo6_o11 : Oper := ⟨some 51, .call { callee := Callee.value (Operand.func 72), args := #[.tmp 43, .tmp 50], argTypes := #[27, 3] }, 46, "law.go:80", #[⟨3, .data⟩, ⟨10, .data⟩], none⟩
def undo6_o12 : Oper := ⟨some 6, .assign (.tmp 51), 46, "law.go:80", #[⟨11, .data⟩, ⟨11, .chain⟩, ⟨0, .phase⟩, ⟨1, .phase⟩, ⟨2, .phase⟩, ⟨3, .phase⟩, ⟨4, .phase⟩, ⟨5, .phase⟩, ⟨6, .phase⟩, ⟨7, .phase⟩, ⟨8, .phase⟩, ⟨9, .phase⟩, ⟨10, .phase⟩, ⟨11, .phase⟩], none⟩
def undo6_ops : Array Oper := #[undo6_o0, undo6_o1, undo6_o2, undo6_o3, undo6_o4, undo6_o5, undo6_o6, undo6_o7, undo6_o8, undo6_o9, undo6_o10, undo6_o11, undo6_o12]
theorem undo6 (S : World → Prop) (Po : Value → World → Prop) (x b p : Nat) (tv lv iv ev : Value) (a : Act) (w : World) (Q : Exit → Act → World → Prop) (hsz : a.tmps.size = 63)
    (t0 : a.tmps.getD 0 undef = .pointer (some ⟨x, 0, none⟩))
    (t1 : a.tmps.getD 1 undef = iv)
    (h0 : S w.drew)
    (C : Calls Try.prog 72 #[tv, ev] w.drew fun e w' => ∃ v, e = .returned v ∧ S w' ∧ Po v w')
    (G1 : ∀ W, S W → (Instr.loadAt 27 (.pointer (some ⟨x, 0 + 1, none⟩))).run Try.prog W = .ok (tv) W)
    (G2 : ∀ W, S W → (Instr.loadAt 30 (.pointer (some ⟨x, 0 + 3, none⟩))).run Try.prog W = .ok (lv) W)
    (G3 : ∀ W, (Instr.indexAt 30 (lv) (iv)).run Try.prog W = .ok (.pointer (some ⟨b, p, none⟩)) W)
    (G4 : ∀ W, S W → (Instr.loadAt 3 (.pointer (some ⟨b, p, none⟩))).run Try.prog W = .ok (ev) W)
    (h : ∀ (v : Value) (a' : Act) (w' : World), Po v w' → a' = (((((((((((((a).put (some 40) (.pointer (some ⟨x, 0, none⟩))).put (some 41) (.pointer (some ⟨x, 0, none⟩))).put (some 42) (.pointer (some ⟨x, 0 + 1, none⟩))).put (some 43) (tv)).put (some 44) (.pointer (some ⟨x, 0, none⟩))).put (some 45) (.pointer (some ⟨x, 0, none⟩))).put (some 46) (.pointer (some ⟨x, 0 + 3, none⟩))).put (some 47) (lv)).put (some 48) (iv)).put (some 49) (.pointer (some ⟨b, p, none⟩))).put (some 50) (ev)).put (some 51) (v)).put (some 6) (v) → Q .normal a' w') :
    (Code.region 6 undo6_ops true).wp Try.prog Q a w := by
  refine wp_region_noPanic ?_
  refine wp_region_held_drew (S := fun w' => S w') (by kernel_rfl) (h0) (fun hHeld => ?_)
  refine tk 0 undo6_o0 (.pointer (some ⟨x, 0, none⟩)) (by rfl) (fun w1 hw => exec_move rfl t0) hHeld (fun a1 e1 => ?_)
  rw [← e1] at h
  have z1 := pz e1 hsz
  replace t0 := pk e1 t0
  replace t1 := pk e1 t1
  have t40 := pq e1 hsz
  clear e1 hsz
  refine tk 1 undo6_o1 (.pointer (some ⟨x, 0, none⟩)) (by rfl) (fun w1 hw => exec_nilCheck rfl t40) hHeld (fun a2 e2 => ?_)
  rw [← e2] at h
  have z2 := pz e2 z1
  replace t0 := pk e2 t0
  replace t1 := pk e2 t1
  clear t40
  have t41 := pq e2 z1
  clear e2 z1
  refine tk 2 undo6_o2 (.pointer (some ⟨x, 0 + 1, none⟩)) (by rfl) (fun w1 hw => exec_fieldAt rfl t41 (fg_32_1 _ _ _)) hHeld (fun a3 e3 => ?_)
  rw [← e3] at h
  have z3 := pz e3 z2
  replace t0 := pk e3 t0
  replace t1 := pk e3 t1
  clear t41
  have t42 := pq e3 z2
  clear e3 z2
  refine tk 3 undo6_o3 (tv) (by rfl) (fun w1 hw => exec_load rfl t42 (G1 _ hw)) hHeld (fun a4 e4 => ?_)
  rw [← e4] at h
  have z4 := pz e4 z3
  replace t0 := pk e4 t0
  replace t1 := pk e4 t1
  clear t42
  have t43 := pq e4 z3
  clear e4 z3
  refine tk 4 undo6_o4 (.pointer (some ⟨x, 0, none⟩)) (by rfl) (fun w1 hw => exec_move rfl t0) hHeld (fun a5 e5 => ?_)
  rw [← e5] at h
  have z5 := pz e5 z4
  replace t1 := pk e5 t1
  replace t43 := pk e5 t43
  clear t0
  have t44 := pq e5 z4
  clear e5 z4
  refine tk 5 undo6_o5 (.pointer (some ⟨x, 0, none⟩)) (by rfl) (fun w1 hw => exec_nilCheck rfl t44) hHeld (fun a6 e6 => ?_)
  rw [← e6] at h
  have z6 := pz e6 z5
  replace t1 := pk e6 t1
  replace t43 := pk e6 t43
  clear t44
  have t45 := pq e6 z5
  clear e6 z5
  refine tk 6 undo6_o6 (.pointer (some ⟨x, 0 + 3, none⟩)) (by rfl) (fun w1 hw => exec_fieldAt rfl t45 (fg_32_3 _ _ _)) hHeld (fun a7 e7 => ?_)
  rw [← e7] at h
  have z7 := pz e7 z6
  replace t1 := pk e7 t1
  replace t43 := pk e7 t43
  clear t45
  have t46 := pq e7 z6
  clear e7 z6
  refine tk 7 undo6_o7 (lv) (by rfl) (fun w1 hw => exec_load rfl t46 (G2 _ hw)) hHeld (fun a8 e8 => ?_)
  rw [← e8] at h
  have z8 := pz e8 z7
  replace t1 := pk e8 t1
  replace t43 := pk e8 t43
  clear t46
  have t47 := pq e8 z7
  clear e8 z7
  refine tk 8 undo6_o8 (iv) (by rfl) (fun w1 hw => exec_move rfl t1) hHeld (fun a9 e9 => ?_)
  rw [← e9] at h
  have z9 := pz e9 z8
  replace t43 := pk e9 t43
  replace t47 := pk e9 t47
  clear t1
  have t48 := pq e9 z8
  clear e9 z8
  refine tk 9 undo6_o9 (.pointer (some ⟨b, p, none⟩)) (by rfl) (fun w1 hw => exec_indexAt rfl t47 t48 (G3 _)) hHeld (fun a10 e10 => ?_)
  rw [← e10] at h
  have z10 := pz e10 z9
  replace t43 := pk e10 t43
  clear t47 t48
  have t49 := pq e10 z9
  clear e10 z9
  refine tk 10 undo6_o10 (ev) (by rfl) (fun w1 hw => exec_load rfl t49 (G4 _ hw)) hHeld (fun a11 e11 => ?_)
  rw [← e11] at h
  have z11 := pz e11 z10
  replace t43 := pk e11 t43
  clear t49
  have t50 := pq e11 z10
  clear e11 z10
  refine wpAnyH_ready (rs := [11]) (by kernel_rfl) (by simp) ?_
  refine AllReadyH.cons (o := undo6_o11) rfl (fun K hK => ?_) AllReadyH.nil
  rw [if_pos (by rfl)]
  unfold undo6_o11 at hK ⊢
  go_simp
  refine (C).mono ?_
  rintro e x12 ⟨v, rfl, hs, hq⟩
  try go_wp2_with fail
  replace h := h v
  refine hK.out _ _ (hs) (fun hHeld => ?_)
  clear hK K
  change wpAnyH _ _ _ _ _ _ _ (a11.put (some 51) (v)) _
  obtain ⟨a12, e12⟩ : ∃ act, act = a11.put (some 51) (v) := ⟨_, rfl⟩
  rw [← e12] at h ⊢
  have z12 := pz e12 z11
  clear t43 t50
  have t51 := pq e12 z11
  clear e12 z11
  refine tk 12 undo6_o12 (v) (by rfl) (fun w1 hw => exec_assign rfl t51) hHeld (fun a13 e13 => ?_)
  rw [← e13] at h
  have z13 := pz e13 z12
  clear t51
  clear e13 z12
  exact wpAnyH_done (by kernel_rfl) (NoPanic.normal (h _ _ (hq) rfl)) _
def last4f_o0 : Oper := ⟨some 13, .move (.tmp 0), 24, "law.go:90", #[], none⟩
def last4f_o1 : Oper := ⟨some 14, .nilCheck (.tmp 13), 0, "law.go:90", #[⟨0, .data⟩], none⟩
def last4f_o2 : Oper := ⟨some 15, .fieldAddr 32 (.tmp 14) 3, 0, "law.go:90", #[⟨1, .data⟩], none⟩
def last4f_o3 : Oper := ⟨some 16, .load 30 (.tmp 15), 30, "law.go:90", #[⟨2, .data⟩], none⟩
def last4f_o4 : Oper := ⟨some 17, .move (.tmp 3), 3, "law.go:90", #[], none⟩
def last4f_o5 : Oper := ⟨some 18, .indexAddr 30 (.tmp 16) (.tmp 17), 0, "law.go:90", #[⟨3, .data⟩, ⟨4, .data⟩], none⟩
def last4f_o6 : Oper := ⟨some 19, .load 3 (.tmp 18), 3, "law.go:90", #[⟨5, .data⟩], none⟩
def last4f_o7 : Oper := ⟨some 20, .binOp BinOp.gtr 3 (.tmp 19) (Operand.const (Value.int IntKind.i64 0)) 3, 4, "law.go:90", #[⟨6, .data⟩], none⟩
def last4f_o8 : Oper := ⟨some 21, .move (.tmp 20), 4, "law.go:90", #[⟨7, .data⟩], none⟩
def last4f_o9 : Oper := ⟨some 22, .move (.tmp 0), 24, "law.go:90", #[⟨8, .guard⟩], some (8, true)⟩
def last4f_o10 : Oper := ⟨some 23, .nilCheck (.tmp 22), 0, "law.go:90", #[⟨9, .data⟩, ⟨8, .guard⟩], some (8, true)⟩
def last4f_o11 : Oper := ⟨some 24, .fieldAddr 32 (.tmp 23) 3, 0, "law.go:90", #[⟨10, .data⟩, ⟨8, .guard⟩], some (8, true)⟩
def last4f_o12 : Oper := ⟨some 25, .load 30 (.tmp 24), 30, "law.go:90", #[⟨11, .data⟩, ⟨8, .guard⟩], some (8, true)⟩
def last4f_o13 : Oper := ⟨some 26, .move (.tmp 3), 3, "law.go:90", #[⟨8, .guard⟩], some (8, true)⟩
def last4f_o14 : Oper := ⟨some 27, .indexAddr 30 (.tmp 25) (.tmp 26), 0, "law.go:90", #[⟨12, .data⟩, ⟨13, .data⟩, ⟨8, .guard⟩], some (8, true)⟩
def last4f_o15 : Oper := ⟨some 28, .load 3 (.tmp 27), 3, "law.go:90", #[⟨14, .data⟩, ⟨8, .guard⟩], some (8, true)⟩
def last4f_o16 : Oper := ⟨some 29, .move (.tmp 0), 24, "law.go:90", #[⟨8, .guard⟩], some (8, true)⟩
def last4f_o17 : Oper := ⟨some 30, .nilCheck (.tmp 29), 0, "law.go:90", #[⟨16, .data⟩, ⟨8, .guard⟩], some (8, true)⟩
def last4f_o18 : Oper := ⟨some 31, .fieldAddr 32 (.tmp 30) 1, 0, "law.go:90", #[⟨17, .data⟩, ⟨8, .guard⟩], some (8, true)⟩
def last4f_o19 : Oper := ⟨some 32, .load 27 (.tmp 31), 27, "law.go:90", #[⟨18, .data⟩, ⟨8, .guard⟩], some (8, true)⟩
def last4f_o20 : Oper := ⟨some 33, .call { callee := Callee.value (Operand.func 33), args := #[.tmp 32], argTypes := #[27] }, 3, "law.go:90", #[⟨19, .data⟩, ⟨8, .chain⟩, ⟨8, .guard⟩], some (8, true)⟩
def last4f_o21 : Oper := ⟨some 34, .binOp BinOp.eql 3 (.tmp 28) (.tmp 33) 3, 4, "law.go:90", #[⟨15, .data⟩, ⟨20, .data⟩, ⟨8, .guard⟩], some (8, true)⟩
def last4f_o22 : Oper := ⟨some 35, .pick (.tmp 21) (.tmp 34) (Operand.const (Value.bool false)), 4, "law.go:90", #[⟨8, .data⟩, ⟨21, .data⟩], none⟩
def last4f_ops : Array Oper := #[last4f_o0, last4f_o1, last4f_o2, last4f_o3, last4f_o4, last4f_o5, last4f_o6, last4f_o7, last4f_o8, last4f_o9, last4f_o10, last4f_o11, last4f_o12, last4f_o13, last4f_o14, last4f_o15, last4f_o16, last4f_o17, last4f_o18, last4f_o19, last4f_o20, last4f_o21, last4f_o22]
theorem last4f (S : World → Prop) (x b p : Nat) (lv iv zv : Value) (a : Act) (w : World) (Q : Exit → Act → World → Prop) (hsz : a.tmps.size = 37)
    (t0 : a.tmps.getD 0 undef = .pointer (some ⟨x, 0, none⟩))
    (t3 : a.tmps.getD 3 undef = iv)
    (h0 : S w.drew)
    (G1 : ∀ W, S W → (Instr.loadAt 30 (.pointer (some ⟨x, 0 + 3, none⟩))).run Try.prog W = .ok (lv) W)
    (G2 : ∀ W, (Instr.indexAt 30 (lv) (iv)).run Try.prog W = .ok (.pointer (some ⟨b, p, none⟩)) W)
    (G3 : ∀ W, S W → (Instr.loadAt 3 (.pointer (some ⟨b, p, none⟩))).run Try.prog W = .ok (zv) W)
    (G4 : ∀ W, (eqGuard BinOp.gtr 3 (Operand.tmp 19) (Operand.const (Value.int IntKind.i64 0)) (zv) (.int .i64 0)).run Try.prog W = .ok () W)
    (G5 : ∀ W, S W → (binOp BinOp.gtr 3 (zv) (.int .i64 0)).run Try.prog W = .ok (.bool false) W)
    (h : ∀ (a' : Act) (w' : World), S w' → a' = (((((((((((((((((((((((a).put (some 13) (.pointer (some ⟨x, 0, none⟩))).put (some 14) (.pointer (some ⟨x, 0, none⟩))).put (some 15) (.pointer (some ⟨x, 0 + 3, none⟩))).put (some 16) (lv)).put (some 17) (iv)).put (some 18) (.pointer (some ⟨b, p, none⟩))).put (some 19) (zv)).put (some 20) (.bool false)).put (some 21) (.bool false)).put (some 22) (undef)).put (some 23) (undef)).put (some 24) (undef)).put (some 25) (undef)).put (some 26) (undef)).put (some 27) (undef)).put (some 28) (undef)).put (some 29) (undef)).put (some 30) (undef)).put (some 31) (undef)).put (some 32) (undef)).put (some 33) (undef)).put (some 34) (undef)).put (some 35) (.bool false) → Q .normal a' w') :
    (Code.region 4 last4f_ops true).wp Try.prog Q a w := by
  refine wp_region_noPanic ?_
  refine wp_region_held_drew (S := fun w' => S w') (by kernel_rfl) (h0) (fun hHeld => ?_)
  refine tk 0 last4f_o0 (.pointer (some ⟨x, 0, none⟩)) (by rfl) (fun w1 hw => exec_move rfl t0) hHeld (fun a1 e1 => ?_)
  rw [← e1] at h
  have z1 := pz e1 hsz
  replace t0 := pk e1 t0
  replace t3 := pk e1 t3
  have t13 := pq e1 hsz
  clear e1 hsz
  refine tk 1 last4f_o1 (.pointer (some ⟨x, 0, none⟩)) (by rfl) (fun w1 hw => exec_nilCheck rfl t13) hHeld (fun a2 e2 => ?_)
  rw [← e2] at h
  have z2 := pz e2 z1
  replace t0 := pk e2 t0
  replace t3 := pk e2 t3
  clear t13
  have t14 := pq e2 z1
  clear e2 z1
  refine tk 2 last4f_o2 (.pointer (some ⟨x, 0 + 3, none⟩)) (by rfl) (fun w1 hw => exec_fieldAt rfl t14 (fg_32_3 _ _ _)) hHeld (fun a3 e3 => ?_)
  rw [← e3] at h
  have z3 := pz e3 z2
  replace t0 := pk e3 t0
  replace t3 := pk e3 t3
  clear t14
  have t15 := pq e3 z2
  clear e3 z2
  refine tk 3 last4f_o3 (lv) (by rfl) (fun w1 hw => exec_load rfl t15 (G1 _ hw)) hHeld (fun a4 e4 => ?_)
  rw [← e4] at h
  have z4 := pz e4 z3
  replace t0 := pk e4 t0
  replace t3 := pk e4 t3
  clear t15
  have t16 := pq e4 z3
  clear e4 z3
  refine tk 4 last4f_o4 (iv) (by rfl) (fun w1 hw => exec_move rfl t3) hHeld (fun a5 e5 => ?_)
  rw [← e5] at h
  have z5 := pz e5 z4
  replace t0 := pk e5 t0
  replace t3 := pk e5 t3
  replace t16 := pk e5 t16
  have t17 := pq e5 z4
  clear e5 z4
  refine tk 5 last4f_o5 (.pointer (some ⟨b, p, none⟩)) (by rfl) (fun w1 hw => exec_indexAt rfl t16 t17 (G2 _)) hHeld (fun a6 e6 => ?_)
  rw [← e6] at h
  have z6 := pz e6 z5
  replace t0 := pk e6 t0
  replace t3 := pk e6 t3
  clear t16 t17
  have t18 := pq e6 z5
  clear e6 z5
  refine tk 6 last4f_o6 (zv) (by rfl) (fun w1 hw => exec_load rfl t18 (G3 _ hw)) hHeld (fun a7 e7 => ?_)
  rw [← e7] at h
  have z7 := pz e7 z6
  replace t0 := pk e7 t0
  replace t3 := pk e7 t3
  clear t18
  have t19 := pq e7 z6
  clear e7 z6
  refine tk 7 last4f_o7 (.bool false) (by rfl) (fun w1 hw => exec_binOp rfl t19 rfl (G4 _) (G5 _ hw)) hHeld (fun a8 e8 => ?_)
  rw [← e8] at h
  have z8 := pz e8 z7
  replace t0 := pk e8 t0
  replace t3 := pk e8 t3
  clear t19
  have t20 := pq e8 z7
  clear e8 z7
  refine tk 8 last4f_o8 (.bool false) (by rfl) (fun w1 hw => exec_move rfl t20) hHeld (fun a9 e9 => ?_)
  rw [← e9] at h
  have z9 := pz e9 z8
  replace t0 := pk e9 t0
  replace t3 := pk e9 t3
  clear t20
  have t21 := pq e9 z8
  clear e9 z8
  refine wpAnyH_take (i := 9) (oi := last4f_o9) (v := undef) rfl (by kernel_rfl) (by kernel_rfl) (by kernel_rfl) (fun _ _ _ h => h) (Or.inr ⟨by simp [Region.wanted, yielded, last4f_ops, last4f_o9, last4f_o8, tget z9 (by decide) t21], rfl⟩) hHeld ?_
  change wpAnyH _ _ _ _ _ _ _ (a9.put (some 22) (undef)) _
  obtain ⟨a10, e10⟩ : ∃ act, act = a9.put (some 22) (undef) := ⟨_, rfl⟩
  rw [← e10] at h ⊢
  have z10 := pz e10 z9
  replace t0 := pk e10 t0
  replace t3 := pk e10 t3
  replace t21 := pk e10 t21
  have t22 := pq e10 z9
  clear e10 z9
  refine wpAnyH_take (i := 10) (oi := last4f_o10) (v := undef) rfl (by kernel_rfl) (by kernel_rfl) (by kernel_rfl) (fun _ _ _ h => h) (Or.inr ⟨by simp [Region.wanted, yielded, last4f_ops, last4f_o10, last4f_o8, tget z10 (by decide) t21], rfl⟩) hHeld ?_
  change wpAnyH _ _ _ _ _ _ _ (a10.put (some 23) (undef)) _
  obtain ⟨a11, e11⟩ : ∃ act, act = a10.put (some 23) (undef) := ⟨_, rfl⟩
  rw [← e11] at h ⊢
  have z11 := pz e11 z10
  replace t0 := pk e11 t0
  replace t3 := pk e11 t3
  replace t21 := pk e11 t21
  clear t22
  have t23 := pq e11 z10
  clear e11 z10
  refine wpAnyH_take (i := 11) (oi := last4f_o11) (v := undef) rfl (by kernel_rfl) (by kernel_rfl) (by kernel_rfl) (fun _ _ _ h => h) (Or.inr ⟨by simp [Region.wanted, yielded, last4f_ops, last4f_o11, last4f_o8, tget z11 (by decide) t21], rfl⟩) hHeld ?_
  change wpAnyH _ _ _ _ _ _ _ (a11.put (some 24) (undef)) _
  obtain ⟨a12, e12⟩ : ∃ act, act = a11.put (some 24) (undef) := ⟨_, rfl⟩
  rw [← e12] at h ⊢
  have z12 := pz e12 z11
  replace t0 := pk e12 t0
  replace t3 := pk e12 t3
  replace t21 := pk e12 t21
  clear t23
  have t24 := pq e12 z11
  clear e12 z11
  refine wpAnyH_take (i := 12) (oi := last4f_o12) (v := undef) rfl (by kernel_rfl) (by kernel_rfl) (by kernel_rfl) (fun _ _ _ h => h) (Or.inr ⟨by simp [Region.wanted, yielded, last4f_ops, last4f_o12, last4f_o8, tget z12 (by decide) t21], rfl⟩) hHeld ?_
  change wpAnyH _ _ _ _ _ _ _ (a12.put (some 25) (undef)) _
  obtain ⟨a13, e13⟩ : ∃ act, act = a12.put (some 25) (undef) := ⟨_, rfl⟩
  rw [← e13] at h ⊢
  have z13 := pz e13 z12
  replace t0 := pk e13 t0
  replace t3 := pk e13 t3
  replace t21 := pk e13 t21
  clear t24
  have t25 := pq e13 z12
  clear e13 z12
  refine wpAnyH_take (i := 13) (oi := last4f_o13) (v := undef) rfl (by kernel_rfl) (by kernel_rfl) (by kernel_rfl) (fun _ _ _ h => h) (Or.inr ⟨by simp [Region.wanted, yielded, last4f_ops, last4f_o13, last4f_o8, tget z13 (by decide) t21], rfl⟩) hHeld ?_
  change wpAnyH _ _ _ _ _ _ _ (a13.put (some 26) (undef)) _
  obtain ⟨a14, e14⟩ : ∃ act, act = a13.put (some 26) (undef) := ⟨_, rfl⟩
  rw [← e14] at h ⊢
  have z14 := pz e14 z13
  replace t0 := pk e14 t0
  replace t21 := pk e14 t21
  replace t25 := pk e14 t25
  clear t3
  have t26 := pq e14 z13
  clear e14 z13
  refine wpAnyH_take (i := 14) (oi := last4f_o14) (v := undef) rfl (by kernel_rfl) (by kernel_rfl) (by kernel_rfl) (fun _ _ _ h => h) (Or.inr ⟨by simp [Region.wanted, yielded, last4f_ops, last4f_o14, last4f_o8, tget z14 (by decide) t21], rfl⟩) hHeld ?_
  change wpAnyH _ _ _ _ _ _ _ (a14.put (some 27) (undef)) _
  obtain ⟨a15, e15⟩ : ∃ act, act = a14.put (some 27) (undef) := ⟨_, rfl⟩
  rw [← e15] at h ⊢
  have z15 := pz e15 z14
  replace t0 := pk e15 t0
  replace t21 := pk e15 t21
  clear t25 t26
  have t27 := pq e15 z14
  clear e15 z14
  refine wpAnyH_take (i := 15) (oi := last4f_o15) (v := undef) rfl (by kernel_rfl) (by kernel_rfl) (by kernel_rfl) (fun _ _ _ h => h) (Or.inr ⟨by simp [Region.wanted, yielded, last4f_ops, last4f_o15, last4f_o8, tget z15 (by decide) t21], rfl⟩) hHeld ?_
  change wpAnyH _ _ _ _ _ _ _ (a15.put (some 28) (undef)) _
  obtain ⟨a16, e16⟩ : ∃ act, act = a15.put (some 28) (undef) := ⟨_, rfl⟩
  rw [← e16] at h ⊢
  have z16 := pz e16 z15
  replace t0 := pk e16 t0
  replace t21 := pk e16 t21
  clear t27
  have t28 := pq e16 z15
  clear e16 z15
  refine wpAnyH_take (i := 16) (oi := last4f_o16) (v := undef) rfl (by kernel_rfl) (by kernel_rfl) (by kernel_rfl) (fun _ _ _ h => h) (Or.inr ⟨by simp [Region.wanted, yielded, last4f_ops, last4f_o16, last4f_o8, tget z16 (by decide) t21], rfl⟩) hHeld ?_
  change wpAnyH _ _ _ _ _ _ _ (a16.put (some 29) (undef)) _
  obtain ⟨a17, e17⟩ : ∃ act, act = a16.put (some 29) (undef) := ⟨_, rfl⟩
  rw [← e17] at h ⊢
  have z17 := pz e17 z16
  replace t21 := pk e17 t21
  replace t28 := pk e17 t28
  clear t0
  have t29 := pq e17 z16
  clear e17 z16
  refine wpAnyH_take (i := 17) (oi := last4f_o17) (v := undef) rfl (by kernel_rfl) (by kernel_rfl) (by kernel_rfl) (fun _ _ _ h => h) (Or.inr ⟨by simp [Region.wanted, yielded, last4f_ops, last4f_o17, last4f_o8, tget z17 (by decide) t21], rfl⟩) hHeld ?_
  change wpAnyH _ _ _ _ _ _ _ (a17.put (some 30) (undef)) _
  obtain ⟨a18, e18⟩ : ∃ act, act = a17.put (some 30) (undef) := ⟨_, rfl⟩
  rw [← e18] at h ⊢
  have z18 := pz e18 z17
  replace t21 := pk e18 t21
  replace t28 := pk e18 t28
  clear t29
  have t30 := pq e18 z17
  clear e18 z17
  refine wpAnyH_take (i := 18) (oi := last4f_o18) (v := undef) rfl (by kernel_rfl) (by kernel_rfl) (by kernel_rfl) (fun _ _ _ h => h) (Or.inr ⟨by simp [Region.wanted, yielded, last4f_ops, last4f_o18, last4f_o8, tget z18 (by decide) t21], rfl⟩) hHeld ?_
  change wpAnyH _ _ _ _ _ _ _ (a18.put (some 31) (undef)) _
  obtain ⟨a19, e19⟩ : ∃ act, act = a18.put (some 31) (undef) := ⟨_, rfl⟩
  rw [← e19] at h ⊢
  have z19 := pz e19 z18
  replace t21 := pk e19 t21
  replace t28 := pk e19 t28
  clear t30
  have t31 := pq e19 z18
  clear e19 z18
  refine wpAnyH_take (i := 19) (oi := last4f_o19) (v := undef) rfl (by kernel_rfl) (by kernel_rfl) (by kernel_rfl) (fun _ _ _ h => h) (Or.inr ⟨by simp [Region.wanted, yielded, last4f_ops, last4f_o19, last4f_o8, tget z19 (by decide) t21], rfl⟩) hHeld ?_
  change wpAnyH _ _ _ _ _ _ _ (a19.put (some 32) (undef)) _
  obtain ⟨a20, e20⟩ : ∃ act, act = a19.put (some 32) (undef) := ⟨_, rfl⟩
  rw [← e20] at h ⊢
  have z20 := pz e20 z19
  replace t21 := pk e20 t21
  replace t28 := pk e20 t28
  clear t31
  have t32 := pq e20 z19
  clear e20 z19
  refine wpAnyH_take (i := 20) (oi := last4f_o20) (v := undef) rfl (by kernel_rfl) (by kernel_rfl) (by kernel_rfl) (fun _ _ _ h => h) (Or.inr ⟨by simp [Region.wanted, yielded, last4f_ops, last4f_o20, last4f_o8, tget z20 (by decide) t21], rfl⟩) hHeld ?_
  change wpAnyH _ _ _ _ _ _ _ (a20.put (some 33) (undef)) _
  obtain ⟨a21, e21⟩ : ∃ act, act = a20.put (some 33) (undef) := ⟨_, rfl⟩
  rw [← e21] at h ⊢
  have z21 := pz e21 z20
  replace t21 := pk e21 t21
  replace t28 := pk e21 t28
  clear t32
  have t33 := pq e21 z20
  clear e21 z20
  refine wpAnyH_take (i := 21) (oi := last4f_o21) (v := undef) rfl (by kernel_rfl) (by kernel_rfl) (by kernel_rfl) (fun _ _ _ h => h) (Or.inr ⟨by simp [Region.wanted, yielded, last4f_ops, last4f_o21, last4f_o8, tget z21 (by decide) t21], rfl⟩) hHeld ?_
  change wpAnyH _ _ _ _ _ _ _ (a21.put (some 34) (undef)) _
  obtain ⟨a22, e22⟩ : ∃ act, act = a21.put (some 34) (undef) := ⟨_, rfl⟩
  rw [← e22] at h ⊢
  have z22 := pz e22 z21
  replace t21 := pk e22 t21
  clear t28 t33
  have t34 := pq e22 z21
  clear e22 z21
  refine tk 22 last4f_o22 (.bool false) (by rfl) (fun w1 hw => by unfold last4f_o22; go_simp) hHeld (fun a23 e23 => ?_)
  rw [← e23] at h
  have z23 := pz e23 z22
  clear t21 t34
  clear e23 z22
  exact wpAnyH_done (by kernel_rfl) (NoPanic.normal (h _ _ (hHeld) rfl)) _
def last4t_o0 : Oper := ⟨some 13, .move (.tmp 0), 24, "law.go:90", #[], none⟩
def last4t_o1 : Oper := ⟨some 14, .nilCheck (.tmp 13), 0, "law.go:90", #[⟨0, .data⟩], none⟩
def last4t_o2 : Oper := ⟨some 15, .fieldAddr 32 (.tmp 14) 3, 0, "law.go:90", #[⟨1, .data⟩], none⟩
def last4t_o3 : Oper := ⟨some 16, .load 30 (.tmp 15), 30, "law.go:90", #[⟨2, .data⟩], none⟩
def last4t_o4 : Oper := ⟨some 17, .move (.tmp 3), 3, "law.go:90", #[], none⟩
def last4t_o5 : Oper := ⟨some 18, .indexAddr 30 (.tmp 16) (.tmp 17), 0, "law.go:90", #[⟨3, .data⟩, ⟨4, .data⟩], none⟩
def last4t_o6 : Oper := ⟨some 19, .load 3 (.tmp 18), 3, "law.go:90", #[⟨5, .data⟩], none⟩
def last4t_o7 : Oper := ⟨some 20, .binOp BinOp.gtr 3 (.tmp 19) (Operand.const (Value.int IntKind.i64 0)) 3, 4, "law.go:90", #[⟨6, .data⟩], none⟩
def last4t_o8 : Oper := ⟨some 21, .move (.tmp 20), 4, "law.go:90", #[⟨7, .data⟩], none⟩
def last4t_o9 : Oper := ⟨some 22, .move (.tmp 0), 24, "law.go:90", #[⟨8, .guard⟩], some (8, true)⟩
def last4t_o10 : Oper := ⟨some 23, .nilCheck (.tmp 22), 0, "law.go:90", #[⟨9, .data⟩, ⟨8, .guard⟩], some (8, true)⟩
def last4t_o11 : Oper := ⟨some 24, .fieldAddr 32 (.tmp 23) 3, 0, "law.go:90", #[⟨10, .data⟩, ⟨8, .guard⟩], some (8, true)⟩
def last4t_o12 : Oper := ⟨some 25, .load 30 (.tmp 24), 30, "law.go:90", #[⟨11, .data⟩, ⟨8, .guard⟩], some (8, true)⟩
def last4t_o13 : Oper := ⟨some 26, .move (.tmp 3), 3, "law.go:90", #[⟨8, .guard⟩], some (8, true)⟩
def last4t_o14 : Oper := ⟨some 27, .indexAddr 30 (.tmp 25) (.tmp 26), 0, "law.go:90", #[⟨12, .data⟩, ⟨13, .data⟩, ⟨8, .guard⟩], some (8, true)⟩
def last4t_o15 : Oper := ⟨some 28, .load 3 (.tmp 27), 3, "law.go:90", #[⟨14, .data⟩, ⟨8, .guard⟩], some (8, true)⟩
def last4t_o16 : Oper := ⟨some 29, .move (.tmp 0), 24, "law.go:90", #[⟨8, .guard⟩], some (8, true)⟩
def last4t_o17 : Oper := ⟨some 30, .nilCheck (.tmp 29), 0, "law.go:90", #[⟨16, .data⟩, ⟨8, .guard⟩], some (8, true)⟩
def last4t_o18 : Oper := ⟨some 31, .fieldAddr 32 (.tmp 30) 1, 0, "law.go:90", #[⟨17, .data⟩, ⟨8, .guard⟩], some (8, true)⟩
def last4t_o19 : Oper := ⟨some 32, .load 27 (.tmp 31), 27, "law.go:90", #[⟨18, .data⟩, ⟨8, .guard⟩], some (8, true)⟩
def last4t_o20 : Oper := ⟨some 33, .call { callee := Callee.value (Operand.func 33), args := #[.tmp 32], argTypes := #[27] }, 3, "law.go:90", #[⟨19, .data⟩, ⟨8, .chain⟩, ⟨8, .guard⟩], some (8, true)⟩
def last4t_o21 : Oper := ⟨some 34, .binOp BinOp.eql 3 (.tmp 28) (.tmp 33) 3, 4, "law.go:90", #[⟨15, .data⟩, ⟨20, .data⟩, ⟨8, .guard⟩], some (8, true)⟩
def last4t_o22 : Oper := ⟨some 35, .pick (.tmp 21) (.tmp 34) (Operand.const (Value.bool false)), 4, "law.go:90", #[⟨8, .data⟩, ⟨21, .data⟩], none⟩
def last4t_ops : Array Oper := #[last4t_o0, last4t_o1, last4t_o2, last4t_o3, last4t_o4, last4t_o5, last4t_o6, last4t_o7, last4t_o8, last4t_o9, last4t_o10, last4t_o11, last4t_o12, last4t_o13, last4t_o14, last4t_o15, last4t_o16, last4t_o17, last4t_o18, last4t_o19, last4t_o20, last4t_o21, last4t_o22]
theorem last4t (S : World → Prop) (x b p : Nat) (lv iv zv dv nv : Value) (eb : Bool) (a : Act) (w : World) (Q : Exit → Act → World → Prop) (hsz : a.tmps.size = 37)
    (t0 : a.tmps.getD 0 undef = .pointer (some ⟨x, 0, none⟩))
    (t3 : a.tmps.getD 3 undef = iv)
    (h0 : S w.drew) (C : ∀ W, S W → Calls Try.prog 33 #[dv] W fun e w' => e = .returned nv ∧ S w')
    (G1 : ∀ W, S W → (Instr.loadAt 30 (.pointer (some ⟨x, 0 + 3, none⟩))).run Try.prog W = .ok (lv) W)
    (G2 : ∀ W, (Instr.indexAt 30 (lv) (iv)).run Try.prog W = .ok (.pointer (some ⟨b, p, none⟩)) W)
    (G3 : ∀ W, S W → (Instr.loadAt 3 (.pointer (some ⟨b, p, none⟩))).run Try.prog W = .ok (zv) W)
    (G4 : ∀ W, (eqGuard BinOp.gtr 3 (Operand.tmp 19) (Operand.const (Value.int IntKind.i64 0)) (zv) (.int .i64 0)).run Try.prog W = .ok () W)
    (G5 : ∀ W, S W → (binOp BinOp.gtr 3 (zv) (.int .i64 0)).run Try.prog W = .ok (.bool true) W)
    (G6 : ∀ W, S W → (Instr.loadAt 27 (.pointer (some ⟨x, 0 + 1, none⟩))).run Try.prog W = .ok (dv) W)
    (G7 : ∀ W, (eqGuard BinOp.eql 3 (Operand.tmp 28) (Operand.tmp 33) (zv) (nv)).run Try.prog W = .ok () W)
    (G8 : ∀ W, S W → (binOp BinOp.eql 3 (zv) (nv)).run Try.prog W = .ok (.bool eb) W)
    (h : ∀ (a' : Act) (w' : World), S w' → a' = (((((((((((((((((((((((a).put (some 13) (.pointer (some ⟨x, 0, none⟩))).put (some 14) (.pointer (some ⟨x, 0, none⟩))).put (some 15) (.pointer (some ⟨x, 0 + 3, none⟩))).put (some 16) (lv)).put (some 17) (iv)).put (some 18) (.pointer (some ⟨b, p, none⟩))).put (some 19) (zv)).put (some 20) (.bool true)).put (some 21) (.bool true)).put (some 22) (.pointer (some ⟨x, 0, none⟩))).put (some 23) (.pointer (some ⟨x, 0, none⟩))).put (some 24) (.pointer (some ⟨x, 0 + 3, none⟩))).put (some 25) (lv)).put (some 26) (iv)).put (some 27) (.pointer (some ⟨b, p, none⟩))).put (some 28) (zv)).put (some 29) (.pointer (some ⟨x, 0, none⟩))).put (some 30) (.pointer (some ⟨x, 0, none⟩))).put (some 31) (.pointer (some ⟨x, 0 + 1, none⟩))).put (some 32) (dv)).put (some 33) (nv)).put (some 34) (.bool eb)).put (some 35) (.bool eb) → Q .normal a' w') :
    (Code.region 4 last4t_ops true).wp Try.prog Q a w := by
  refine wp_region_noPanic ?_
  refine wp_region_held_drew (S := fun w' => S w') (by kernel_rfl) (h0) (fun hHeld => ?_)
  refine tk 0 last4t_o0 (.pointer (some ⟨x, 0, none⟩)) (by rfl) (fun w1 hw => exec_move rfl t0) hHeld (fun a1 e1 => ?_)
  rw [← e1] at h
  have z1 := pz e1 hsz
  replace t0 := pk e1 t0
  replace t3 := pk e1 t3
  have t13 := pq e1 hsz
  clear e1 hsz
  refine tk 1 last4t_o1 (.pointer (some ⟨x, 0, none⟩)) (by rfl) (fun w1 hw => exec_nilCheck rfl t13) hHeld (fun a2 e2 => ?_)
  rw [← e2] at h
  have z2 := pz e2 z1
  replace t0 := pk e2 t0
  replace t3 := pk e2 t3
  clear t13
  have t14 := pq e2 z1
  clear e2 z1
  refine tk 2 last4t_o2 (.pointer (some ⟨x, 0 + 3, none⟩)) (by rfl) (fun w1 hw => exec_fieldAt rfl t14 (fg_32_3 _ _ _)) hHeld (fun a3 e3 => ?_)
  rw [← e3] at h
  have z3 := pz e3 z2
  replace t0 := pk e3 t0
  replace t3 := pk e3 t3
  clear t14
  have t15 := pq e3 z2
  clear e3 z2
  refine tk 3 last4t_o3 (lv) (by rfl) (fun w1 hw => exec_load rfl t15 (G1 _ hw)) hHeld (fun a4 e4 => ?_)
  rw [← e4] at h
  have z4 := pz e4 z3
  replace t0 := pk e4 t0
  replace t3 := pk e4 t3
  clear t15
  have t16 := pq e4 z3
  clear e4 z3
  refine tk 4 last4t_o4 (iv) (by rfl) (fun w1 hw => exec_move rfl t3) hHeld (fun a5 e5 => ?_)
  rw [← e5] at h
  have z5 := pz e5 z4
  replace t0 := pk e5 t0
  replace t3 := pk e5 t3
  replace t16 := pk e5 t16
  have t17 := pq e5 z4
  clear e5 z4
  refine tk 5 last4t_o5 (.pointer (some ⟨b, p, none⟩)) (by rfl) (fun w1 hw => exec_indexAt rfl t16 t17 (G2 _)) hHeld (fun a6 e6 => ?_)
  rw [← e6] at h
  have z6 := pz e6 z5
  replace t0 := pk e6 t0
  replace t3 := pk e6 t3
  clear t16 t17
  have t18 := pq e6 z5
  clear e6 z5
  refine tk 6 last4t_o6 (zv) (by rfl) (fun w1 hw => exec_load rfl t18 (G3 _ hw)) hHeld (fun a7 e7 => ?_)
  rw [← e7] at h
  have z7 := pz e7 z6
  replace t0 := pk e7 t0
  replace t3 := pk e7 t3
  clear t18
  have t19 := pq e7 z6
  clear e7 z6
  refine tk 7 last4t_o7 (.bool true) (by rfl) (fun w1 hw => exec_binOp rfl t19 rfl (G4 _) (G5 _ hw)) hHeld (fun a8 e8 => ?_)
  rw [← e8] at h
  have z8 := pz e8 z7
  replace t0 := pk e8 t0
  replace t3 := pk e8 t3
  clear t19
  have t20 := pq e8 z7
  clear e8 z7
  refine tk 8 last4t_o8 (.bool true) (by rfl) (fun w1 hw => exec_move rfl t20) hHeld (fun a9 e9 => ?_)
  rw [← e9] at h
  have z9 := pz e9 z8
  replace t0 := pk e9 t0
  replace t3 := pk e9 t3
  clear t20
  have t21 := pq e9 z8
  clear e9 z8
  refine tk 9 last4t_o9 (.pointer (some ⟨x, 0, none⟩)) (by simp [Region.wanted, yielded, last4t_ops, last4t_o9, last4t_o8, tget z9 (by decide) t21]) (fun w1 hw => exec_move rfl t0) hHeld (fun a10 e10 => ?_)
  rw [← e10] at h
  have z10 := pz e10 z9
  replace t0 := pk e10 t0
  replace t3 := pk e10 t3
  replace t21 := pk e10 t21
  have t22 := pq e10 z9
  clear e10 z9
  refine tk 10 last4t_o10 (.pointer (some ⟨x, 0, none⟩)) (by simp [Region.wanted, yielded, last4t_ops, last4t_o10, last4t_o8, tget z10 (by decide) t21]) (fun w1 hw => exec_nilCheck rfl t22) hHeld (fun a11 e11 => ?_)
  rw [← e11] at h
  have z11 := pz e11 z10
  replace t0 := pk e11 t0
  replace t3 := pk e11 t3
  replace t21 := pk e11 t21
  clear t22
  have t23 := pq e11 z10
  clear e11 z10
  refine tk 11 last4t_o11 (.pointer (some ⟨x, 0 + 3, none⟩)) (by simp [Region.wanted, yielded, last4t_ops, last4t_o11, last4t_o8, tget z11 (by decide) t21]) (fun w1 hw => exec_fieldAt rfl t23 (fg_32_3 _ _ _)) hHeld (fun a12 e12 => ?_)
  rw [← e12] at h
  have z12 := pz e12 z11
  replace t0 := pk e12 t0
  replace t3 := pk e12 t3
  replace t21 := pk e12 t21
  clear t23
  have t24 := pq e12 z11
  clear e12 z11
  refine tk 12 last4t_o12 (lv) (by simp [Region.wanted, yielded, last4t_ops, last4t_o12, last4t_o8, tget z12 (by decide) t21]) (fun w1 hw => exec_load rfl t24 (G1 _ hw)) hHeld (fun a13 e13 => ?_)
  rw [← e13] at h
  have z13 := pz e13 z12
  replace t0 := pk e13 t0
  replace t3 := pk e13 t3
  replace t21 := pk e13 t21
  clear t24
  have t25 := pq e13 z12
  clear e13 z12
  refine tk 13 last4t_o13 (iv) (by simp [Region.wanted, yielded, last4t_ops, last4t_o13, last4t_o8, tget z13 (by decide) t21]) (fun w1 hw => exec_move rfl t3) hHeld (fun a14 e14 => ?_)
  rw [← e14] at h
  have z14 := pz e14 z13
  replace t0 := pk e14 t0
  replace t21 := pk e14 t21
  replace t25 := pk e14 t25
  clear t3
  have t26 := pq e14 z13
  clear e14 z13
  refine tk 14 last4t_o14 (.pointer (some ⟨b, p, none⟩)) (by simp [Region.wanted, yielded, last4t_ops, last4t_o14, last4t_o8, tget z14 (by decide) t21]) (fun w1 hw => exec_indexAt rfl t25 t26 (G2 _)) hHeld (fun a15 e15 => ?_)
  rw [← e15] at h
  have z15 := pz e15 z14
  replace t0 := pk e15 t0
  replace t21 := pk e15 t21
  clear t25 t26
  have t27 := pq e15 z14
  clear e15 z14
  refine tk 15 last4t_o15 (zv) (by simp [Region.wanted, yielded, last4t_ops, last4t_o15, last4t_o8, tget z15 (by decide) t21]) (fun w1 hw => exec_load rfl t27 (G3 _ hw)) hHeld (fun a16 e16 => ?_)
  rw [← e16] at h
  have z16 := pz e16 z15
  replace t0 := pk e16 t0
  replace t21 := pk e16 t21
  clear t27
  have t28 := pq e16 z15
  clear e16 z15
  refine tk 16 last4t_o16 (.pointer (some ⟨x, 0, none⟩)) (by simp [Region.wanted, yielded, last4t_ops, last4t_o16, last4t_o8, tget z16 (by decide) t21]) (fun w1 hw => exec_move rfl t0) hHeld (fun a17 e17 => ?_)
  rw [← e17] at h
  have z17 := pz e17 z16
  replace t21 := pk e17 t21
  replace t28 := pk e17 t28
  clear t0
  have t29 := pq e17 z16
  clear e17 z16
  refine tk 17 last4t_o17 (.pointer (some ⟨x, 0, none⟩)) (by simp [Region.wanted, yielded, last4t_ops, last4t_o17, last4t_o8, tget z17 (by decide) t21]) (fun w1 hw => exec_nilCheck rfl t29) hHeld (fun a18 e18 => ?_)
  rw [← e18] at h
  have z18 := pz e18 z17
  replace t21 := pk e18 t21
  replace t28 := pk e18 t28
  clear t29
  have t30 := pq e18 z17
  clear e18 z17
  refine tk 18 last4t_o18 (.pointer (some ⟨x, 0 + 1, none⟩)) (by simp [Region.wanted, yielded, last4t_ops, last4t_o18, last4t_o8, tget z18 (by decide) t21]) (fun w1 hw => exec_fieldAt rfl t30 (fg_32_1 _ _ _)) hHeld (fun a19 e19 => ?_)
  rw [← e19] at h
  have z19 := pz e19 z18
  replace t21 := pk e19 t21
  replace t28 := pk e19 t28
  clear t30
  have t31 := pq e19 z18
  clear e19 z18
  refine tk 19 last4t_o19 (dv) (by simp [Region.wanted, yielded, last4t_ops, last4t_o19, last4t_o8, tget z19 (by decide) t21]) (fun w1 hw => exec_load rfl t31 (G6 _ hw)) hHeld (fun a20 e20 => ?_)
  rw [← e20] at h
  have z20 := pz e20 z19
  replace t21 := pk e20 t21
  replace t28 := pk e20 t28
  clear t31
  have t32 := pq e20 z19
  clear e20 z19
  refine wpAnyH_ready (rs := [20]) (by kernel_rfl) (by simp) ?_
  refine AllReadyH.cons (o := last4t_o20) rfl (fun K hK => ?_) AllReadyH.nil
  rw [if_pos (by simp [Region.wanted, yielded, last4t_ops, last4t_o20, last4t_o8, tget z20 (by decide) t21])]
  unfold last4t_o20 at hK ⊢
  go_simp
  refine (C _ hHeld).mono ?_
  rintro e x21 ⟨rfl, hs⟩
  try go_wp2_with fail
  skip
  refine hK.out _ _ (hs) (fun hHeld => ?_)
  clear hK K
  change wpAnyH _ _ _ _ _ _ _ (a20.put (some 33) (nv)) _
  obtain ⟨a21, e21⟩ : ∃ act, act = a20.put (some 33) (nv) := ⟨_, rfl⟩
  rw [← e21] at h ⊢
  have z21 := pz e21 z20
  replace t21 := pk e21 t21
  replace t28 := pk e21 t28
  clear t32
  have t33 := pq e21 z20
  clear e21 z20
  refine tk 21 last4t_o21 (.bool eb) (by simp [Region.wanted, yielded, last4t_ops, last4t_o21, last4t_o8, tget z21 (by decide) t21]) (fun w1 hw => exec_binOp rfl t28 t33 (G7 _) (G8 _ hw)) hHeld (fun a22 e22 => ?_)
  rw [← e22] at h
  have z22 := pz e22 z21
  replace t21 := pk e22 t21
  clear t28 t33
  have t34 := pq e22 z21
  clear e22 z21
  refine tk 22 last4t_o22 (.bool eb) (by rfl) (fun w1 hw => by unfold last4t_o22; go_simp) hHeld (fun a23 e23 => ?_)
  rw [← e23] at h
  have z23 := pz e23 z22
  clear t21 t34
  clear e23 z22
  exact wpAnyH_done (by kernel_rfl) (NoPanic.normal (h _ _ (hHeld) rfl)) _
end Go.Proofs.Ytoofljkgdjjllaa
