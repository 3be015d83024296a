import Derived.Test.YtoofljkgdjjllaaRg
import Derived.Test.YtoofljkgdjjllaaP0
import Derived.Test.YtoofljkgdjjllaaP2
namespace Go.Proofs.Ytoofljkgdjjllaa
open Go.RowKit
set_option linter.unusedVariables false
set_option linter.unusedSimpArgs false

theorem fg_32_0 (b o : Nat) (w : World) : (Instr.fieldAt 32 (.pointer (some ⟨b, o, none⟩)) 0).run Try.prog w = .ok (.pointer (some ⟨b, o + 0, none⟩)) w := by go_simp
theorem fg_32_1 (b o : Nat) (w : World) : (Instr.fieldAt 32 (.pointer (some ⟨b, o, none⟩)) 1).run Try.prog w = .ok (.pointer (some ⟨b, o + 1, none⟩)) w := by go_simp
theorem fg_32_2 (b o : Nat) (w : World) : (Instr.fieldAt 32 (.pointer (some ⟨b, o, none⟩)) 2).run Try.prog w = .ok (.pointer (some ⟨b, o + 2, none⟩)) w := by go_simp
theorem fg_32_3 (b o : Nat) (w : World) : (Instr.fieldAt 32 (.pointer (some ⟨b, o, none⟩)) 3).run Try.prog w = .ok (.pointer (some ⟨b, o + 3, none⟩)) w := by go_simp
def step6_o0 : Oper := ⟨some 14, .move (.tmp 0), 24, "law.go:49", #[], none⟩
def step6_o1 : Oper := ⟨some 15, .nilCheck (.tmp 14), 0, "law.go:49", #[⟨0, .data⟩], none⟩
def step6_o2 : Oper := ⟨some 16, .fieldAddr 32 (.tmp 15) 0, 0, "law.go:49", #[⟨1, .data⟩], none⟩
def step6_o3 : Oper := ⟨some 17, .load 25 (.tmp 16), 25, "law.go:49", #[⟨2, .data⟩], none⟩
def step6_o4 : Oper := ⟨some 18, .fieldAddr 39 (.tmp 3) 1, 0, "law.go:49", #[], none⟩
def step6_o5 : Oper := ⟨some 19, .load 37 (.tmp 18), 37, "law.go:49", #[⟨4, .data⟩], none⟩
def step6_o6 : Oper := ⟨some 20, .fieldAddr 39 (.tmp 3) 2, 0, "law.go:49", #[], none⟩
def step6_o7 : Oper := ⟨some 21, .load 37 (.tmp 20), 37, "law.go:49", #[⟨6, .data⟩], none⟩
def step6_o8 : Oper := ⟨some 22, .fieldAddr 39 (.tmp 3) 3, 0, "law.go:49", #[], none⟩
def step6_o9 : Oper := ⟨some 23, .load 9 (.tmp 22), 9, "law.go:49", #[⟨8, .data⟩], none⟩
def step6_o10 : Oper := ⟨some 24, .call { callee := Callee.value (Operand.func 17), args := #[.tmp 17, .tmp 19, .tmp 21, .tmp 23], argTypes := #[25, 37, 37, 9] }, 47, "law.go:49", #[⟨3, .data⟩, ⟨5, .data⟩, ⟨7, .data⟩, ⟨9, .data⟩], none⟩
def step6_o11 : Oper := ⟨some 13, .move (.tmp 24), 47, "law.go:49", #[⟨10, .data⟩], none⟩
def step6_o12 : Oper := ⟨some 25, .extract (.tmp 13) 0, 45, "law.go:49", #[⟨11, .data⟩], none⟩
def step6_o13 : Oper := ⟨some 26, .extract (.tmp 13) 1, 46, "law.go:49", #[⟨11, .data⟩, { on := 14, ground := Ground.gcOnly Departure.lateStores }], none⟩
def step6_o14 : Oper := ⟨some 5, .assign (.tmp 25), 45, "law.go:49", #[⟨12, .data⟩, ⟨10, .chain⟩, ⟨0, .phase⟩, ⟨1, .phase⟩, ⟨2, .phase⟩, ⟨3, .phase⟩, ⟨4, .phase⟩, ⟨5, .phase⟩, ⟨6, .phase⟩, ⟨7, .phase⟩, ⟨8, .phase⟩, ⟨9, .phase⟩, ⟨10, .phase⟩, ⟨11, .phase⟩, ⟨12, .phase⟩, { on := 13, ground := Ground.textOnly Departure.lateStores }], none⟩
def step6_o15 : Oper := ⟨some 6, .assign (.tmp 26), 46, "law.go:49", #[⟨13, .data⟩, ⟨14, .chain⟩, ⟨0, .phase⟩, ⟨1, .phase⟩, ⟨2, .phase⟩, ⟨3, .phase⟩, ⟨4, .phase⟩, ⟨5, .phase⟩, ⟨6, .phase⟩, ⟨7, .phase⟩, ⟨8, .phase⟩, ⟨9, .phase⟩, ⟨10, .phase⟩, ⟨11, .phase⟩, ⟨12, .phase⟩, ⟨13, .phase⟩, ⟨14, .phase⟩], none⟩
def step6_ops : Array Oper := #[step6_o0, step6_o1, step6_o2, step6_o3, step6_o4, step6_o5, step6_o6, step6_o7, step6_o8, step6_o9, step6_o10, step6_o11, step6_o12, step6_o13, step6_o14, step6_o15]
set_option maxRecDepth 100000 in
set_option maxHeartbeats 4000000 in
theorem step6 (S : World → Prop) (Po : Value → Value → World → Prop) (x bo : Nat) (tv kv uv sv : Value) (a : Act) (w : World) (Q : Exit → Act → World → Prop) (hsz : a.tmps.size = 127)
    (t0 : a.tmps.getD 0 undef = .pointer (some ⟨x, 0, none⟩))
    (t3 : a.tmps.getD 3 undef = .pointer (some ⟨bo, 0, none⟩))
    (h0 : S w.drew)
    (C : Calls Try.prog 17 #[tv, kv, uv, sv] w.drew fun e w' => ∃ t v, e = .returned (.tuple #[t, v]) ∧ S w' ∧ Po t v w')
    (G1 : ∀ W, S W → (Instr.loadAt 25 (.pointer (some ⟨x, 0 + 0, none⟩))).run Try.prog W = .ok (tv) W)
    (G2 : ∀ W, S W → (Instr.loadAt 37 (.pointer (some ⟨bo, 0 + 1, none⟩))).run Try.prog W = .ok (kv) W)
    (G3 : ∀ W, S W → (Instr.loadAt 37 (.pointer (some ⟨bo, 0 + 34, none⟩))).run Try.prog W = .ok (uv) W)
    (G4 : ∀ W, S W → (Instr.loadAt 9 (.pointer (some ⟨bo, 0 + 67, none⟩))).run Try.prog W = .ok (sv) W)
    (h : ∀ (t v : Value) (a' : Act) (w' : World), Po t v w' → a' = ((((((((((((((((a).put (some 14) (.pointer (some ⟨x, 0, none⟩))).put (some 15) (.pointer (some ⟨x, 0, none⟩))).put (some 16) (.pointer (some ⟨x, 0 + 0, none⟩))).put (some 17) (tv)).put (some 18) (.pointer (some ⟨bo, 0 + 1, none⟩))).put (some 19) (kv)).put (some 20) (.pointer (some ⟨bo, 0 + 34, none⟩))).put (some 21) (uv)).put (some 22) (.pointer (some ⟨bo, 0 + 67, none⟩))).put (some 23) (sv)).put (some 24) (.tuple #[t, v])).put (some 13) (.tuple #[t, v])).put (some 25) (t)).put (some 26) (v)).put (some 5) (t)).put (some 6) (v) → Q .normal a' w') :
    (Code.region 6 step6_ops true).wp Try.prog Q a w := by
  refine wp_region_noPanic ?_
  refine wp_region_held_drew (S := fun w' => S w') (by kernel_rfl) (h0) (fun hHeld => ?_)
  refine tk 0 step6_o0 (.pointer (some ⟨x, 0, none⟩)) (by rfl) (fun w1 hw => exec_move rfl t0) hHeld (fun a1 e1 => ?_)
  rw [← e1] at h
  have z1 := pz e1 hsz
  replace t3 := pk e1 t3
  clear t0
  have t14 := pq e1 hsz
  clear e1 hsz
  refine tk 1 step6_o1 (.pointer (some ⟨x, 0, none⟩)) (by rfl) (fun w1 hw => exec_nilCheck rfl t14) hHeld (fun a2 e2 => ?_)
  rw [← e2] at h
  have z2 := pz e2 z1
  replace t3 := pk e2 t3
  clear t14
  have t15 := pq e2 z1
  clear e2 z1
  refine tk 2 step6_o2 (.pointer (some ⟨x, 0 + 0, none⟩)) (by rfl) (fun w1 hw => exec_fieldAt rfl t15 (fg_32_0 _ _ _)) hHeld (fun a3 e3 => ?_)
  rw [← e3] at h
  have z3 := pz e3 z2
  replace t3 := pk e3 t3
  clear t15
  have t16 := pq e3 z2
  clear e3 z2
  refine tk 3 step6_o3 (tv) (by rfl) (fun w1 hw => exec_load rfl t16 (G1 _ hw)) hHeld (fun a4 e4 => ?_)
  rw [← e4] at h
  have z4 := pz e4 z3
  replace t3 := pk e4 t3
  clear t16
  have t17 := pq e4 z3
  clear e4 z3
  refine tk 4 step6_o4 (.pointer (some ⟨bo, 0 + 1, none⟩)) (by rfl) (fun w1 hw => exec_fieldAt rfl t3 (fg_39_1 _ _ _)) hHeld (fun a5 e5 => ?_)
  rw [← e5] at h
  have z5 := pz e5 z4
  replace t3 := pk e5 t3
  replace t17 := pk e5 t17
  have t18 := pq e5 z4
  clear e5 z4
  refine tk 5 step6_o5 (kv) (by rfl) (fun w1 hw => exec_load rfl t18 (G2 _ hw)) hHeld (fun a6 e6 => ?_)
  rw [← e6] at h
  have z6 := pz e6 z5
  replace t3 := pk e6 t3
  replace t17 := pk e6 t17
  clear t18
  have t19 := pq e6 z5
  clear e6 z5
  refine tk 6 step6_o6 (.pointer (some ⟨bo, 0 + 34, none⟩)) (by rfl) (fun w1 hw => exec_fieldAt rfl t3 (fg_39_2 _ _ _)) hHeld (fun a7 e7 => ?_)
  rw [← e7] at h
  have z7 := pz e7 z6
  replace t3 := pk e7 t3
  replace t17 := pk e7 t17
  replace t19 := pk e7 t19
  have t20 := pq e7 z6
  clear e7 z6
  refine tk 7 step6_o7 (uv) (by rfl) (fun w1 hw => exec_load rfl t20 (G3 _ hw)) hHeld (fun a8 e8 => ?_)
  rw [← e8] at h
  have z8 := pz e8 z7
  replace t3 := pk e8 t3
  replace t17 := pk e8 t17
  replace t19 := pk e8 t19
  clear t20
  have t21 := pq e8 z7
  clear e8 z7
  refine tk 8 step6_o8 (.pointer (some ⟨bo, 0 + 67, none⟩)) (by rfl) (fun w1 hw => exec_fieldAt rfl t3 (fg_39_3 _ _ _)) hHeld (fun a9 e9 => ?_)
  rw [← e9] at h
  have z9 := pz e9 z8
  replace t17 := pk e9 t17
  replace t19 := pk e9 t19
  replace t21 := pk e9 t21
  clear t3
  have t22 := pq e9 z8
  clear e9 z8
  refine tk 9 step6_o9 (sv) (by rfl) (fun w1 hw => exec_load rfl t22 (G4 _ hw)) hHeld (fun a10 e10 => ?_)
  rw [← e10] at h
  have z10 := pz e10 z9
  replace t17 := pk e10 t17
  replace t19 := pk e10 t19
  replace t21 := pk e10 t21
  clear t22
  have t23 := pq e10 z9
  clear e10 z9
  refine wpAnyH_ready (rs := [10]) (by kernel_rfl) (by simp) ?_
  refine AllReadyH.cons (o := step6_o10) rfl (fun K hK => ?_) AllReadyH.nil
  rw [if_pos (by rfl)]
  unfold step6_o10 at hK ⊢
  go_simp
  refine (C).mono ?_
  rintro e x11 ⟨t, v, rfl, hs, hq⟩
  try go_wp2_with fail
  replace h := h t v
  refine hK.out _ _ (hs) (fun hHeld => ?_)
  clear hK K
  change wpAnyH _ _ _ _ _ _ _ (a10.put (some 24) (.tuple #[t, v])) _
  obtain ⟨a11, e11⟩ : ∃ act, act = a10.put (some 24) (.tuple #[t, v]) := ⟨_, rfl⟩
  rw [← e11] at h ⊢
  have z11 := pz e11 z10
  clear t17 t19 t21 t23
  have t24 := pq e11 z10
  clear e11 z10
  refine tk 11 step6_o11 (.tuple #[t, v]) (by rfl) (fun w1 hw => exec_move rfl t24) hHeld (fun a12 e12 => ?_)
  rw [← e12] at h
  have z12 := pz e12 z11
  clear t24
  have t13 := pq e12 z11
  clear e12 z11
  refine tk 12 step6_o12 (t) (by rfl) (fun w1 hw => exec_extract rfl t13 rfl) hHeld (fun a13 e13 => ?_)
  rw [← e13] at h
  have z13 := pz e13 z12
  replace t13 := pk e13 t13
  have t25 := pq e13 z12
  clear e13 z12
  refine tk 13 step6_o13 (v) (by rfl) (fun w1 hw => exec_extract rfl t13 rfl) hHeld (fun a14 e14 => ?_)
  rw [← e14] at h
  have z14 := pz e14 z13
  replace t25 := pk e14 t25
  clear t13
  have t26 := pq e14 z13
  clear e14 z13
  refine tk 14 step6_o14 (t) (by rfl) (fun w1 hw => exec_assign rfl t25) hHeld (fun a15 e15 => ?_)
  rw [← e15] at h
  have z15 := pz e15 z14
  replace t26 := pk e15 t26
  clear t25
  clear e15 z14
  refine tk 15 step6_o15 (v) (by rfl) (fun w1 hw => exec_assign rfl t26) hHeld (fun a16 e16 => ?_)
  rw [← e16] at h
  have z16 := pz e16 z15
  clear t26
  clear e16 z15
  exact wpAnyH_done (by kernel_rfl) (NoPanic.normal (h _ _ (hq) rfl)) _
def step9_o0 : Oper := ⟨some 41, .move (.tmp 0), 24, "law.go:52", #[], none⟩
def step9_o1 : Oper := ⟨some 42, .nilCheck (.tmp 41), 0, "law.go:52", #[⟨0, .data⟩], none⟩
def step9_o2 : Oper := ⟨some 43, .fieldAddr 32 (.tmp 42) 0, 0, "law.go:52", #[⟨1, .data⟩], none⟩
def step9_o3 : Oper := ⟨some 44, .load 25 (.tmp 43), 25, "law.go:52", #[⟨2, .data⟩], none⟩
def step9_o4 : Oper := ⟨some 45, .fieldAddr 39 (.tmp 3) 1, 0, "law.go:52", #[], none⟩
def step9_o5 : Oper := ⟨some 46, .load 37 (.tmp 45), 37, "law.go:52", #[⟨4, .data⟩], none⟩
def step9_o6 : Oper := ⟨some 47, .fieldAddr 39 (.tmp 3) 2, 0, "law.go:52", #[], none⟩
def step9_o7 : Oper := ⟨some 48, .load 37 (.tmp 47), 37, "law.go:52", #[⟨6, .data⟩], none⟩
def step9_o8 : Oper := ⟨some 49, .fieldAddr 39 (.tmp 3) 3, 0, "law.go:52", #[], none⟩
def step9_o9 : Oper := ⟨some 50, .load 9 (.tmp 49), 9, "law.go:52", #[⟨8, .data⟩], none⟩
def step9_o10 : Oper := ⟨some 51, .call { callee := Callee.value (Operand.func 19), args := #[.tmp 44, .tmp 46, .tmp 48, .tmp 50], argTypes := #[25, 37, 37, 9] }, 47, "law.go:52", #[⟨3, .data⟩, ⟨5, .data⟩, ⟨7, .data⟩, ⟨9, .data⟩], none⟩
def step9_o11 : Oper := ⟨some 40, .move (.tmp 51), 47, "law.go:52", #[⟨10, .data⟩], none⟩
def step9_o12 : Oper := ⟨some 52, .extract (.tmp 40) 0, 45, "law.go:52", #[⟨11, .data⟩], none⟩
def step9_o13 : Oper := ⟨some 53, .extract (.tmp 40) 1, 46, "law.go:52", #[⟨11, .data⟩, { on := 14, ground := Ground.gcOnly Departure.lateStores }], none⟩
def step9_o14 : Oper := ⟨some 5, .assign (.tmp 52), 45, "law.go:52", #[⟨12, .data⟩, ⟨10, .chain⟩, ⟨0, .phase⟩, ⟨1, .phase⟩, ⟨2, .phase⟩, ⟨3, .phase⟩, ⟨4, .phase⟩, ⟨5, .phase⟩, ⟨6, .phase⟩, ⟨7, .phase⟩, ⟨8, .phase⟩, ⟨9, .phase⟩, ⟨10, .phase⟩, ⟨11, .phase⟩, ⟨12, .phase⟩, { on := 13, ground := Ground.textOnly Departure.lateStores }], none⟩
def step9_o15 : Oper := ⟨some 6, .assign (.tmp 53), 46, "law.go:52", #[⟨13, .data⟩, ⟨14, .chain⟩, ⟨0, .phase⟩, ⟨1, .phase⟩, ⟨2, .phase⟩, ⟨3, .phase⟩, ⟨4, .phase⟩, ⟨5, .phase⟩, ⟨6, .phase⟩, ⟨7, .phase⟩, ⟨8, .phase⟩, ⟨9, .phase⟩, ⟨10, .phase⟩, ⟨11, .phase⟩, ⟨12, .phase⟩, ⟨13, .phase⟩, ⟨14, .phase⟩], none⟩
def step9_ops : Array Oper := #[step9_o0, step9_o1, step9_o2, step9_o3, step9_o4, step9_o5, step9_o6, step9_o7, step9_o8, step9_o9, step9_o10, step9_o11, step9_o12, step9_o13, step9_o14, step9_o15]
set_option maxRecDepth 100000 in
set_option maxHeartbeats 4000000 in
theorem step9 (S : World → Prop) (Po : Value → Value → World → Prop) (x bo : Nat) (tv kv uv sv : Value) (a : Act) (w : World) (Q : Exit → Act → World → Prop) (hsz : a.tmps.size = 127)
    (t0 : a.tmps.getD 0 undef = .pointer (some ⟨x, 0, none⟩))
    (t3 : a.tmps.getD 3 undef = .pointer (some ⟨bo, 0, none⟩))
    (h0 : S w.drew)
    (C : Calls Try.prog 19 #[tv, kv, uv, sv] w.drew fun e w' => ∃ t v, e = .returned (.tuple #[t, v]) ∧ S w' ∧ Po t v w')
    (G1 : ∀ W, S W → (Instr.loadAt 25 (.pointer (some ⟨x, 0 + 0, none⟩))).run Try.prog W = .ok (tv) W)
    (G2 : ∀ W, S W → (Instr.loadAt 37 (.pointer (some ⟨bo, 0 + 1, none⟩))).run Try.prog W = .ok (kv) W)
    (G3 : ∀ W, S W → (Instr.loadAt 37 (.pointer (some ⟨bo, 0 + 34, none⟩))).run Try.prog W = .ok (uv) W)
    (G4 : ∀ W, S W → (Instr.loadAt 9 (.pointer (some ⟨bo, 0 + 67, none⟩))).run Try.prog W = .ok (sv) W)
    (h : ∀ (t v : Value) (a' : Act) (w' : World), Po t v w' → a' = ((((((((((((((((a).put (some 41) (.pointer (some ⟨x, 0, none⟩))).put (some 42) (.pointer (some ⟨x, 0, none⟩))).put (some 43) (.pointer (some ⟨x, 0 + 0, none⟩))).put (some 44) (tv)).put (some 45) (.pointer (some ⟨bo, 0 + 1, none⟩))).put (some 46) (kv)).put (some 47) (.pointer (some ⟨bo, 0 + 34, none⟩))).put (some 48) (uv)).put (some 49) (.pointer (some ⟨bo, 0 + 67, none⟩))).put (some 50) (sv)).put (some 51) (.tuple #[t, v])).put (some 40) (.tuple #[t, v])).put (some 52) (t)).put (some 53) (v)).put (some 5) (t)).put (some 6) (v) → Q .normal a' w') :
    (Code.region 9 step9_ops true).wp Try.prog Q a w := by
  refine wp_region_noPanic ?_
  refine wp_region_held_drew (S := fun w' => S w') (by kernel_rfl) (h0) (fun hHeld => ?_)
  refine tk 0 step9_o0 (.pointer (some ⟨x, 0, none⟩)) (by rfl) (fun w1 hw => exec_move rfl t0) hHeld (fun a1 e1 => ?_)
  rw [← e1] at h
  have z1 := pz e1 hsz
  replace t3 := pk e1 t3
  clear t0
  have t41 := pq e1 hsz
  clear e1 hsz
  refine tk 1 step9_o1 (.pointer (some ⟨x, 0, none⟩)) (by rfl) (fun w1 hw => exec_nilCheck rfl t41) hHeld (fun a2 e2 => ?_)
  rw [← e2] at h
  have z2 := pz e2 z1
  replace t3 := pk e2 t3
  clear t41
  have t42 := pq e2 z1
  clear e2 z1
  refine tk 2 step9_o2 (.pointer (some ⟨x, 0 + 0, none⟩)) (by rfl) (fun w1 hw => exec_fieldAt rfl t42 (fg_32_0 _ _ _)) hHeld (fun a3 e3 => ?_)
  rw [← e3] at h
  have z3 := pz e3 z2
  replace t3 := pk e3 t3
  clear t42
  have t43 := pq e3 z2
  clear e3 z2
  refine tk 3 step9_o3 (tv) (by rfl) (fun w1 hw => exec_load rfl t43 (G1 _ hw)) hHeld (fun a4 e4 => ?_)
  rw [← e4] at h
  have z4 := pz e4 z3
  replace t3 := pk e4 t3
  clear t43
  have t44 := pq e4 z3
  clear e4 z3
  refine tk 4 step9_o4 (.pointer (some ⟨bo, 0 + 1, none⟩)) (by rfl) (fun w1 hw => exec_fieldAt rfl t3 (fg_39_1 _ _ _)) hHeld (fun a5 e5 => ?_)
  rw [← e5] at h
  have z5 := pz e5 z4
  replace t3 := pk e5 t3
  replace t44 := pk e5 t44
  have t45 := pq e5 z4
  clear e5 z4
  refine tk 5 step9_o5 (kv) (by rfl) (fun w1 hw => exec_load rfl t45 (G2 _ hw)) hHeld (fun a6 e6 => ?_)
  rw [← e6] at h
  have z6 := pz e6 z5
  replace t3 := pk e6 t3
  replace t44 := pk e6 t44
  clear t45
  have t46 := pq e6 z5
  clear e6 z5
  refine tk 6 step9_o6 (.pointer (some ⟨bo, 0 + 34, none⟩)) (by rfl) (fun w1 hw => exec_fieldAt rfl t3 (fg_39_2 _ _ _)) hHeld (fun a7 e7 => ?_)
  rw [← e7] at h
  have z7 := pz e7 z6
  replace t3 := pk e7 t3
  replace t44 := pk e7 t44
  replace t46 := pk e7 t46
  have t47 := pq e7 z6
  clear e7 z6
  refine tk 7 step9_o7 (uv) (by rfl) (fun w1 hw => exec_load rfl t47 (G3 _ hw)) hHeld (fun a8 e8 => ?_)
  rw [← e8] at h
  have z8 := pz e8 z7
  replace t3 := pk e8 t3
  replace t44 := pk e8 t44
  replace t46 := pk e8 t46
  clear t47
  have t48 := pq e8 z7
  clear e8 z7
  refine tk 8 step9_o8 (.pointer (some ⟨bo, 0 + 67, none⟩)) (by rfl) (fun w1 hw => exec_fieldAt rfl t3 (fg_39_3 _ _ _)) hHeld (fun a9 e9 => ?_)
  rw [← e9] at h
  have z9 := pz e9 z8
  replace t44 := pk e9 t44
  replace t46 := pk e9 t46
  replace t48 := pk e9 t48
  clear t3
  have t49 := pq e9 z8
  clear e9 z8
  refine tk 9 step9_o9 (sv) (by rfl) (fun w1 hw => exec_load rfl t49 (G4 _ hw)) hHeld (fun a10 e10 => ?_)
  rw [← e10] at h
  have z10 := pz e10 z9
  replace t44 := pk e10 t44
  replace t46 := pk e10 t46
  replace t48 := pk e10 t48
  clear t49
  have t50 := pq e10 z9
  clear e10 z9
  refine wpAnyH_ready (rs := [10]) (by kernel_rfl) (by simp) ?_
  refine AllReadyH.cons (o := step9_o10) rfl (fun K hK => ?_) AllReadyH.nil
  rw [if_pos (by rfl)]
  unfold step9_o10 at hK ⊢
  go_simp
  refine (C).mono ?_
  rintro e x11 ⟨t, v, rfl, hs, hq⟩
  try go_wp2_with fail
  replace h := h t v
  refine hK.out _ _ (hs) (fun hHeld => ?_)
  clear hK K
  change wpAnyH _ _ _ _ _ _ _ (a10.put (some 51) (.tuple #[t, v])) _
  obtain ⟨a11, e11⟩ : ∃ act, act = a10.put (some 51) (.tuple #[t, v]) := ⟨_, rfl⟩
  rw [← e11] at h ⊢
  have z11 := pz e11 z10
  clear t44 t46 t48 t50
  have t51 := pq e11 z10
  clear e11 z10
  refine tk 11 step9_o11 (.tuple #[t, v]) (by rfl) (fun w1 hw => exec_move rfl t51) hHeld (fun a12 e12 => ?_)
  rw [← e12] at h
  have z12 := pz e12 z11
  clear t51
  have t40 := pq e12 z11
  clear e12 z11
  refine tk 12 step9_o12 (t) (by rfl) (fun w1 hw => exec_extract rfl t40 rfl) hHeld (fun a13 e13 => ?_)
  rw [← e13] at h
  have z13 := pz e13 z12
  replace t40 := pk e13 t40
  have t52 := pq e13 z12
  clear e13 z12
  refine tk 13 step9_o13 (v) (by rfl) (fun w1 hw => exec_extract rfl t40 rfl) hHeld (fun a14 e14 => ?_)
  rw [← e14] at h
  have z14 := pz e14 z13
  replace t52 := pk e14 t52
  clear t40
  have t53 := pq e14 z13
  clear e14 z13
  refine tk 14 step9_o14 (t) (by rfl) (fun w1 hw => exec_assign rfl t52) hHeld (fun a15 e15 => ?_)
  rw [← e15] at h
  have z15 := pz e15 z14
  replace t53 := pk e15 t53
  clear t52
  clear e15 z14
  refine tk 15 step9_o15 (v) (by rfl) (fun w1 hw => exec_assign rfl t53) hHeld (fun a16 e16 => ?_)
  rw [← e16] at h
  have z16 := pz e16 z15
  clear t53
  clear e16 z15
  exact wpAnyH_done (by kernel_rfl) (NoPanic.normal (h _ _ (hq) rfl)) _
def step7_o0 : Oper := ⟨some 27, .move (.tmp 0), 24, "law.go:50", #[], none⟩
def step7_o1 : Oper := ⟨some 28, .nilCheck (.tmp 27), 0, "law.go:50", #[⟨0, .data⟩], none⟩
def step7_o2 : Oper := ⟨some 29, .fieldAddr 32 (.tmp 28) 1, 0, "law.go:50", #[⟨1, .data⟩], none⟩
def step7_o3 : Oper := ⟨some 30, .load 27 (.tmp 29), 27, "law.go:50", #[⟨2, .data⟩], none⟩
def step7_o4 : Oper := ⟨some 31, .fieldAddr 39 (.tmp 3) 1, 0, "law.go:50", #[], none⟩
def step7_o5 : Oper := ⟨some 32, .load 37 (.tmp 31), 37, "law.go:50", #[⟨4, .data⟩], none⟩
def step7_o6 : Oper := ⟨some 33, .fieldAddr 39 (.tmp 3) 2, 0, "law.go:50", #[], none⟩
def step7_o7 : Oper := ⟨some 34, .load 37 (.tmp 33), 37, "law.go:50", #[⟨6, .data⟩], none⟩
def step7_o8 : Oper := ⟨some 35, .fieldAddr 39 (.tmp 3) 3, 0, "law.go:50", #[], none⟩
def step7_o9 : Oper := ⟨some 36, .load 9 (.tmp 35), 9, "law.go:50", #[⟨8, .data⟩], none⟩
def step7_o10 : Oper := ⟨some 37, .call { callee := Callee.value (Operand.func 30), args := #[.tmp 30, .tmp 32, .tmp 34, .tmp 36], argTypes := #[27, 37, 37, 9] }, 46, "law.go:50", #[⟨3, .data⟩, ⟨5, .data⟩, ⟨7, .data⟩, ⟨9, .data⟩], none⟩
def step7_o11 : Oper := ⟨some 7, .assign (.tmp 37), 46, "law.go:50", #[⟨10, .data⟩, ⟨10, .chain⟩, ⟨0, .phase⟩, ⟨1, .phase⟩, ⟨2, .phase⟩, ⟨3, .phase⟩, ⟨4, .phase⟩, ⟨5, .phase⟩, ⟨6, .phase⟩, ⟨7, .phase⟩, ⟨8, .phase⟩, ⟨9, .phase⟩, ⟨10, .phase⟩], none⟩
def step7_ops : Array Oper := #[step7_o0, step7_o1, step7_o2, step7_o3, step7_o4, step7_o5, step7_o6, step7_o7, step7_o8, step7_o9, step7_o10, step7_o11]
set_option maxRecDepth 100000 in
set_option maxHeartbeats 4000000 in
theorem step7 (S : World → Prop) (Po : Value → World → Prop) (x bo : Nat) (tv kv uv sv : Value) (a : Act) (w : World) (Q : Exit → Act → World → Prop) (hsz : a.tmps.size = 127)
    (t0 : a.tmps.getD 0 undef = .pointer (some ⟨x, 0, none⟩))
    (t3 : a.tmps.getD 3 undef = .pointer (some ⟨bo, 0, none⟩))
    (h0 : S w.drew)
    (C : Calls Try.prog 30 #[tv, kv, uv, sv] w.drew fun e w' => ∃ v, e = .returned v ∧ S w' ∧ Po v w')
    (G1 : ∀ W, S W → (Instr.loadAt 27 (.pointer (some ⟨x, 0 + 1, none⟩))).run Try.prog W = .ok (tv) W)
    (G2 : ∀ W, S W → (Instr.loadAt 37 (.pointer (some ⟨bo, 0 + 1, none⟩))).run Try.prog W = .ok (kv) W)
    (G3 : ∀ W, S W → (Instr.loadAt 37 (.pointer (some ⟨bo, 0 + 34, none⟩))).run Try.prog W = .ok (uv) W)
    (G4 : ∀ W, S W → (Instr.loadAt 9 (.pointer (some ⟨bo, 0 + 67, none⟩))).run Try.prog W = .ok (sv) W)
    (h : ∀ (v : Value) (a' : Act) (w' : World), Po v w' → a' = ((((((((((((a).put (some 27) (.pointer (some ⟨x, 0, none⟩))).put (some 28) (.pointer (some ⟨x, 0, none⟩))).put (some 29) (.pointer (some ⟨x, 0 + 1, none⟩))).put (some 30) (tv)).put (some 31) (.pointer (some ⟨bo, 0 + 1, none⟩))).put (some 32) (kv)).put (some 33) (.pointer (some ⟨bo, 0 + 34, none⟩))).put (some 34) (uv)).put (some 35) (.pointer (some ⟨bo, 0 + 67, none⟩))).put (some 36) (sv)).put (some 37) (v)).put (some 7) (v) → Q .normal a' w') :
    (Code.region 7 step7_ops true).wp Try.prog Q a w := by
  refine wp_region_noPanic ?_
  refine wp_region_held_drew (S := fun w' => S w') (by kernel_rfl) (h0) (fun hHeld => ?_)
  refine tk 0 step7_o0 (.pointer (some ⟨x, 0, none⟩)) (by rfl) (fun w1 hw => exec_move rfl t0) hHeld (fun a1 e1 => ?_)
  rw [← e1] at h
  have z1 := pz e1 hsz
  replace t3 := pk e1 t3
  clear t0
  have t27 := pq e1 hsz
  clear e1 hsz
  refine tk 1 step7_o1 (.pointer (some ⟨x, 0, none⟩)) (by rfl) (fun w1 hw => exec_nilCheck rfl t27) hHeld (fun a2 e2 => ?_)
  rw [← e2] at h
  have z2 := pz e2 z1
  replace t3 := pk e2 t3
  clear t27
  have t28 := pq e2 z1
  clear e2 z1
  refine tk 2 step7_o2 (.pointer (some ⟨x, 0 + 1, none⟩)) (by rfl) (fun w1 hw => exec_fieldAt rfl t28 (fg_32_1 _ _ _)) hHeld (fun a3 e3 => ?_)
  rw [← e3] at h
  have z3 := pz e3 z2
  replace t3 := pk e3 t3
  clear t28
  have t29 := pq e3 z2
  clear e3 z2
  refine tk 3 step7_o3 (tv) (by rfl) (fun w1 hw => exec_load rfl t29 (G1 _ hw)) hHeld (fun a4 e4 => ?_)
  rw [← e4] at h
  have z4 := pz e4 z3
  replace t3 := pk e4 t3
  clear t29
  have t30 := pq e4 z3
  clear e4 z3
  refine tk 4 step7_o4 (.pointer (some ⟨bo, 0 + 1, none⟩)) (by rfl) (fun w1 hw => exec_fieldAt rfl t3 (fg_39_1 _ _ _)) hHeld (fun a5 e5 => ?_)
  rw [← e5] at h
  have z5 := pz e5 z4
  replace t3 := pk e5 t3
  replace t30 := pk e5 t30
  have t31 := pq e5 z4
  clear e5 z4
  refine tk 5 step7_o5 (kv) (by rfl) (fun w1 hw => exec_load rfl t31 (G2 _ hw)) hHeld (fun a6 e6 => ?_)
  rw [← e6] at h
  have z6 := pz e6 z5
  replace t3 := pk e6 t3
  replace t30 := pk e6 t30
  clear t31
  have t32 := pq e6 z5
  clear e6 z5
  refine tk 6 step7_o6 (.pointer (some ⟨bo, 0 + 34, none⟩)) (by rfl) (fun w1 hw => exec_fieldAt rfl t3 (fg_39_2 _ _ _)) hHeld (fun a7 e7 => ?_)
  rw [← e7] at h
  have z7 := pz e7 z6
  replace t3 := pk e7 t3
  replace t30 := pk e7 t30
  replace t32 := pk e7 t32
  have t33 := pq e7 z6
  clear e7 z6
  refine tk 7 step7_o7 (uv) (by rfl) (fun w1 hw => exec_load rfl t33 (G3 _ hw)) hHeld (fun a8 e8 => ?_)
  rw [← e8] at h
  have z8 := pz e8 z7
  replace t3 := pk e8 t3
  replace t30 := pk e8 t30
  replace t32 := pk e8 t32
  clear t33
  have t34 := pq e8 z7
  clear e8 z7
  refine tk 8 step7_o8 (.pointer (some ⟨bo, 0 + 67, none⟩)) (by rfl) (fun w1 hw => exec_fieldAt rfl t3 (fg_39_3 _ _ _)) hHeld (fun a9 e9 => ?_)
  rw [← e9] at h
  have z9 := pz e9 z8
  replace t30 := pk e9 t30
  replace t32 := pk e9 t32
  replace t34 := pk e9 t34
  clear t3
  have t35 := pq e9 z8
  clear e9 z8
  refine tk 9 step7_o9 (sv) (by rfl) (fun w1 hw => exec_load rfl t35 (G4 _ hw)) hHeld (fun a10 e10 => ?_)
  rw [← e10] at h
  have z10 := pz e10 z9
  replace t30 := pk e10 t30
  replace t32 := pk e10 t32
  replace t34 := pk e10 t34
  clear t35
  have t36 := pq e10 z9
  clear e10 z9
  refine wpAnyH_ready (rs := [10]) (by kernel_rfl) (by simp) ?_
  refine AllReadyH.cons (o := step7_o10) rfl (fun K hK => ?_) AllReadyH.nil
  rw [if_pos (by rfl)]
  unfold step7_o10 at hK ⊢
  go_simp
  refine (C).mono ?_
  rintro e x11 ⟨v, rfl, hs, hq⟩
  try go_wp2_with fail
  replace h := h v
  refine hK.out _ _ (hs) (fun hHeld => ?_)
  clear hK K
  change wpAnyH _ _ _ _ _ _ _ (a10.put (some 37) (v)) _
  obtain ⟨a11, e11⟩ : ∃ act, act = a10.put (some 37) (v) := ⟨_, rfl⟩
  rw [← e11] at h ⊢
  have z11 := pz e11 z10
  clear t30 t32 t34 t36
  have t37 := pq e11 z10
  clear e11 z10
  refine tk 11 step7_o11 (v) (by rfl) (fun w1 hw => exec_assign rfl t37) hHeld (fun a12 e12 => ?_)
  rw [← e12] at h
  have z12 := pz e12 z11
  clear t37
  clear e12 z11
  exact wpAnyH_done (by kernel_rfl) (NoPanic.normal (h _ _ (hq) rfl)) _
def step10_o0 : Oper := ⟨some 54, .move (.tmp 0), 24, "law.go:53", #[], none⟩
def step10_o1 : Oper := ⟨some 55, .nilCheck (.tmp 54), 0, "law.go:53", #[⟨0, .data⟩], none⟩
def step10_o2 : Oper := ⟨some 56, .fieldAddr 32 (.tmp 55) 1, 0, "law.go:53", #[⟨1, .data⟩], none⟩
def step10_o3 : Oper := ⟨some 57, .load 27 (.tmp 56), 27, "law.go:53", #[⟨2, .data⟩], none⟩
def step10_o4 : Oper := ⟨some 58, .fieldAddr 39 (.tmp 3) 1, 0, "law.go:53", #[], none⟩
def step10_o5 : Oper := ⟨some 59, .load 37 (.tmp 58), 37, "law.go:53", #[⟨4, .data⟩], none⟩
def step10_o6 : Oper := ⟨some 60, .fieldAddr 39 (.tmp 3) 2, 0, "law.go:53", #[], none⟩
def step10_o7 : Oper := ⟨some 61, .load 37 (.tmp 60), 37, "law.go:53", #[⟨6, .data⟩], none⟩
def step10_o8 : Oper := ⟨some 62, .fieldAddr 39 (.tmp 3) 3, 0, "law.go:53", #[], none⟩
def step10_o9 : Oper := ⟨some 63, .load 9 (.tmp 62), 9, "law.go:53", #[⟨8, .data⟩], none⟩
def step10_o10 : Oper := ⟨some 64, .call { callee := Callee.value (Operand.func 31), args := #[.tmp 57, .tmp 59, .tmp 61, .tmp 63], argTypes := #[27, 37, 37, 9] }, 46, "law.go:53", #[⟨3, .data⟩, ⟨5, .data⟩, ⟨7, .data⟩, ⟨9, .data⟩], none⟩
def step10_o11 : Oper := ⟨some 7, .assign (.tmp 64), 46, "law.go:53", #[⟨10, .data⟩, ⟨10, .chain⟩, ⟨0, .phase⟩, ⟨1, .phase⟩, ⟨2, .phase⟩, ⟨3, .phase⟩, ⟨4, .phase⟩, ⟨5, .phase⟩, ⟨6, .phase⟩, ⟨7, .phase⟩, ⟨8, .phase⟩, ⟨9, .phase⟩, ⟨10, .phase⟩], none⟩
def step10_ops : Array Oper := #[step10_o0, step10_o1, step10_o2, step10_o3, step10_o4, step10_o5, step10_o6, step10_o7, step10_o8, step10_o9, step10_o10, step10_o11]
set_option maxRecDepth 100000 in
set_option maxHeartbeats 4000000 in
theorem step10 (S : World → Prop) (Po : Value → World → Prop) (x bo : Nat) (tv kv uv sv : Value) (a : Act) (w : World) (Q : Exit → Act → World → Prop) (hsz : a.tmps.size = 127)
    (t0 : a.tmps.getD 0 undef = .pointer (some ⟨x, 0, none⟩))
    (t3 : a.tmps.getD 3 undef = .pointer (some ⟨bo, 0, none⟩))
    (h0 : S w.drew)
    (C : Calls Try.prog 31 #[tv, kv, uv, sv] w.drew fun e w' => ∃ v, e = .returned v ∧ S w' ∧ Po v w')
    (G1 : ∀ W, S W → (Instr.loadAt 27 (.pointer (some ⟨x, 0 + 1, none⟩))).run Try.prog W = .ok (tv) W)
    (G2 : ∀ W, S W → (Instr.loadAt 37 (.pointer (some ⟨bo, 0 + 1, none⟩))).run Try.prog W = .ok (kv) W)
    (G3 : ∀ W, S W → (Instr.loadAt 37 (.pointer (some ⟨bo, 0 + 34, none⟩))).run Try.prog W = .ok (uv) W)
    (G4 : ∀ W, S W → (Instr.loadAt 9 (.pointer (some ⟨bo, 0 + 67, none⟩))).run Try.prog W = .ok (sv) W)
    (h : ∀ (v : Value) (a' : Act) (w' : World), Po v w' → a' = ((((((((((((a).put (some 54) (.pointer (some ⟨x, 0, none⟩))).put (some 55) (.pointer (some ⟨x, 0, none⟩))).put (some 56) (.pointer (some ⟨x, 0 + 1, none⟩))).put (some 57) (tv)).put (some 58) (.pointer (some ⟨bo, 0 + 1, none⟩))).put (some 59) (kv)).put (some 60) (.pointer (some ⟨bo, 0 + 34, none⟩))).put (some 61) (uv)).put (some 62) (.pointer (some ⟨bo, 0 + 67, none⟩))).put (some 63) (sv)).put (some 64) (v)).put (some 7) (v) → Q .normal a' w') :
    (Code.region 10 step10_ops true).wp Try.prog Q a w := by
  refine wp_region_noPanic ?_
  refine wp_region_held_drew (S := fun w' => S w') (by kernel_rfl) (h0) (fun hHeld => ?_)
  refine tk 0 step10_o0 (.pointer (some ⟨x, 0, none⟩)) (by rfl) (fun w1 hw => exec_move rfl t0) hHeld (fun a1 e1 => ?_)
  rw [← e1] at h
  have z1 := pz e1 hsz
  replace t3 := pk e1 t3
  clear t0
  have t54 := pq e1 hsz
  clear e1 hsz
  refine tk 1 step10_o1 (.pointer (some ⟨x, 0, none⟩)) (by rfl) (fun w1 hw => exec_nilCheck rfl t54) hHeld (fun a2 e2 => ?_)
  rw [← e2] at h
  have z2 := pz e2 z1
  replace t3 := pk e2 t3
  clear t54
  have t55 := pq e2 z1
  clear e2 z1
  refine tk 2 step10_o2 (.pointer (some ⟨x, 0 + 1, none⟩)) (by rfl) (fun w1 hw => exec_fieldAt rfl t55 (fg_32_1 _ _ _)) hHeld (fun a3 e3 => ?_)
  rw [← e3] at h
  have z3 := pz e3 z2
  replace t3 := pk e3 t3
  clear t55
  have t56 := pq e3 z2
  clear e3 z2
  refine tk 3 step10_o3 (tv) (by rfl) (fun w1 hw => exec_load rfl t56 (G1 _ hw)) hHeld (fun a4 e4 => ?_)
  rw [← e4] at h
  have z4 := pz e4 z3
  replace t3 := pk e4 t3
  clear t56
  have t57 := pq e4 z3
  clear e4 z3
  refine tk 4 step10_o4 (.pointer (some ⟨bo, 0 + 1, none⟩)) (by rfl) (fun w1 hw => exec_fieldAt rfl t3 (fg_39_1 _ _ _)) hHeld (fun a5 e5 => ?_)
  rw [← e5] at h
  have z5 := pz e5 z4
  replace t3 := pk e5 t3
  replace t57 := pk e5 t57
  have t58 := pq e5 z4
  clear e5 z4
  refine tk 5 step10_o5 (kv) (by rfl) (fun w1 hw => exec_load rfl t58 (G2 _ hw)) hHeld (fun a6 e6 => ?_)
  rw [← e6] at h
  have z6 := pz e6 z5
  replace t3 := pk e6 t3
  replace t57 := pk e6 t57
  clear t58
  have t59 := pq e6 z5
  clear e6 z5
  refine tk 6 step10_o6 (.pointer (some ⟨bo, 0 + 34, none⟩)) (by rfl) (fun w1 hw => exec_fieldAt rfl t3 (fg_39_2 _ _ _)) hHeld (fun a7 e7 => ?_)
  rw [← e7] at h
  have z7 := pz e7 z6
  replace t3 := pk e7 t3
  replace t57 := pk e7 t57
  replace t59 := pk e7 t59
  have t60 := pq e7 z6
  clear e7 z6
  refine tk 7 step10_o7 (uv) (by rfl) (fun w1 hw => exec_load rfl t60 (G3 _ hw)) hHeld (fun a8 e8 => ?_)
  rw [← e8] at h
  have z8 := pz e8 z7
  replace t3 := pk e8 t3
  replace t57 := pk e8 t57
  replace t59 := pk e8 t59
  clear t60
  have t61 := pq e8 z7
  clear e8 z7
  refine tk 8 step10_o8 (.pointer (some ⟨bo, 0 + 67, none⟩)) (by rfl) (fun w1 hw => exec_fieldAt rfl t3 (fg_39_3 _ _ _)) hHeld (fun a9 e9 => ?_)
  rw [← e9] at h
  have z9 := pz e9 z8
  replace t57 := pk e9 t57
  replace t59 := pk e9 t59
  replace t61 := pk e9 t61
  clear t3
  have t62 := pq e9 z8
  clear e9 z8
  refine tk 9 step10_o9 (sv) (by rfl) (fun w1 hw => exec_load rfl t62 (G4 _ hw)) hHeld (fun a10 e10 => ?_)
  rw [← e10] at h
  have z10 := pz e10 z9
  replace t57 := pk e10 t57
  replace t59 := pk e10 t59
  replace t61 := pk e10 t61
  clear t62
  have t63 := pq e10 z9
  clear e10 z9
  refine wpAnyH_ready (rs := [10]) (by kernel_rfl) (by simp) ?_
  refine AllReadyH.cons (o := step10_o10) rfl (fun K hK => ?_) AllReadyH.nil
  rw [if_pos (by rfl)]
  unfold step10_o10 at hK ⊢
  go_simp
  refine (C).mono ?_
  rintro e x11 ⟨v, rfl, hs, hq⟩
  try go_wp2_with fail
  replace h := h v
  refine hK.out _ _ (hs) (fun hHeld => ?_)
  clear hK K
  change wpAnyH _ _ _ _ _ _ _ (a10.put (some 64) (v)) _
  obtain ⟨a11, e11⟩ : ∃ act, act = a10.put (some 64) (v) := ⟨_, rfl⟩
  rw [← e11] at h ⊢
  have z11 := pz e11 z10
  clear t57 t59 t61 t63
  have t64 := pq e11 z10
  clear e11 z10
  refine tk 11 step10_o11 (v) (by rfl) (fun w1 hw => exec_assign rfl t64) hHeld (fun a12 e12 => ?_)
  rw [← e12] at h
  have z12 := pz e12 z11
  clear t64
  clear e12 z11
  exact wpAnyH_done (by kernel_rfl) (NoPanic.normal (h _ _ (hq) rfl)) _
def step12_o0 : Oper := ⟨some 68, .move (.tmp 0), 24, "law.go:55", #[], none⟩
def step12_o1 : Oper := ⟨some 69, .nilCheck (.tmp 68), 0, "law.go:55", #[⟨0, .data⟩], none⟩
def step12_o2 : Oper := ⟨some 70, .fieldAddr 32 (.tmp 69) 0, 0, "law.go:55", #[⟨1, .data⟩], none⟩
def step12_o3 : Oper := ⟨some 71, .load 25 (.tmp 70), 25, "law.go:55", #[⟨2, .data⟩], none⟩
def step12_o4 : Oper := ⟨some 72, .fieldAddr 39 (.tmp 3) 1, 0, "law.go:55", #[], none⟩
def step12_o5 : Oper := ⟨some 73, .load 37 (.tmp 72), 37, "law.go:55", #[⟨4, .data⟩], none⟩
def step12_o6 : Oper := ⟨some 74, .call { callee := Callee.value (Operand.func 20), args := #[.tmp 71, .tmp 73], argTypes := #[25, 37] }, 47, "law.go:55", #[⟨3, .data⟩, ⟨5, .data⟩], none⟩
def step12_o7 : Oper := ⟨some 67, .move (.tmp 74), 47, "law.go:55", #[⟨6, .data⟩], none⟩
def step12_o8 : Oper := ⟨some 75, .extract (.tmp 67) 0, 45, "law.go:55", #[⟨7, .data⟩], none⟩
def step12_o9 : Oper := ⟨some 76, .extract (.tmp 67) 1, 46, "law.go:55", #[⟨7, .data⟩, { on := 10, ground := Ground.gcOnly Departure.lateStores }], none⟩
def step12_o10 : Oper := ⟨some 5, .assign (.tmp 75), 45, "law.go:55", #[⟨8, .data⟩, ⟨6, .chain⟩, ⟨0, .phase⟩, ⟨1, .phase⟩, ⟨2, .phase⟩, ⟨3, .phase⟩, ⟨4, .phase⟩, ⟨5, .phase⟩, ⟨6, .phase⟩, ⟨7, .phase⟩, ⟨8, .phase⟩, { on := 9, ground := Ground.textOnly Departure.lateStores }], none⟩
def step12_o11 : Oper := ⟨some 6, .assign (.tmp 76), 46, "law.go:55", #[⟨9, .data⟩, ⟨10, .chain⟩, ⟨0, .phase⟩, ⟨1, .phase⟩, ⟨2, .phase⟩, ⟨3, .phase⟩, ⟨4, .phase⟩, ⟨5, .phase⟩, ⟨6, .phase⟩, ⟨7, .phase⟩, ⟨8, .phase⟩, ⟨9, .phase⟩, ⟨10, .phase⟩], none⟩
def step12_ops : Array Oper := #[step12_o0, step12_o1, step12_o2, step12_o3, step12_o4, step12_o5, step12_o6, step12_o7, step12_o8, step12_o9, step12_o10, step12_o11]
set_option maxRecDepth 100000 in
set_option maxHeartbeats 4000000 in
theorem step12 (S : World → Prop) (Po : Value → Value → World → Prop) (x bo : Nat) (tv kv : Value) (a : Act) (w : World) (Q : Exit → Act → World → Prop) (hsz : a.tmps.size = 127)
    (t0 : a.tmps.getD 0 undef = .pointer (some ⟨x, 0, none⟩))
    (t3 : a.tmps.getD 3 undef = .pointer (some ⟨bo, 0, none⟩))
    (h0 : S w.drew)
    (C : Calls Try.prog 20 #[tv, kv] w.drew fun e w' => ∃ t v, e = .returned (.tuple #[t, v]) ∧ S w' ∧ Po t v w')
    (G1 : ∀ W, S W → (Instr.loadAt 25 (.pointer (some ⟨x, 0 + 0, none⟩))).run Try.prog W = .ok (tv) W)
    (G2 : ∀ W, S W → (Instr.loadAt 37 (.pointer (some ⟨bo, 0 + 1, none⟩))).run Try.prog W = .ok (kv) W)
    (h : ∀ (t v : Value) (a' : Act) (w' : World), Po t v w' → a' = ((((((((((((a).put (some 68) (.pointer (some ⟨x, 0, none⟩))).put (some 69) (.pointer (some ⟨x, 0, none⟩))).put (some 70) (.pointer (some ⟨x, 0 + 0, none⟩))).put (some 71) (tv)).put (some 72) (.pointer (some ⟨bo, 0 + 1, none⟩))).put (some 73) (kv)).put (some 74) (.tuple #[t, v])).put (some 67) (.tuple #[t, v])).put (some 75) (t)).put (some 76) (v)).put (some 5) (t)).put (some 6) (v) → Q .normal a' w') :
    (Code.region 12 step12_ops true).wp Try.prog Q a w := by
  refine wp_region_noPanic ?_
  refine wp_region_held_drew (S := fun w' => S w') (by kernel_rfl) (h0) (fun hHeld => ?_)
  refine tk 0 step12_o0 (.pointer (some ⟨x, 0, none⟩)) (by rfl) (fun w1 hw => exec_move rfl t0) hHeld (fun a1 e1 => ?_)
  rw [← e1] at h
  have z1 := pz e1 hsz
  replace t3 := pk e1 t3
  clear t0
  have t68 := pq e1 hsz
  clear e1 hsz
  refine tk 1 step12_o1 (.pointer (some ⟨x, 0, none⟩)) (by rfl) (fun w1 hw => exec_nilCheck rfl t68) hHeld (fun a2 e2 => ?_)
  rw [← e2] at h
  have z2 := pz e2 z1
  replace t3 := pk e2 t3
  clear t68
  have t69 := pq e2 z1
  clear e2 z1
  refine tk 2 step12_o2 (.pointer (some ⟨x, 0 + 0, none⟩)) (by rfl) (fun w1 hw => exec_fieldAt rfl t69 (fg_32_0 _ _ _)) hHeld (fun a3 e3 => ?_)
  rw [← e3] at h
  have z3 := pz e3 z2
  replace t3 := pk e3 t3
  clear t69
  have t70 := pq e3 z2
  clear e3 z2
  refine tk 3 step12_o3 (tv) (by rfl) (fun w1 hw => exec_load rfl t70 (G1 _ hw)) hHeld (fun a4 e4 => ?_)
  rw [← e4] at h
  have z4 := pz e4 z3
  replace t3 := pk e4 t3
  clear t70
  have t71 := pq e4 z3
  clear e4 z3
  refine tk 4 step12_o4 (.pointer (some ⟨bo, 0 + 1, none⟩)) (by rfl) (fun w1 hw => exec_fieldAt rfl t3 (fg_39_1 _ _ _)) hHeld (fun a5 e5 => ?_)
  rw [← e5] at h
  have z5 := pz e5 z4
  replace t71 := pk e5 t71
  clear t3
  have t72 := pq e5 z4
  clear e5 z4
  refine tk 5 step12_o5 (kv) (by rfl) (fun w1 hw => exec_load rfl t72 (G2 _ hw)) hHeld (fun a6 e6 => ?_)
  rw [← e6] at h
  have z6 := pz e6 z5
  replace t71 := pk e6 t71
  clear t72
  have t73 := pq e6 z5
  clear e6 z5
  refine wpAnyH_ready (rs := [6]) (by kernel_rfl) (by simp) ?_
  refine AllReadyH.cons (o := step12_o6) rfl (fun K hK => ?_) AllReadyH.nil
  rw [if_pos (by rfl)]
  unfold step12_o6 at hK ⊢
  go_simp
  refine (C).mono ?_
  rintro e x7 ⟨t, v, rfl, hs, hq⟩
  try go_wp2_with fail
  replace h := h t v
  refine hK.out _ _ (hs) (fun hHeld => ?_)
  clear hK K
  change wpAnyH _ _ _ _ _ _ _ (a6.put (some 74) (.tuple #[t, v])) _
  obtain ⟨a7, e7⟩ : ∃ act, act = a6.put (some 74) (.tuple #[t, v]) := ⟨_, rfl⟩
  rw [← e7] at h ⊢
  have z7 := pz e7 z6
  clear t71 t73
  have t74 := pq e7 z6
  clear e7 z6
  refine tk 7 step12_o7 (.tuple #[t, v]) (by rfl) (fun w1 hw => exec_move rfl t74) hHeld (fun a8 e8 => ?_)
  rw [← e8] at h
  have z8 := pz e8 z7
  clear t74
  have t67 := pq e8 z7
  clear e8 z7
  refine tk 8 step12_o8 (t) (by rfl) (fun w1 hw => exec_extract rfl t67 rfl) hHeld (fun a9 e9 => ?_)
  rw [← e9] at h
  have z9 := pz e9 z8
  replace t67 := pk e9 t67
  have t75 := pq e9 z8
  clear e9 z8
  refine tk 9 step12_o9 (v) (by rfl) (fun w1 hw => exec_extract rfl t67 rfl) hHeld (fun a10 e10 => ?_)
  rw [← e10] at h
  have z10 := pz e10 z9
  replace t75 := pk e10 t75
  clear t67
  have t76 := pq e10 z9
  clear e10 z9
  refine tk 10 step12_o10 (t) (by rfl) (fun w1 hw => exec_assign rfl t75) hHeld (fun a11 e11 => ?_)
  rw [← e11] at h
  have z11 := pz e11 z10
  replace t76 := pk e11 t76
  clear t75
  clear e11 z10
  refine tk 11 step12_o11 (v) (by rfl) (fun w1 hw => exec_assign rfl t76) hHeld (fun a12 e12 => ?_)
  rw [← e12] at h
  have z12 := pz e12 z11
  clear t76
  clear e12 z11
  exact wpAnyH_done (by kernel_rfl) (NoPanic.normal (h _ _ (hq) rfl)) _
def step13_o0 : Oper := ⟨some 77, .move (.tmp 0), 24, "law.go:56", #[], none⟩
def step13_o1 : Oper := ⟨some 78, .nilCheck (.tmp 77), 0, "law.go:56", #[⟨0, .data⟩], none⟩
def step13_o2 : Oper := ⟨some 79, .fieldAddr 32 (.tmp 78) 1, 0, "law.go:56", #[⟨1, .data⟩], none⟩
def step13_o3 : Oper := ⟨some 80, .load 27 (.tmp 79), 27, "law.go:56", #[⟨2, .data⟩], none⟩
def step13_o4 : Oper := ⟨some 81, .fieldAddr 39 (.tmp 3) 1, 0, "law.go:56", #[], none⟩
def step13_o5 : Oper := ⟨some 82, .load 37 (.tmp 81), 37, "law.go:56", #[⟨4, .data⟩], none⟩
def step13_o6 : Oper := ⟨some 83, .call { callee := Callee.value (Operand.func 32), args := #[.tmp 80, .tmp 82], argTypes := #[27, 37] }, 46, "law.go:56", #[⟨3, .data⟩, ⟨5, .data⟩], none⟩
def step13_o7 : Oper := ⟨some 7, .assign (.tmp 83), 46, "law.go:56", #[⟨6, .data⟩, ⟨6, .chain⟩, ⟨0, .phase⟩, ⟨1, .phase⟩, ⟨2, .phase⟩, ⟨3, .phase⟩, ⟨4, .phase⟩, ⟨5, .phase⟩, ⟨6, .phase⟩], none⟩
def step13_ops : Array Oper := #[step13_o0, step13_o1, step13_o2, step13_o3, step13_o4, step13_o5, step13_o6, step13_o7]
set_option maxRecDepth 100000 in
set_option maxHeartbeats 4000000 in
theorem step13 (S : World → Prop) (Po : Value → World → Prop) (x bo : Nat) (tv kv : Value) (a : Act) (w : World) (Q : Exit → Act → World → Prop) (hsz : a.tmps.size = 127)
    (t0 : a.tmps.getD 0 undef = .pointer (some ⟨x, 0, none⟩))
    (t3 : a.tmps.getD 3 undef = .pointer (some ⟨bo, 0, none⟩))
    (h0 : S w.drew)
    (C : Calls Try.prog 32 #[tv, kv] w.drew fun e w' => ∃ v, e = .returned v ∧ S w' ∧ Po v w')
    (G1 : ∀ W, S W → (Instr.loadAt 27 (.pointer (some ⟨x, 0 + 1, none⟩))).run Try.prog W = .ok (tv) W)
    (G2 : ∀ W, S W → (Instr.loadAt 37 (.pointer (some ⟨bo, 0 + 1, none⟩))).run Try.prog W = .ok (kv) W)
    (h : ∀ (v : Value) (a' : Act) (w' : World), Po v w' → a' = ((((((((a).put (some 77) (.pointer (some ⟨x, 0, none⟩))).put (some 78) (.pointer (some ⟨x, 0, none⟩))).put (some 79) (.pointer (some ⟨x, 0 + 1, none⟩))).put (some 80) (tv)).put (some 81) (.pointer (some ⟨bo, 0 + 1, none⟩))).put (some 82) (kv)).put (some 83) (v)).put (some 7) (v) → Q .normal a' w') :
    (Code.region 13 step13_ops true).wp Try.prog Q a w := by
  refine wp_region_noPanic ?_
  refine wp_region_held_drew (S := fun w' => S w') (by kernel_rfl) (h0) (fun hHeld => ?_)
  refine tk 0 step13_o0 (.pointer (some ⟨x, 0, none⟩)) (by rfl) (fun w1 hw => exec_move rfl t0) hHeld (fun a1 e1 => ?_)
  rw [← e1] at h
  have z1 := pz e1 hsz
  replace t3 := pk e1 t3
  clear t0
  have t77 := pq e1 hsz
  clear e1 hsz
  refine tk 1 step13_o1 (.pointer (some ⟨x, 0, none⟩)) (by rfl) (fun w1 hw => exec_nilCheck rfl t77) hHeld (fun a2 e2 => ?_)
  rw [← e2] at h
  have z2 := pz e2 z1
  replace t3 := pk e2 t3
  clear t77
  have t78 := pq e2 z1
  clear e2 z1
  refine tk 2 step13_o2 (.pointer (some ⟨x, 0 + 1, none⟩)) (by rfl) (fun w1 hw => exec_fieldAt rfl t78 (fg_32_1 _ _ _)) hHeld (fun a3 e3 => ?_)
  rw [← e3] at h
  have z3 := pz e3 z2
  replace t3 := pk e3 t3
  clear t78
  have t79 := pq e3 z2
  clear e3 z2
  refine tk 3 step13_o3 (tv) (by rfl) (fun w1 hw => exec_load rfl t79 (G1 _ hw)) hHeld (fun a4 e4 => ?_)
  rw [← e4] at h
  have z4 := pz e4 z3
  replace t3 := pk e4 t3
  clear t79
  have t80 := pq e4 z3
  clear e4 z3
  refine tk 4 step13_o4 (.pointer (some ⟨bo, 0 + 1, none⟩)) (by rfl) (fun w1 hw => exec_fieldAt rfl t3 (fg_39_1 _ _ _)) hHeld (fun a5 e5 => ?_)
  rw [← e5] at h
  have z5 := pz e5 z4
  replace t80 := pk e5 t80
  clear t3
  have t81 := pq e5 z4
  clear e5 z4
  refine tk 5 step13_o5 (kv) (by rfl) (fun w1 hw => exec_load rfl t81 (G2 _ hw)) hHeld (fun a6 e6 => ?_)
  rw [← e6] at h
  have z6 := pz e6 z5
  replace t80 := pk e6 t80
  clear t81
  have t82 := pq e6 z5
  clear e6 z5
  refine wpAnyH_ready (rs := [6]) (by kernel_rfl) (by simp) ?_
  refine AllReadyH.cons (o := step13_o6) rfl (fun K hK => ?_) AllReadyH.nil
  rw [if_pos (by rfl)]
  unfold step13_o6 at hK ⊢
  go_simp
  refine (C).mono ?_
  rintro e x7 ⟨v, rfl, hs, hq⟩
  try go_wp2_with fail
  replace h := h v
  refine hK.out _ _ (hs) (fun hHeld => ?_)
  clear hK K
  change wpAnyH _ _ _ _ _ _ _ (a6.put (some 83) (v)) _
  obtain ⟨a7, e7⟩ : ∃ act, act = a6.put (some 83) (v) := ⟨_, rfl⟩
  rw [← e7] at h ⊢
  have z7 := pz e7 z6
  clear t80 t82
  have t83 := pq e7 z6
  clear e7 z6
  refine tk 7 step13_o7 (v) (by rfl) (fun w1 hw => exec_assign rfl t83) hHeld (fun a8 e8 => ?_)
  rw [← e8] at h
  have z8 := pz e8 z7
  clear t83
  clear e8 z7
  exact wpAnyH_done (by kernel_rfl) (NoPanic.normal (h _ _ (hq) rfl)) _
def undo5_o0 : Oper := ⟨some 28, .move (.tmp 0), 24, "law.go:79", #[], none⟩
def undo5_o1 : Oper := ⟨some 29, .nilCheck (.tmp 28), 0, "law.go:79", #[⟨0, .data⟩], none⟩
def undo5_o2 : Oper := ⟨some 30, .fieldAddr 32 (.tmp 29) 0, 0, "law.go:79", #[⟨1, .data⟩], none⟩
def undo5_o3 : Oper := ⟨some 31, .load 25 (.tmp 30), 25, "law.go:79", #[⟨2, .data⟩], none⟩
def undo5_o4 : Oper := ⟨some 32, .move (.tmp 0), 24, "law.go:79", #[], none⟩
def undo5_o5 : Oper := ⟨some 33, .nilCheck (.tmp 32), 0, "law.go:79", #[⟨4, .data⟩], none⟩
def undo5_o6 : Oper := ⟨some 34, .fieldAddr 32 (.tmp 33) 2, 0, "law.go:79", #[⟨5, .data⟩], none⟩
def undo5_o7 : Oper := ⟨some 35, .load 29 (.tmp 34), 29, "law.go:79", #[⟨6, .data⟩], none⟩
def undo5_o8 : Oper := ⟨some 36, .move (.tmp 1), 3, "law.go:79", #[], none⟩
def undo5_o9 : Oper := ⟨some 37, .indexAddr 29 (.tmp 35) (.tmp 36), 0, "law.go:79", #[⟨7, .data⟩, ⟨8, .data⟩], none⟩
def undo5_o10 : Oper := ⟨some 38, .load 45 (.tmp 37), 45, "law.go:79", #[⟨9, .data⟩], none⟩
def undo5_o11 : Oper := ⟨some 39, .call { callee := Callee.value (Operand.func 18), args := #[.tmp 31, .tmp 38], argTypes := #[25, 45] }, 46, "law.go:79", #[⟨3, .data⟩, ⟨10, .data⟩], none⟩
def undo5_o12 : Oper := ⟨some 5, .assign (.tmp 39), 46, "law.go:79", #[⟨11, .data⟩, ⟨11, .chain⟩, ⟨0, .phase⟩, ⟨1, .phase⟩, ⟨2, .phase⟩, ⟨3, .phase⟩, ⟨4, .phase⟩, ⟨5, .phase⟩, ⟨6, .phase⟩, ⟨7, .phase⟩, ⟨8, .phase⟩, ⟨9, .phase⟩, ⟨10, .phase⟩, ⟨11, .phase⟩], none⟩
def undo5_ops : Array Oper := #[undo5_o0, undo5_o1, undo5_o2, undo5_o3, undo5_o4, undo5_o5, undo5_o6, undo5_o7, undo5_o8, undo5_o9, undo5_o10, undo5_o11, undo5_o12]
set_option maxRecDepth 100000 in
set_option maxHeartbeats 4000000 in
theorem undo5 (S : World → Prop) (Po : Value → World → Prop) (x b p : Nat) (tv lv iv ev : Value) (a : Act) (w : World) (Q : Exit → Act → World → Prop) (hsz : a.tmps.size = 63)
    (t0 : a.tmps.getD 0 undef = .pointer (some ⟨x, 0, none⟩))
    (t1 : a.tmps.getD 1 undef = iv)
    (h0 : S w.drew)
    (C : Calls Try.prog 18 #[tv, ev] w.drew fun e w' => ∃ v, e = .returned v ∧ S w' ∧ Po v w')
    (G1 : ∀ W, S W → (Instr.loadAt 25 (.pointer (some ⟨x, 0 + 0, none⟩))).run Try.prog W = .ok (tv) W)
    (G2 : ∀ W, S W → (Instr.loadAt 29 (.pointer (some ⟨x, 0 + 2, none⟩))).run Try.prog W = .ok (lv) W)
    (G3 : ∀ W, (Instr.indexAt 29 (lv) (iv)).run Try.prog W = .ok (.pointer (some ⟨b, p, none⟩)) W)
    (G4 : ∀ W, S W → (Instr.loadAt 45 (.pointer (some ⟨b, p, none⟩))).run Try.prog W = .ok (ev) W)
    (h : ∀ (v : Value) (a' : Act) (w' : World), Po v w' → a' = (((((((((((((a).put (some 28) (.pointer (some ⟨x, 0, none⟩))).put (some 29) (.pointer (some ⟨x, 0, none⟩))).put (some 30) (.pointer (some ⟨x, 0 + 0, none⟩))).put (some 31) (tv)).put (some 32) (.pointer (some ⟨x, 0, none⟩))).put (some 33) (.pointer (some ⟨x, 0, none⟩))).put (some 34) (.pointer (some ⟨x, 0 + 2, none⟩))).put (some 35) (lv)).put (some 36) (iv)).put (some 37) (.pointer (some ⟨b, p, none⟩))).put (some 38) (ev)).put (some 39) (v)).put (some 5) (v) → Q .normal a' w') :
    (Code.region 5 undo5_ops true).wp Try.prog Q a w := by
  refine wp_region_noPanic ?_
  refine wp_region_held_drew (S := fun w' => S w') (by kernel_rfl) (h0) (fun hHeld => ?_)
  refine tk 0 undo5_o0 (.pointer (some ⟨x, 0, none⟩)) (by rfl) (fun w1 hw => exec_move rfl t0) hHeld (fun a1 e1 => ?_)
  rw [← e1] at h
  have z1 := pz e1 hsz
  replace t0 := pk e1 t0
  replace t1 := pk e1 t1
  have t28 := pq e1 hsz
  clear e1 hsz
  refine tk 1 undo5_o1 (.pointer (some ⟨x, 0, none⟩)) (by rfl) (fun w1 hw => exec_nilCheck rfl t28) hHeld (fun a2 e2 => ?_)
  rw [← e2] at h
  have z2 := pz e2 z1
  replace t0 := pk e2 t0
  replace t1 := pk e2 t1
  clear t28
  have t29 := pq e2 z1
  clear e2 z1
  refine tk 2 undo5_o2 (.pointer (some ⟨x, 0 + 0, none⟩)) (by rfl) (fun w1 hw => exec_fieldAt rfl t29 (fg_32_0 _ _ _)) hHeld (fun a3 e3 => ?_)
  rw [← e3] at h
  have z3 := pz e3 z2
  replace t0 := pk e3 t0
  replace t1 := pk e3 t1
  clear t29
  have t30 := pq e3 z2
  clear e3 z2
  refine tk 3 undo5_o3 (tv) (by rfl) (fun w1 hw => exec_load rfl t30 (G1 _ hw)) hHeld (fun a4 e4 => ?_)
  rw [← e4] at h
  have z4 := pz e4 z3
  replace t0 := pk e4 t0
  replace t1 := pk e4 t1
  clear t30
  have t31 := pq e4 z3
  clear e4 z3
  refine tk 4 undo5_o4 (.pointer (some ⟨x, 0, none⟩)) (by rfl) (fun w1 hw => exec_move rfl t0) hHeld (fun a5 e5 => ?_)
  rw [← e5] at h
  have z5 := pz e5 z4
  replace t1 := pk e5 t1
  replace t31 := pk e5 t31
  clear t0
  have t32 := pq e5 z4
  clear e5 z4
  refine tk 5 undo5_o5 (.pointer (some ⟨x, 0, none⟩)) (by rfl) (fun w1 hw => exec_nilCheck rfl t32) hHeld (fun a6 e6 => ?_)
  rw [← e6] at h
  have z6 := pz e6 z5
  replace t1 := pk e6 t1
  replace t31 := pk e6 t31
  clear t32
  have t33 := pq e6 z5
  clear e6 z5
  refine tk 6 undo5_o6 (.pointer (some ⟨x, 0 + 2, none⟩)) (by rfl) (fun w1 hw => exec_fieldAt rfl t33 (fg_32_2 _ _ _)) hHeld (fun a7 e7 => ?_)
  rw [← e7] at h
  have z7 := pz e7 z6
  replace t1 := pk e7 t1
  replace t31 := pk e7 t31
  clear t33
  have t34 := pq e7 z6
  clear e7 z6
  refine tk 7 undo5_o7 (lv) (by rfl) (fun w1 hw => exec_load rfl t34 (G2 _ hw)) hHeld (fun a8 e8 => ?_)
  rw [← e8] at h
  have z8 := pz e8 z7
  replace t1 := pk e8 t1
  replace t31 := pk e8 t31
  clear t34
  have t35 := pq e8 z7
  clear e8 z7
  refine tk 8 undo5_o8 (iv) (by rfl) (fun w1 hw => exec_move rfl t1) hHeld (fun a9 e9 => ?_)
  rw [← e9] at h
  have z9 := pz e9 z8
  replace t31 := pk e9 t31
  replace t35 := pk e9 t35
  clear t1
  have t36 := pq e9 z8
  clear e9 z8
  refine tk 9 undo5_o9 (.pointer (some ⟨b, p, none⟩)) (by rfl) (fun w1 hw => exec_indexAt rfl t35 t36 (G3 _)) hHeld (fun a10 e10 => ?_)
  rw [← e10] at h
  have z10 := pz e10 z9
  replace t31 := pk e10 t31
  clear t35 t36
  have t37 := pq e10 z9
  clear e10 z9
  refine tk 10 undo5_o10 (ev) (by rfl) (fun w1 hw => exec_load rfl t37 (G4 _ hw)) hHeld (fun a11 e11 => ?_)
  rw [← e11] at h
  have z11 := pz e11 z10
  replace t31 := pk e11 t31
  clear t37
  have t38 := pq e11 z10
  clear e11 z10
  refine wpAnyH_ready (rs := [11]) (by kernel_rfl) (by simp) ?_
  refine AllReadyH.cons (o := undo5_o11) rfl (fun K hK => ?_) AllReadyH.nil
  rw [if_pos (by rfl)]
  unfold undo5_o11 at hK ⊢
  go_simp
  refine (C).mono ?_
  rintro e x12 ⟨v, rfl, hs, hq⟩
  try go_wp2_with fail
  replace h := h v
  refine hK.out _ _ (hs) (fun hHeld => ?_)
  clear hK K
  change wpAnyH _ _ _ _ _ _ _ (a11.put (some 39) (v)) _
  obtain ⟨a12, e12⟩ : ∃ act, act = a11.put (some 39) (v) := ⟨_, rfl⟩
  rw [← e12] at h ⊢
  have z12 := pz e12 z11
  clear t31 t38
  have t39 := pq e12 z11
  clear e12 z11
  refine tk 12 undo5_o12 (v) (by rfl) (fun w1 hw => exec_assign rfl t39) hHeld (fun a13 e13 => ?_)
  rw [← e13] at h
  have z13 := pz e13 z12
  clear t39
  clear e13 z12
  exact wpAnyH_done (by kernel_rfl) (NoPanic.normal (h _ _ (hq) rfl)) _
def undo6_o0 : Oper := ⟨some 40, .move (.tmp 0), 24, "law.go:80", #[], none⟩
def undo6_o1 : Oper := ⟨some 41, .nilCheck (.tmp 40), 0, "law.go:80", #[⟨0, .data⟩], none⟩
def undo6_o2 : Oper := ⟨some 42, .fieldAddr 32 (.tmp 41) 1, 0, "law.go:80", #[⟨1, .data⟩], none⟩
def undo6_o3 : Oper := ⟨some 43, .load 27 (.tmp 42), 27, "law.go:80", #[⟨2, .data⟩], none⟩
def undo6_o4 : Oper := ⟨some 44, .move (.tmp 0), 24, "law.go:80", #[], none⟩
def undo6_o5 : Oper := ⟨some 45, .nilCheck (.tmp 44), 0, "law.go:80", #[⟨4, .data⟩], none⟩
def undo6_o6 : Oper := ⟨some 46, .fieldAddr 32 (.tmp 45) 3, 0, "law.go:80", #[⟨5, .data⟩], none⟩
def undo6_o7 : Oper := ⟨some 47, .load 30 (.tmp 46), 30, "law.go:80", #[⟨6, .data⟩], none⟩
def undo6_o8 : Oper := ⟨some 48, .move (.tmp 1), 3, "law.go:80", #[], none⟩
def undo6_o9 : Oper := ⟨some 49, .indexAddr 30 (.tmp 47) (.tmp 48), 0, "law.go:80", #[⟨7, .data⟩, ⟨8, .data⟩], none⟩
def undo6_o10 : Oper := ⟨some 50, .load 3 (.tmp 49), 3, "law.go:80", #[⟨9, .data⟩], none⟩
def undo6_o11 : Oper := ⟨some 51, .call { callee := Callee.value (Operand.func 72), args := #[.tmp 43, .tmp 50], argTypes := #[27, 3] }, 46, "law.go:80", #[⟨3, .data⟩, ⟨10, .data⟩], none⟩
def undo6_o12 : Oper := ⟨some 6, .assign (.tmp 51), 46, "law.go:80", #[⟨11, .data⟩, ⟨11, .chain⟩, ⟨0, .phase⟩, ⟨1, .phase⟩, ⟨2, .phase⟩, ⟨3, .phase⟩, ⟨4, .phase⟩, ⟨5, .phase⟩, ⟨6, .phase⟩, ⟨7, .phase⟩, ⟨8, .phase⟩, ⟨9, .phase⟩, ⟨10, .phase⟩, ⟨11, .phase⟩], none⟩
def undo6_ops : Array Oper := #[undo6_o0, undo6_o1, undo6_o2, undo6_o3, undo6_o4, undo6_o5, undo6_o6, undo6_o7, undo6_o8, undo6_o9, undo6_o10, undo6_o11, undo6_o12]
set_option maxRecDepth 100000 in
set_option maxHeartbeats 4000000 in
theorem undo6 (S : World → Prop) (Po : Value → World → Prop) (x b p : Nat) (tv lv iv ev : Value) (a : Act) (w : World) (Q : Exit → Act → World → Prop) (hsz : a.tmps.size = 63)
    (t0 : a.tmps.getD 0 undef = .pointer (some ⟨x, 0, none⟩))
    (t1 : a.tmps.getD 1 undef = iv)
    (h0 : S w.drew)
    (C : Calls Try.prog 72 #[tv, ev] w.drew fun e w' => ∃ v, e = .returned v ∧ S w' ∧ Po v w')
    (G1 : ∀ W, S W → (Instr.loadAt 27 (.pointer (some ⟨x, 0 + 1, none⟩))).run Try.prog W = .ok (tv) W)
    (G2 : ∀ W, S W → (Instr.loadAt 30 (.pointer (some ⟨x, 0 + 3, none⟩))).run Try.prog W = .ok (lv) W)
    (G3 : ∀ W, (Instr.indexAt 30 (lv) (iv)).run Try.prog W = .ok (.pointer (some ⟨b, p, none⟩)) W)
    (G4 : ∀ W, S W → (Instr.loadAt 3 (.pointer (some ⟨b, p, none⟩))).run Try.prog W = .ok (ev) W)
    (h : ∀ (v : Value) (a' : Act) (w' : World), Po v w' → a' = (((((((((((((a).put (some 40) (.pointer (some ⟨x, 0, none⟩))).put (some 41) (.pointer (some ⟨x, 0, none⟩))).put (some 42) (.pointer (some ⟨x, 0 + 1, none⟩))).put (some 43) (tv)).put (some 44) (.pointer (some ⟨x, 0, none⟩))).put (some 45) (.pointer (some ⟨x, 0, none⟩))).put (some 46) (.pointer (some ⟨x, 0 + 3, none⟩))).put (some 47) (lv)).put (some 48) (iv)).put (some 49) (.pointer (some ⟨b, p, none⟩))).put (some 50) (ev)).put (some 51) (v)).put (some 6) (v) → Q .normal a' w') :
    (Code.region 6 undo6_ops true).wp Try.prog Q a w := by
  refine wp_region_noPanic ?_
  refine wp_region_held_drew (S := fun w' => S w') (by kernel_rfl) (h0) (fun hHeld => ?_)
  refine tk 0 undo6_o0 (.pointer (some ⟨x, 0, none⟩)) (by rfl) (fun w1 hw => exec_move rfl t0) hHeld (fun a1 e1 => ?_)
  rw [← e1] at h
  have z1 := pz e1 hsz
  replace t0 := pk e1 t0
  replace t1 := pk e1 t1
  have t40 := pq e1 hsz
  clear e1 hsz
  refine tk 1 undo6_o1 (.pointer (some ⟨x, 0, none⟩)) (by rfl) (fun w1 hw => exec_nilCheck rfl t40) hHeld (fun a2 e2 => ?_)
  rw [← e2] at h
  have z2 := pz e2 z1
  replace t0 := pk e2 t0
  replace t1 := pk e2 t1
  clear t40
  have t41 := pq e2 z1
  clear e2 z1
  refine tk 2 undo6_o2 (.pointer (some ⟨x, 0 + 1, none⟩)) (by rfl) (fun w1 hw => exec_fieldAt rfl t41 (fg_32_1 _ _ _)) hHeld (fun a3 e3 => ?_)
  rw [← e3] at h
  have z3 := pz e3 z2
  replace t0 := pk e3 t0
  replace t1 := pk e3 t1
  clear t41
  have t42 := pq e3 z2
  clear e3 z2
  refine tk 3 undo6_o3 (tv) (by rfl) (fun w1 hw => exec_load rfl t42 (G1 _ hw)) hHeld (fun a4 e4 => ?_)
  rw [← e4] at h
  have z4 := pz e4 z3
  replace t0 := pk e4 t0
  replace t1 := pk e4 t1
  clear t42
  have t43 := pq e4 z3
  clear e4 z3
  refine tk 4 undo6_o4 (.pointer (some ⟨x, 0, none⟩)) (by rfl) (fun w1 hw => exec_move rfl t0) hHeld (fun a5 e5 => ?_)
  rw [← e5] at h
  have z5 := pz e5 z4
  replace t1 := pk e5 t1
  replace t43 := pk e5 t43
  clear t0
  have t44 := pq e5 z4
  clear e5 z4
  refine tk 5 undo6_o5 (.pointer (some ⟨x, 0, none⟩)) (by rfl) (fun w1 hw => exec_nilCheck rfl t44) hHeld (fun a6 e6 => ?_)
  rw [← e6] at h
  have z6 := pz e6 z5
  replace t1 := pk e6 t1
  replace t43 := pk e6 t43
  clear t44
  have t45 := pq e6 z5
  clear e6 z5
  refine tk 6 undo6_o6 (.pointer (some ⟨x, 0 + 3, none⟩)) (by rfl) (fun w1 hw => exec_fieldAt rfl t45 (fg_32_3 _ _ _)) hHeld (fun a7 e7 => ?_)
  rw [← e7] at h
  have z7 := pz e7 z6
  replace t1 := pk e7 t1
  replace t43 := pk e7 t43
  clear t45
  have t46 := pq e7 z6
  clear e7 z6
  refine tk 7 undo6_o7 (lv) (by rfl) (fun w1 hw => exec_load rfl t46 (G2 _ hw)) hHeld (fun a8 e8 => ?_)
  rw [← e8] at h
  have z8 := pz e8 z7
  replace t1 := pk e8 t1
  replace t43 := pk e8 t43
  clear t46
  have t47 := pq e8 z7
  clear e8 z7
  refine tk 8 undo6_o8 (iv) (by rfl) (fun w1 hw => exec_move rfl t1) hHeld (fun a9 e9 => ?_)
  rw [← e9] at h
  have z9 := pz e9 z8
  replace t43 := pk e9 t43
  replace t47 := pk e9 t47
  clear t1
  have t48 := pq e9 z8
  clear e9 z8
  refine tk 9 undo6_o9 (.pointer (some ⟨b, p, none⟩)) (by rfl) (fun w1 hw => exec_indexAt rfl t47 t48 (G3 _)) hHeld (fun a10 e10 => ?_)
  rw [← e10] at h
  have z10 := pz e10 z9
  replace t43 := pk e10 t43
  clear t47 t48
  have t49 := pq e10 z9
  clear e10 z9
  refine tk 10 undo6_o10 (ev) (by rfl) (fun w1 hw => exec_load rfl t49 (G4 _ hw)) hHeld (fun a11 e11 => ?_)
  rw [← e11] at h
  have z11 := pz e11 z10
  replace t43 := pk e11 t43
  clear t49
  have t50 := pq e11 z10
  clear e11 z10
  refine wpAnyH_ready (rs := [11]) (by kernel_rfl) (by simp) ?_
  refine AllReadyH.cons (o := undo6_o11) rfl (fun K hK => ?_) AllReadyH.nil
  rw [if_pos (by rfl)]
  unfold undo6_o11 at hK ⊢
  go_simp
  refine (C).mono ?_
  rintro e x12 ⟨v, rfl, hs, hq⟩
  try go_wp2_with fail
  replace h := h v
  refine hK.out _ _ (hs) (fun hHeld => ?_)
  clear hK K
  change wpAnyH _ _ _ _ _ _ _ (a11.put (some 51) (v)) _
  obtain ⟨a12, e12⟩ : ∃ act, act = a11.put (some 51) (v) := ⟨_, rfl⟩
  rw [← e12] at h ⊢
  have z12 := pz e12 z11
  clear t43 t50
  have t51 := pq e12 z11
  clear e12 z11
  refine tk 12 undo6_o12 (v) (by rfl) (fun w1 hw => exec_assign rfl t51) hHeld (fun a13 e13 => ?_)
  rw [← e13] at h
  have z13 := pz e13 z12
  clear t51
  clear e13 z12
  exact wpAnyH_done (by kernel_rfl) (NoPanic.normal (h _ _ (hq) rfl)) _
def last4f_o0 : Oper := ⟨some 13, .move (.tmp 0), 24, "law.go:90", #[], none⟩
def last4f_o1 : Oper := ⟨some 14, .nilCheck (.tmp 13), 0, "law.go:90", #[⟨0, .data⟩], none⟩
def last4f_o2 : Oper := ⟨some 15, .fieldAddr 32 (.tmp 14) 3, 0, "law.go:90", #[⟨1, .data⟩], none⟩
def last4f_o3 : Oper := ⟨some 16, .load 30 (.tmp 15), 30, "law.go:90", #[⟨2, .data⟩], none⟩
def last4f_o4 : Oper := ⟨some 17, .move (.tmp 3), 3, "law.go:90", #[], none⟩
def last4f_o5 : Oper := ⟨some 18, .indexAddr 30 (.tmp 16) (.tmp 17), 0, "law.go:90", #[⟨3, .data⟩, ⟨4, .data⟩], none⟩
def last4f_o6 : Oper := ⟨some 19, .load 3 (.tmp 18), 3, "law.go:90", #[⟨5, .data⟩], none⟩
def last4f_o7 : Oper := ⟨some 20, .binOp BinOp.gtr 3 (.tmp 19) (Operand.const (Value.int IntKind.i64 0)) 3, 4, "law.go:90", #[⟨6, .data⟩], none⟩
def last4f_o8 : Oper := ⟨some 21, .move (.tmp 20), 4, "law.go:90", #[⟨7, .data⟩], none⟩
def last4f_o9 : Oper := ⟨some 22, .move (.tmp 0), 24, "law.go:90", #[⟨8, .guard⟩], some (8, true)⟩
def last4f_o10 : Oper := ⟨some 23, .nilCheck (.tmp 22), 0, "law.go:90", #[⟨9, .data⟩, ⟨8, .guard⟩], some (8, true)⟩
def last4f_o11 : Oper := ⟨some 24, .fieldAddr 32 (.tmp 23) 3, 0, "law.go:90", #[⟨10, .data⟩, ⟨8, .guard⟩], some (8, true)⟩
def last4f_o12 : Oper := ⟨some 25, .load 30 (.tmp 24), 30, "law.go:90", #[⟨11, .data⟩, ⟨8, .guard⟩], some (8, true)⟩
def last4f_o13 : Oper := ⟨some 26, .move (.tmp 3), 3, "law.go:90", #[⟨8, .guard⟩], some (8, true)⟩
def last4f_o14 : Oper := ⟨some 27, .indexAddr 30 (.tmp 25) (.tmp 26), 0, "law.go:90", #[⟨12, .data⟩, ⟨13, .data⟩, ⟨8, .guard⟩], some (8, true)⟩
def last4f_o15 : Oper := ⟨some 28, .load 3 (.tmp 27), 3, "law.go:90", #[⟨14, .data⟩, ⟨8, .guard⟩], some (8, true)⟩
def last4f_o16 : Oper := ⟨some 29, .move (.tmp 0), 24, "law.go:90", #[⟨8, .guard⟩], some (8, true)⟩
def last4f_o17 : Oper := ⟨some 30, .nilCheck (.tmp 29), 0, "law.go:90", #[⟨16, .data⟩, ⟨8, .guard⟩], some (8, true)⟩
def last4f_o18 : Oper := ⟨some 31, .fieldAddr 32 (.tmp 30) 1, 0, "law.go:90", #[⟨17, .data⟩, ⟨8, .guard⟩], some (8, true)⟩
def last4f_o19 : Oper := ⟨some 32, .load 27 (.tmp 31), 27, "law.go:90", #[⟨18, .data⟩, ⟨8, .guard⟩], some (8, true)⟩
def last4f_o20 : Oper := ⟨some 33, .call { callee := Callee.value (Operand.func 33), args := #[.tmp 32], argTypes := #[27] }, 3, "law.go:90", #[⟨19, .data⟩, ⟨8, .chain⟩, ⟨8, .guard⟩], some (8, true)⟩
def last4f_o21 : Oper := ⟨some 34, .binOp BinOp.eql 3 (.tmp 28) (.tmp 33) 3, 4, "law.go:90", #[⟨15, .data⟩, ⟨20, .data⟩, ⟨8, .guard⟩], some (8, true)⟩
def last4f_o22 : Oper := ⟨some 35, .pick (.tmp 21) (.tmp 34) (Operand.const (Value.bool false)), 4, "law.go:90", #[⟨8, .data⟩, ⟨21, .data⟩], none⟩
def last4f_ops : Array Oper := #[last4f_o0, last4f_o1, last4f_o2, last4f_o3, last4f_o4, last4f_o5, last4f_o6, last4f_o7, last4f_o8, last4f_o9, last4f_o10, last4f_o11, last4f_o12, last4f_o13, last4f_o14, last4f_o15, last4f_o16, last4f_o17, last4f_o18, last4f_o19, last4f_o20, last4f_o21, last4f_o22]
set_option maxRecDepth 100000 in
set_option maxHeartbeats 4000000 in
theorem last4f (S : World → Prop) (x b p : Nat) (lv iv zv : Value) (a : Act) (w : World) (Q : Exit → Act → World → Prop) (hsz : a.tmps.size = 37)
    (t0 : a.tmps.getD 0 undef = .pointer (some ⟨x, 0, none⟩))
    (t3 : a.tmps.getD 3 undef = iv)
    (h0 : S w.drew)
    (G1 : ∀ W, S W → (Instr.loadAt 30 (.pointer (some ⟨x, 0 + 3, none⟩))).run Try.prog W = .ok (lv) W)
    (G2 : ∀ W, (Instr.indexAt 30 (lv) (iv)).run Try.prog W = .ok (.pointer (some ⟨b, p, none⟩)) W)
    (G3 : ∀ W, S W → (Instr.loadAt 3 (.pointer (some ⟨b, p, none⟩))).run Try.prog W = .ok (zv) W)
    (G4 : ∀ W, (eqGuard BinOp.gtr 3 (Operand.tmp 19) (Operand.const (Value.int IntKind.i64 0)) (zv) (.int .i64 0)).run Try.prog W = .ok () W)
    (G5 : ∀ W, S W → (binOp BinOp.gtr 3 (zv) (.int .i64 0)).run Try.prog W = .ok (.bool false) W)
    (h : ∀ (a' : Act) (w' : World), S w' → a' = (((((((((((((((((((((((a).put (some 13) (.pointer (some ⟨x, 0, none⟩))).put (some 14) (.pointer (some ⟨x, 0, none⟩))).put (some 15) (.pointer (some ⟨x, 0 + 3, none⟩))).put (some 16) (lv)).put (some 17) (iv)).put (some 18) (.pointer (some ⟨b, p, none⟩))).put (some 19) (zv)).put (some 20) (.bool false)).put (some 21) (.bool false)).put (some 22) (undef)).put (some 23) (undef)).put (some 24) (undef)).put (some 25) (undef)).put (some 26) (undef)).put (some 27) (undef)).put (some 28) (undef)).put (some 29) (undef)).put (some 30) (undef)).put (some 31) (undef)).put (some 32) (undef)).put (some 33) (undef)).put (some 34) (undef)).put (some 35) (.bool false) → Q .normal a' w') :
    (Code.region 4 last4f_ops true).wp Try.prog Q a w := by
  refine wp_region_noPanic ?_
  refine wp_region_held_drew (S := fun w' => S w') (by kernel_rfl) (h0) (fun hHeld => ?_)
  refine tk 0 last4f_o0 (.pointer (some ⟨x, 0, none⟩)) (by rfl) (fun w1 hw => exec_move rfl t0) hHeld (fun a1 e1 => ?_)
  rw [← e1] at h
  have z1 := pz e1 hsz
  replace t0 := pk e1 t0
  replace t3 := pk e1 t3
  have t13 := pq e1 hsz
  clear e1 hsz
  refine tk 1 last4f_o1 (.pointer (some ⟨x, 0, none⟩)) (by rfl) (fun w1 hw => exec_nilCheck rfl t13) hHeld (fun a2 e2 => ?_)
  rw [← e2] at h
  have z2 := pz e2 z1
  replace t0 := pk e2 t0
  replace t3 := pk e2 t3
  clear t13
  have t14 := pq e2 z1
  clear e2 z1
  refine tk 2 last4f_o2 (.pointer (some ⟨x, 0 + 3, none⟩)) (by rfl) (fun w1 hw => exec_fieldAt rfl t14 (fg_32_3 _ _ _)) hHeld (fun a3 e3 => ?_)
  rw [← e3] at h
  have z3 := pz e3 z2
  replace t0 := pk e3 t0
  replace t3 := pk e3 t3
  clear t14
  have t15 := pq e3 z2
  clear e3 z2
  refine tk 3 last4f_o3 (lv) (by rfl) (fun w1 hw => exec_load rfl t15 (G1 _ hw)) hHeld (fun a4 e4 => ?_)
  rw [← e4] at h
  have z4 := pz e4 z3
  replace t0 := pk e4 t0
  replace t3 := pk e4 t3
  clear t15
  have t16 := pq e4 z3
  clear e4 z3
  refine tk 4 last4f_o4 (iv) (by rfl) (fun w1 hw => exec_move rfl t3) hHeld (fun a5 e5 => ?_)
  rw [← e5] at h
  have z5 := pz e5 z4
  replace t0 := pk e5 t0
  replace t3 := pk e5 t3
  replace t16 := pk e5 t16
  have t17 := pq e5 z4
  clear e5 z4
  refine tk 5 last4f_o5 (.pointer (some ⟨b, p, none⟩)) (by rfl) (fun w1 hw => exec_indexAt rfl t16 t17 (G2 _)) hHeld (fun a6 e6 => ?_)
  rw [← e6] at h
  have z6 := pz e6 z5
  replace t0 := pk e6 t0
  replace t3 := pk e6 t3
  clear t16 t17
  have t18 := pq e6 z5
  clear e6 z5
  refine tk 6 last4f_o6 (zv) (by rfl) (fun w1 hw => exec_load rfl t18 (G3 _ hw)) hHeld (fun a7 e7 => ?_)
  rw [← e7] at h
  have z7 := pz e7 z6
  replace t0 := pk e7 t0
  replace t3 := pk e7 t3
  clear t18
  have t19 := pq e7 z6
  clear e7 z6
  refine tk 7 last4f_o7 (.bool false) (by rfl) (fun w1 hw => exec_binOp rfl t19 rfl (G4 _) (G5 _ hw)) hHeld (fun a8 e8 => ?_)
  rw [← e8] at h
  have z8 := pz e8 z7
  replace t0 := pk e8 t0
  replace t3 := pk e8 t3
  clear t19
  have t20 := pq e8 z7
  clear e8 z7
  refine tk 8 last4f_o8 (.bool false) (by rfl) (fun w1 hw => exec_move rfl t20) hHeld (fun a9 e9 => ?_)
  rw [← e9] at h
  have z9 := pz e9 z8
  replace t0 := pk e9 t0
  replace t3 := pk e9 t3
  clear t20
  have t21 := pq e9 z8
  clear e9 z8
  refine wpAnyH_take (i := 9) (oi := last4f_o9) (v := undef) rfl (by kernel_rfl) (by kernel_rfl) (by kernel_rfl) (fun _ _ _ h => h) (Or.inr ⟨by simp [Region.wanted, yielded, last4f_ops, last4f_o9, last4f_o8, tget z9 (by decide) t21], rfl⟩) hHeld ?_
  change wpAnyH _ _ _ _ _ _ _ (a9.put (some 22) (undef)) _
  obtain ⟨a10, e10⟩ : ∃ act, act = a9.put (some 22) (undef) := ⟨_, rfl⟩
  rw [← e10] at h ⊢
  have z10 := pz e10 z9
  replace t0 := pk e10 t0
  replace t3 := pk e10 t3
  replace t21 := pk e10 t21
  have t22 := pq e10 z9
  clear e10 z9
  refine wpAnyH_take (i := 10) (oi := last4f_o10) (v := undef) rfl (by kernel_rfl) (by kernel_rfl) (by kernel_rfl) (fun _ _ _ h => h) (Or.inr ⟨by simp [Region.wanted, yielded, last4f_ops, last4f_o10, last4f_o8, tget z10 (by decide) t21], rfl⟩) hHeld ?_
  change wpAnyH _ _ _ _ _ _ _ (a10.put (some 23) (undef)) _
  obtain ⟨a11, e11⟩ : ∃ act, act = a10.put (some 23) (undef) := ⟨_, rfl⟩
  rw [← e11] at h ⊢
  have z11 := pz e11 z10
  replace t0 := pk e11 t0
  replace t3 := pk e11 t3
  replace t21 := pk e11 t21
  clear t22
  have t23 := pq e11 z10
  clear e11 z10
  refine wpAnyH_take (i := 11) (oi := last4f_o11) (v := undef) rfl (by kernel_rfl) (by kernel_rfl) (by kernel_rfl) (fun _ _ _ h => h) (Or.inr ⟨by simp [Region.wanted, yielded, last4f_ops, last4f_o11, last4f_o8, tget z11 (by decide) t21], rfl⟩) hHeld ?_
  change wpAnyH _ _ _ _ _ _ _ (a11.put (some 24) (undef)) _
  obtain ⟨a12, e12⟩ : ∃ act, act = a11.put (some 24) (undef) := ⟨_, rfl⟩
  rw [← e12] at h ⊢
  have z12 := pz e12 z11
  replace t0 := pk e12 t0
  replace t3 := pk e12 t3
  replace t21 := pk e12 t21
  clear t23
  have t24 := pq e12 z11
  clear e12 z11
  refine wpAnyH_take (i := 12) (oi := last4f_o12) (v := undef) rfl (by kernel_rfl) (by kernel_rfl) (by kernel_rfl) (fun _ _ _ h => h) (Or.inr ⟨by simp [Region.wanted, yielded, last4f_ops, last4f_o12, last4f_o8, tget z12 (by decide) t21], rfl⟩) hHeld ?_
  change wpAnyH _ _ _ _ _ _ _ (a12.put (some 25) (undef)) _
  obtain ⟨a13, e13⟩ : ∃ act, act = a12.put (some 25) (undef) := ⟨_, rfl⟩
  rw [← e13] at h ⊢
  have z13 := pz e13 z12
  replace t0 := pk e13 t0
  replace t3 := pk e13 t3
  replace t21 := pk e13 t21
  clear t24
  have t25 := pq e13 z12
  clear e13 z12
  refine wpAnyH_take (i := 13) (oi := last4f_o13) (v := undef) rfl (by kernel_rfl) (by kernel_rfl) (by kernel_rfl) (fun _ _ _ h => h) (Or.inr ⟨by simp [Region.wanted, yielded, last4f_ops, last4f_o13, last4f_o8, tget z13 (by decide) t21], rfl⟩) hHeld ?_
  change wpAnyH _ _ _ _ _ _ _ (a13.put (some 26) (undef)) _
  obtain ⟨a14, e14⟩ : ∃ act, act = a13.put (some 26) (undef) := ⟨_, rfl⟩
  rw [← e14] at h ⊢
  have z14 := pz e14 z13
  replace t0 := pk e14 t0
  replace t21 := pk e14 t21
  replace t25 := pk e14 t25
  clear t3
  have t26 := pq e14 z13
  clear e14 z13
  refine wpAnyH_take (i := 14) (oi := last4f_o14) (v := undef) rfl (by kernel_rfl) (by kernel_rfl) (by kernel_rfl) (fun _ _ _ h => h) (Or.inr ⟨by simp [Region.wanted, yielded, last4f_ops, last4f_o14, last4f_o8, tget z14 (by decide) t21], rfl⟩) hHeld ?_
  change wpAnyH _ _ _ _ _ _ _ (a14.put (some 27) (undef)) _
  obtain ⟨a15, e15⟩ : ∃ act, act = a14.put (some 27) (undef) := ⟨_, rfl⟩
  rw [← e15] at h ⊢
  have z15 := pz e15 z14
  replace t0 := pk e15 t0
  replace t21 := pk e15 t21
  clear t25 t26
  have t27 := pq e15 z14
  clear e15 z14
  refine wpAnyH_take (i := 15) (oi := last4f_o15) (v := undef) rfl (by kernel_rfl) (by kernel_rfl) (by kernel_rfl) (fun _ _ _ h => h) (Or.inr ⟨by simp [Region.wanted, yielded, last4f_ops, last4f_o15, last4f_o8, tget z15 (by decide) t21], rfl⟩) hHeld ?_
  change wpAnyH _ _ _ _ _ _ _ (a15.put (some 28) (undef)) _
  obtain ⟨a16, e16⟩ : ∃ act, act = a15.put (some 28) (undef) := ⟨_, rfl⟩
  rw [← e16] at h ⊢
  have z16 := pz e16 z15
  replace t0 := pk e16 t0
  replace t21 := pk e16 t21
  clear t27
  have t28 := pq e16 z15
  clear e16 z15
  refine wpAnyH_take (i := 16) (oi := last4f_o16) (v := undef) rfl (by kernel_rfl) (by kernel_rfl) (by kernel_rfl) (fun _ _ _ h => h) (Or.inr ⟨by simp [Region.wanted, yielded, last4f_ops, last4f_o16, last4f_o8, tget z16 (by decide) t21], rfl⟩) hHeld ?_
  change wpAnyH _ _ _ _ _ _ _ (a16.put (some 29) (undef)) _
  obtain ⟨a17, e17⟩ : ∃ act, act = a16.put (some 29) (undef) := ⟨_, rfl⟩
  rw [← e17] at h ⊢
  have z17 := pz e17 z16
  replace t21 := pk e17 t21
  replace t28 := pk e17 t28
  clear t0
  have t29 := pq e17 z16
  clear e17 z16
  refine wpAnyH_take (i := 17) (oi := last4f_o17) (v := undef) rfl (by kernel_rfl) (by kernel_rfl) (by kernel_rfl) (fun _ _ _ h => h) (Or.inr ⟨by simp [Region.wanted, yielded, last4f_ops, last4f_o17, last4f_o8, tget z17 (by decide) t21], rfl⟩) hHeld ?_
  change wpAnyH _ _ _ _ _ _ _ (a17.put (some 30) (undef)) _
  obtain ⟨a18, e18⟩ : ∃ act, act = a17.put (some 30) (undef) := ⟨_, rfl⟩
  rw [← e18] at h ⊢
  have z18 := pz e18 z17
  replace t21 := pk e18 t21
  replace t28 := pk e18 t28
  clear t29
  have t30 := pq e18 z17
  clear e18 z17
  refine wpAnyH_take (i := 18) (oi := last4f_o18) (v := undef) rfl (by kernel_rfl) (by kernel_rfl) (by kernel_rfl) (fun _ _ _ h => h) (Or.inr ⟨by simp [Region.wanted, yielded, last4f_ops, last4f_o18, last4f_o8, tget z18 (by decide) t21], rfl⟩) hHeld ?_
  change wpAnyH _ _ _ _ _ _ _ (a18.put (some 31) (undef)) _
  obtain ⟨a19, e19⟩ : ∃ act, act = a18.put (some 31) (undef) := ⟨_, rfl⟩
  rw [← e19] at h ⊢
  have z19 := pz e19 z18
  replace t21 := pk e19 t21
  replace t28 := pk e19 t28
  clear t30
  have t31 := pq e19 z18
  clear e19 z18
  refine wpAnyH_take (i := 19) (oi := last4f_o19) (v := undef) rfl (by kernel_rfl) (by kernel_rfl) (by kernel_rfl) (fun _ _ _ h => h) (Or.inr ⟨by simp [Region.wanted, yielded, last4f_ops, last4f_o19, last4f_o8, tget z19 (by decide) t21], rfl⟩) hHeld ?_
  change wpAnyH _ _ _ _ _ _ _ (a19.put (some 32) (undef)) _
  obtain ⟨a20, e20⟩ : ∃ act, act = a19.put (some 32) (undef) := ⟨_, rfl⟩
  rw [← e20] at h ⊢
  have z20 := pz e20 z19
  replace t21 := pk e20 t21
  replace t28 := pk e20 t28
  clear t31
  have t32 := pq e20 z19
  clear e20 z19
  refine wpAnyH_take (i := 20) (oi := last4f_o20) (v := undef) rfl (by kernel_rfl) (by kernel_rfl) (by kernel_rfl) (fun _ _ _ h => h) (Or.inr ⟨by simp [Region.wanted, yielded, last4f_ops, last4f_o20, last4f_o8, tget z20 (by decide) t21], rfl⟩) hHeld ?_
  change wpAnyH _ _ _ _ _ _ _ (a20.put (some 33) (undef)) _
  obtain ⟨a21, e21⟩ : ∃ act, act = a20.put (some 33) (undef) := ⟨_, rfl⟩
  rw [← e21] at h ⊢
  have z21 := pz e21 z20
  replace t21 := pk e21 t21
  replace t28 := pk e21 t28
  clear t32
  have t33 := pq e21 z20
  clear e21 z20
  refine wpAnyH_take (i := 21) (oi := last4f_o21) (v := undef) rfl (by kernel_rfl) (by kernel_rfl) (by kernel_rfl) (fun _ _ _ h => h) (Or.inr ⟨by simp [Region.wanted, yielded, last4f_ops, last4f_o21, last4f_o8, tget z21 (by decide) t21], rfl⟩) hHeld ?_
  change wpAnyH _ _ _ _ _ _ _ (a21.put (some 34) (undef)) _
  obtain ⟨a22, e22⟩ : ∃ act, act = a21.put (some 34) (undef) := ⟨_, rfl⟩
  rw [← e22] at h ⊢
  have z22 := pz e22 z21
  replace t21 := pk e22 t21
  clear t28 t33
  have t34 := pq e22 z21
  clear e22 z21
  refine tk 22 last4f_o22 (.bool false) (by rfl) (fun w1 hw => by unfold last4f_o22; go_simp) hHeld (fun a23 e23 => ?_)
  rw [← e23] at h
  have z23 := pz e23 z22
  clear t21 t34
  clear e23 z22
  exact wpAnyH_done (by kernel_rfl) (NoPanic.normal (h _ _ (hHeld) rfl)) _
def last4t_o0 : Oper := ⟨some 13, .move (.tmp 0), 24, "law.go:90", #[], none⟩
def last4t_o1 : Oper := ⟨some 14, .nilCheck (.tmp 13), 0, "law.go:90", #[⟨0, .data⟩], none⟩
def last4t_o2 : Oper := ⟨some 15, .fieldAddr 32 (.tmp 14) 3, 0, "law.go:90", #[⟨1, .data⟩], none⟩
def last4t_o3 : Oper := ⟨some 16, .load 30 (.tmp 15), 30, "law.go:90", #[⟨2, .data⟩], none⟩
def last4t_o4 : Oper := ⟨some 17, .move (.tmp 3), 3, "law.go:90", #[], none⟩
def last4t_o5 : Oper := ⟨some 18, .indexAddr 30 (.tmp 16) (.tmp 17), 0, "law.go:90", #[⟨3, .data⟩, ⟨4, .data⟩], none⟩
def last4t_o6 : Oper := ⟨some 19, .load 3 (.tmp 18), 3, "law.go:90", #[⟨5, .data⟩], none⟩
def last4t_o7 : Oper := ⟨some 20, .binOp BinOp.gtr 3 (.tmp 19) (Operand.const (Value.int IntKind.i64 0)) 3, 4, "law.go:90", #[⟨6, .data⟩], none⟩
def last4t_o8 : Oper := ⟨some 21, .move (.tmp 20), 4, "law.go:90", #[⟨7, .data⟩], none⟩
def last4t_o9 : Oper := ⟨some 22, .move (.tmp 0), 24, "law.go:90", #[⟨8, .guard⟩], some (8, true)⟩
def last4t_o10 : Oper := ⟨some 23, .nilCheck (.tmp 22), 0, "law.go:90", #[⟨9, .data⟩, ⟨8, .guard⟩], some (8, true)⟩
def last4t_o11 : Oper := ⟨some 24, .fieldAddr 32 (.tmp 23) 3, 0, "law.go:90", #[⟨10, .data⟩, ⟨8, .guard⟩], some (8, true)⟩
def last4t_o12 : Oper := ⟨some 25, .load 30 (.tmp 24), 30, "law.go:90", #[⟨11, .data⟩, ⟨8, .guard⟩], some (8, true)⟩
def last4t_o13 : Oper := ⟨some 26, .move (.tmp 3), 3, "law.go:90", #[⟨8, .guard⟩], some (8, true)⟩
def last4t_o14 : Oper := ⟨some 27, .indexAddr 30 (.tmp 25) (.tmp 26), 0, "law.go:90", #[⟨12, .data⟩, ⟨13, .data⟩, ⟨8, .guard⟩], some (8, true)⟩
def last4t_o15 : Oper := ⟨some 28, .load 3 (.tmp 27), 3, "law.go:90", #[⟨14, .data⟩, ⟨8, .guard⟩], some (8, true)⟩
def last4t_o16 : Oper := ⟨some 29, .move (.tmp 0), 24, "law.go:90", #[⟨8, .guard⟩], some (8, true)⟩
def last4t_o17 : Oper := ⟨some 30, .nilCheck (.tmp 29), 0, "law.go:90", #[⟨16, .data⟩, ⟨8, .guard⟩], some (8, true)⟩
def last4t_o18 : Oper := ⟨some 31, .fieldAddr 32 (.tmp 30) 1, 0, "law.go:90", #[⟨17, .data⟩, ⟨8, .guard⟩], some (8, true)⟩
def last4t_o19 : Oper := ⟨some 32, .load 27 (.tmp 31), 27, "law.go:90", #[⟨18, .data⟩, ⟨8, .guard⟩], some (8, true)⟩
def last4t_o20 : Oper := ⟨some 33, .call { callee := Callee.value (Operand.func 33), args := #[.tmp 32], argTypes := #[27] }, 3, "law.go:90", #[⟨19, .data⟩, ⟨8, .chain⟩, ⟨8, .guard⟩], some (8, true)⟩
def last4t_o21 : Oper := ⟨some 34, .binOp BinOp.eql 3 (.tmp 28) (.tmp 33) 3, 4, "law.go:90", #[⟨15, .data⟩, ⟨20, .data⟩, ⟨8, .guard⟩], some (8, true)⟩
def last4t_o22 : Oper := ⟨some 35, .pick (.tmp 21) (.tmp 34) (Operand.const (Value.bool false)), 4, "law.go:90", #[⟨8, .data⟩, ⟨21, .data⟩], none⟩
def last4t_ops : Array Oper := #[last4t_o0, last4t_o1, last4t_o2, last4t_o3, last4t_o4, last4t_o5, last4t_o6, last4t_o7, last4t_o8, last4t_o9, last4t_o10, last4t_o11, last4t_o12, last4t_o13, last4t_o14, last4t_o15, last4t_o16, last4t_o17, last4t_o18, last4t_o19, last4t_o20, last4t_o21, last4t_o22]
set_option maxRecDepth 100000 in
set_option maxHeartbeats 4000000 in
theorem last4t (S : World → Prop) (x b p : Nat) (lv iv zv dv nv : Value) (eb : Bool) (a : Act) (w : World) (Q : Exit → Act → World → Prop) (hsz : a.tmps.size = 37)
    (t0 : a.tmps.getD 0 undef = .pointer (some ⟨x, 0, none⟩))
    (t3 : a.tmps.getD 3 undef = iv)
    (h0 : S w.drew) (C : ∀ W, S W → Calls Try.prog 33 #[dv] W fun e w' => e = .returned nv ∧ S w')
    (G1 : ∀ W, S W → (Instr.loadAt 30 (.pointer (some ⟨x, 0 + 3, none⟩))).run Try.prog W = .ok (lv) W)
    (G2 : ∀ W, (Instr.indexAt 30 (lv) (iv)).run Try.prog W = .ok (.pointer (some ⟨b, p, none⟩)) W)
    (G3 : ∀ W, S W → (Instr.loadAt 3 (.pointer (some ⟨b, p, none⟩))).run Try.prog W = .ok (zv) W)
    (G4 : ∀ W, (eqGuard BinOp.gtr 3 (Operand.tmp 19) (Operand.const (Value.int IntKind.i64 0)) (zv) (.int .i64 0)).run Try.prog W = .ok () W)
    (G5 : ∀ W, S W → (binOp BinOp.gtr 3 (zv) (.int .i64 0)).run Try.prog W = .ok (.bool true) W)
    (G6 : ∀ W, S W → (Instr.loadAt 27 (.pointer (some ⟨x, 0 + 1, none⟩))).run Try.prog W = .ok (dv) W)
    (G7 : ∀ W, (eqGuard BinOp.eql 3 (Operand.tmp 28) (Operand.tmp 33) (zv) (nv)).run Try.prog W = .ok () W)
    (G8 : ∀ W, S W → (binOp BinOp.eql 3 (zv) (nv)).run Try.prog W = .ok (.bool eb) W)
    (h : ∀ (a' : Act) (w' : World), S w' → a' = (((((((((((((((((((((((a).put (some 13) (.pointer (some ⟨x, 0, none⟩))).put (some 14) (.pointer (some ⟨x, 0, none⟩))).put (some 15) (.pointer (some ⟨x, 0 + 3, none⟩))).put (some 16) (lv)).put (some 17) (iv)).put (some 18) (.pointer (some ⟨b, p, none⟩))).put (some 19) (zv)).put (some 20) (.bool true)).put (some 21) (.bool true)).put (some 22) (.pointer (some ⟨x, 0, none⟩))).put (some 23) (.pointer (some ⟨x, 0, none⟩))).put (some 24) (.pointer (some ⟨x, 0 + 3, none⟩))).put (some 25) (lv)).put (some 26) (iv)).put (some 27) (.pointer (some ⟨b, p, none⟩))).put (some 28) (zv)).put (some 29) (.pointer (some ⟨x, 0, none⟩))).put (some 30) (.pointer (some ⟨x, 0, none⟩))).put (some 31) (.pointer (some ⟨x, 0 + 1, none⟩))).put (some 32) (dv)).put (some 33) (nv)).put (some 34) (.bool eb)).put (some 35) (.bool eb) → Q .normal a' w') :
    (Code.region 4 last4t_ops true).wp Try.prog Q a w := by
  refine wp_region_noPanic ?_
  refine wp_region_held_drew (S := fun w' => S w') (by kernel_rfl) (h0) (fun hHeld => ?_)
  refine tk 0 last4t_o0 (.pointer (some ⟨x, 0, none⟩)) (by rfl) (fun w1 hw => exec_move rfl t0) hHeld (fun a1 e1 => ?_)
  rw [← e1] at h
  have z1 := pz e1 hsz
  replace t0 := pk e1 t0
  replace t3 := pk e1 t3
  have t13 := pq e1 hsz
  clear e1 hsz
  refine tk 1 last4t_o1 (.pointer (some ⟨x, 0, none⟩)) (by rfl) (fun w1 hw => exec_nilCheck rfl t13) hHeld (fun a2 e2 => ?_)
  rw [← e2] at h
  have z2 := pz e2 z1
  replace t0 := pk e2 t0
  replace t3 := pk e2 t3
  clear t13
  have t14 := pq e2 z1
  clear e2 z1
  refine tk 2 last4t_o2 (.pointer (some ⟨x, 0 + 3, none⟩)) (by rfl) (fun w1 hw => exec_fieldAt rfl t14 (fg_32_3 _ _ _)) hHeld (fun a3 e3 => ?_)
  rw [← e3] at h
  have z3 := pz e3 z2
  replace t0 := pk e3 t0
  replace t3 := pk e3 t3
  clear t14
  have t15 := pq e3 z2
  clear e3 z2
  refine tk 3 last4t_o3 (lv) (by rfl) (fun w1 hw => exec_load rfl t15 (G1 _ hw)) hHeld (fun a4 e4 => ?_)
  rw [← e4] at h
  have z4 := pz e4 z3
  replace t0 := pk e4 t0
  replace t3 := pk e4 t3
  clear t15
  have t16 := pq e4 z3
  clear e4 z3
  refine tk 4 last4t_o4 (iv) (by rfl) (fun w1 hw => exec_move rfl t3) hHeld (fun a5 e5 => ?_)
  rw [← e5] at h
  have z5 := pz e5 z4
  replace t0 := pk e5 t0
  replace t3 := pk e5 t3
  replace t16 := pk e5 t16
  have t17 := pq e5 z4
  clear e5 z4
  refine tk 5 last4t_o5 (.pointer (some ⟨b, p, none⟩)) (by rfl) (fun w1 hw => exec_indexAt rfl t16 t17 (G2 _)) hHeld (fun a6 e6 => ?_)
  rw [← e6] at h
  have z6 := pz e6 z5
  replace t0 := pk e6 t0
  replace t3 := pk e6 t3
  clear t16 t17
  have t18 := pq e6 z5
  clear e6 z5
  refine tk 6 last4t_o6 (zv) (by rfl) (fun w1 hw => exec_load rfl t18 (G3 _ hw)) hHeld (fun a7 e7 => ?_)
  rw [← e7] at h
  have z7 := pz e7 z6
  replace t0 := pk e7 t0
  replace t3 := pk e7 t3
  clear t18
  have t19 := pq e7 z6
  clear e7 z6
  refine tk 7 last4t_o7 (.bool true) (by rfl) (fun w1 hw => exec_binOp rfl t19 rfl (G4 _) (G5 _ hw)) hHeld (fun a8 e8 => ?_)
  rw [← e8] at h
  have z8 := pz e8 z7
  replace t0 := pk e8 t0
  replace t3 := pk e8 t3
  clear t19
  have t20 := pq e8 z7
  clear e8 z7
  refine tk 8 last4t_o8 (.bool true) (by rfl) (fun w1 hw => exec_move rfl t20) hHeld (fun a9 e9 => ?_)
  rw [← e9] at h
  have z9 := pz e9 z8
  replace t0 := pk e9 t0
  replace t3 := pk e9 t3
  clear t20
  have t21 := pq e9 z8
  clear e9 z8
  refine tk 9 last4t_o9 (.pointer (some ⟨x, 0, none⟩)) (by simp [Region.wanted, yielded, last4t_ops, last4t_o9, last4t_o8, tget z9 (by decide) t21]) (fun w1 hw => exec_move rfl t0) hHeld (fun a10 e10 => ?_)
  rw [← e10] at h
  have z10 := pz e10 z9
  replace t0 := pk e10 t0
  replace t3 := pk e10 t3
  replace t21 := pk e10 t21
  have t22 := pq e10 z9
  clear e10 z9
  refine tk 10 last4t_o10 (.pointer (some ⟨x, 0, none⟩)) (by simp [Region.wanted, yielded, last4t_ops, last4t_o10, last4t_o8, tget z10 (by decide) t21]) (fun w1 hw => exec_nilCheck rfl t22) hHeld (fun a11 e11 => ?_)
  rw [← e11] at h
  have z11 := pz e11 z10
  replace t0 := pk e11 t0
  replace t3 := pk e11 t3
  replace t21 := pk e11 t21
  clear t22
  have t23 := pq e11 z10
  clear e11 z10
  refine tk 11 last4t_o11 (.pointer (some ⟨x, 0 + 3, none⟩)) (by simp [Region.wanted, yielded, last4t_ops, last4t_o11, last4t_o8, tget z11 (by decide) t21]) (fun w1 hw => exec_fieldAt rfl t23 (fg_32_3 _ _ _)) hHeld (fun a12 e12 => ?_)
  rw [← e12] at h
  have z12 := pz e12 z11
  replace t0 := pk e12 t0
  replace t3 := pk e12 t3
  replace t21 := pk e12 t21
  clear t23
  have t24 := pq e12 z11
  clear e12 z11
  refine tk 12 last4t_o12 (lv) (by simp [Region.wanted, yielded, last4t_ops, last4t_o12, last4t_o8, tget z12 (by decide) t21]) (fun w1 hw => exec_load rfl t24 (G1 _ hw)) hHeld (fun a13 e13 => ?_)
  rw [← e13] at h
  have z13 := pz e13 z12
  replace t0 := pk e13 t0
  replace t3 := pk e13 t3
  replace t21 := pk e13 t21
  clear t24
  have t25 := pq e13 z12
  clear e13 z12
  refine tk 13 last4t_o13 (iv) (by simp [Region.wanted, yielded, last4t_ops, last4t_o13, last4t_o8, tget z13 (by decide) t21]) (fun w1 hw => exec_move rfl t3) hHeld (fun a14 e14 => ?_)
  rw [← e14] at h
  have z14 := pz e14 z13
  replace t0 := pk e14 t0
  replace t21 := pk e14 t21
  replace t25 := pk e14 t25
  clear t3
  have t26 := pq e14 z13
  clear e14 z13
  refine tk 14 last4t_o14 (.pointer (some ⟨b, p, none⟩)) (by simp [Region.wanted, yielded, last4t_ops, last4t_o14, last4t_o8, tget z14 (by decide) t21]) (fun w1 hw => exec_indexAt rfl t25 t26 (G2 _)) hHeld (fun a15 e15 => ?_)
  rw [← e15] at h
  have z15 := pz e15 z14
  replace t0 := pk e15 t0
  replace t21 := pk e15 t21
  clear t25 t26
  have t27 := pq e15 z14
  clear e15 z14
  refine tk 15 last4t_o15 (zv) (by simp [Region.wanted, yielded, last4t_ops, last4t_o15, last4t_o8, tget z15 (by decide) t21]) (fun w1 hw => exec_load rfl t27 (G3 _ hw)) hHeld (fun a16 e16 => ?_)
  rw [← e16] at h
  have z16 := pz e16 z15
  replace t0 := pk e16 t0
  replace t21 := pk e16 t21
  clear t27
  have t28 := pq e16 z15
  clear e16 z15
  refine tk 16 last4t_o16 (.pointer (some ⟨x, 0, none⟩)) (by simp [Region.wanted, yielded, last4t_ops, last4t_o16, last4t_o8, tget z16 (by decide) t21]) (fun w1 hw => exec_move rfl t0) hHeld (fun a17 e17 => ?_)
  rw [← e17] at h
  have z17 := pz e17 z16
  replace t21 := pk e17 t21
  replace t28 := pk e17 t28
  clear t0
  have t29 := pq e17 z16
  clear e17 z16
  refine tk 17 last4t_o17 (.pointer (some ⟨x, 0, none⟩)) (by simp [Region.wanted, yielded, last4t_ops, last4t_o17, last4t_o8, tget z17 (by decide) t21]) (fun w1 hw => exec_nilCheck rfl t29) hHeld (fun a18 e18 => ?_)
  rw [← e18] at h
  have z18 := pz e18 z17
  replace t21 := pk e18 t21
  replace t28 := pk e18 t28
  clear t29
  have t30 := pq e18 z17
  clear e18 z17
  refine tk 18 last4t_o18 (.pointer (some ⟨x, 0 + 1, none⟩)) (by simp [Region.wanted, yielded, last4t_ops, last4t_o18, last4t_o8, tget z18 (by decide) t21]) (fun w1 hw => exec_fieldAt rfl t30 (fg_32_1 _ _ _)) hHeld (fun a19 e19 => ?_)
  rw [← e19] at h
  have z19 := pz e19 z18
  replace t21 := pk e19 t21
  replace t28 := pk e19 t28
  clear t30
  have t31 := pq e19 z18
  clear e19 z18
  refine tk 19 last4t_o19 (dv) (by simp [Region.wanted, yielded, last4t_ops, last4t_o19, last4t_o8, tget z19 (by decide) t21]) (fun w1 hw => exec_load rfl t31 (G6 _ hw)) hHeld (fun a20 e20 => ?_)
  rw [← e20] at h
  have z20 := pz e20 z19
  replace t21 := pk e20 t21
  replace t28 := pk e20 t28
  clear t31
  have t32 := pq e20 z19
  clear e20 z19
  refine wpAnyH_ready (rs := [20]) (by kernel_rfl) (by simp) ?_
  refine AllReadyH.cons (o := last4t_o20) rfl (fun K hK => ?_) AllReadyH.nil
  rw [if_pos (by simp [Region.wanted, yielded, last4t_ops, last4t_o20, last4t_o8, tget z20 (by decide) t21])]
  unfold last4t_o20 at hK ⊢
  go_simp
  refine (C _ hHeld).mono ?_
  rintro e x21 ⟨rfl, hs⟩
  try go_wp2_with fail
  skip
  refine hK.out _ _ (hs) (fun hHeld => ?_)
  clear hK K
  change wpAnyH _ _ _ _ _ _ _ (a20.put (some 33) (nv)) _
  obtain ⟨a21, e21⟩ : ∃ act, act = a20.put (some 33) (nv) := ⟨_, rfl⟩
  rw [← e21] at h ⊢
  have z21 := pz e21 z20
  replace t21 := pk e21 t21
  replace t28 := pk e21 t28
  clear t32
  have t33 := pq e21 z20
  clear e21 z20
  refine tk 21 last4t_o21 (.bool eb) (by simp [Region.wanted, yielded, last4t_ops, last4t_o21, last4t_o8, tget z21 (by decide) t21]) (fun w1 hw => exec_binOp rfl t28 t33 (G7 _) (G8 _ hw)) hHeld (fun a22 e22 => ?_)
  rw [← e22] at h
  have z22 := pz e22 z21
  replace t21 := pk e22 t21
  clear t28 t33
  have t34 := pq e22 z21
  clear e22 z21
  refine tk 22 last4t_o22 (.bool eb) (by rfl) (fun w1 hw => by unfold last4t_o22; go_simp) hHeld (fun a23 e23 => ?_)
  rw [← e23] at h
  have z23 := pz e23 z22
  clear t21 t34
  clear e23 z22
  exact wpAnyH_done (by kernel_rfl) (NoPanic.normal (h _ _ (hHeld) rfl)) _
end Go.Proofs.Ytoofljkgdjjllaa

namespace Go.Proofs.Ytoofljkgdjjllaa
open Go.RowKit
set_option linter.unusedVariables false
set_option linter.unusedSimpArgs false

theorem exec_b2 {P : Program} {w : World} {a : Act} {o : Oper} {t i j : Nat} {x y : Operand} {xv yv v : Value} (ho : o.op = .build t #[(i, x), (j, y)]) (hx : a.eval x = xv) (hy : a.eval y = yv) (hl : (Instr.build t #[(i, xv), (j, yv)]).run P w = .ok v w) : (execOp a.eval o).run P w = .ok (.value v) w :=
  exec_build ho (by simp [hx, hy]) hl
def rmove10_o0 : Oper := ⟨some 39, .move (.tmp 0), 27, "ref.go:119", #[], none⟩
def rmove10_o1 : Oper := ⟨some 40, .nilCheck (.tmp 39), 0, "ref.go:119", #[⟨0, .data⟩], none⟩
def rmove10_o2 : Oper := ⟨some 41, .fieldAddr 86 (.tmp 40) 0, 0, "ref.go:119", #[⟨1, .data⟩], none⟩
def rmove10_o3 : Oper := ⟨some 42, .load 83 (.tmp 41), 83, "ref.go:119", #[⟨2, .data⟩], none⟩
def rmove10_o4 : Oper := ⟨some 43, .move (.tmp 0), 27, "ref.go:119", #[], none⟩
def rmove10_o5 : Oper := ⟨some 44, .load 37 (.tmp 5), 37, "ref.go:119", #[], none⟩
def rmove10_o6 : Oper := ⟨some 45, .call { callee := Callee.value (Operand.func 77), args := #[.tmp 43, .tmp 44], argTypes := #[27, 37] }, 3, "ref.go:119", #[⟨4, .data⟩, ⟨5, .data⟩], none⟩
def rmove10_o7 : Oper := ⟨some 46, .load 37 (.tmp 5), 37, "ref.go:119", #[], none⟩
def rmove10_o8 : Oper := ⟨some 47, .load 37 (.tmp 6), 37, "ref.go:119", #[], none⟩
def rmove10_o9 : Oper := ⟨some 48, .move (.tmp 3), 9, "ref.go:119", #[], none⟩
def rmove10_o10 : Oper := ⟨some 49, .build 114 #[(0, .tmp 46), (1, .tmp 47), (2, .tmp 48)], 114, "ref.go:119", #[⟨7, .data⟩, ⟨8, .data⟩, ⟨9, .data⟩], none⟩
def rmove10_o11 : Oper := ⟨some 50, .indexAddr 83 (.tmp 42) (.tmp 45), 0, "ref.go:119", #[⟨3, .data⟩, ⟨6, .data⟩, ⟨0, .phase⟩, ⟨1, .phase⟩, ⟨2, .phase⟩, ⟨3, .phase⟩, ⟨4, .phase⟩, ⟨5, .phase⟩, ⟨6, .phase⟩, ⟨7, .phase⟩, ⟨8, .phase⟩, ⟨9, .phase⟩, ⟨10, .phase⟩], none⟩
def rmove10_o12 : Oper := ⟨none, .store 114 (.tmp 50) (.tmp 49), 0, "ref.go:119", #[⟨11, .data⟩, ⟨10, .data⟩, ⟨6, .chain⟩, ⟨0, .phase⟩, ⟨1, .phase⟩, ⟨2, .phase⟩, ⟨3, .phase⟩, ⟨4, .phase⟩, ⟨5, .phase⟩, ⟨6, .phase⟩, ⟨7, .phase⟩, ⟨8, .phase⟩, ⟨9, .phase⟩, ⟨10, .phase⟩], none⟩
def rmove10_ops : Array Oper := #[rmove10_o0, rmove10_o1, rmove10_o2, rmove10_o3, rmove10_o4, rmove10_o5, rmove10_o6, rmove10_o7, rmove10_o8, rmove10_o9, rmove10_o10, rmove10_o11, rmove10_o12]
set_option maxRecDepth 100000 in
set_option maxHeartbeats 4000000 in
theorem rmove10 (d : Nat) (f0 pkv pu kv uv sv xv nv iv pv : Value) (S C Fin : World → Prop) (a : Act) (w : World) (Q : Exit → Act → World → Prop) (hsz : a.tmps.size = 51)
    (t0 : a.tmps.getD 0 undef = .pointer (some ⟨d, 0, none⟩))
    (t3 : a.tmps.getD 3 undef = sv)
    (t5 : a.tmps.getD 5 undef = pkv)
    (t6 : a.tmps.getD 6 undef = pu)
    (GF0 : ∀ W, (Instr.fieldAt 86 (.pointer (some ⟨d, 0, none⟩)) 0).run Try.prog W = .ok f0 W) (GN : ∀ W, S W → (Instr.loadAt 83 f0).run Try.prog W = .ok nv W) (GB : ∀ W, (Instr.build 114 #[(0, kv), (1, uv), (2, sv)]).run Try.prog W = .ok xv W)
    (GK : ∀ W, S W → (Instr.loadAt 37 pkv).run Try.prog W = .ok kv W) (GU : ∀ W, S W → (Instr.loadAt 37 pu).run Try.prog W = .ok uv W) (GX : ∀ W, (Instr.indexAt 83 nv iv).run Try.prog W = .ok pv W) (S0 : S w.drew)
    (HF : Calls Try.prog 77 #[.pointer (some ⟨d, 0, none⟩), kv] w.drew fun e w' => e = .returned iv ∧ C w') (QS : ∀ W, C W → S W) (HST : ∀ W, C W → ∃ y, (Instr.storeAt 114 pv xv).run Try.prog W = .ok () y ∧ S y ∧ Fin y)
    (h1 : ∀ (a' : Act) (w' : World), Fin w' → a' = ((((((((((((a).put (some 39) (.pointer (some ⟨d, 0, none⟩))).put (some 40) (.pointer (some ⟨d, 0, none⟩))).put (some 41) (f0)).put (some 42) (nv)).put (some 43) (.pointer (some ⟨d, 0, none⟩))).put (some 44) (kv)).put (some 46) (kv)).put (some 47) (uv)).put (some 48) (sv)).put (some 49) (xv)).put (some 45) (iv)).put (some 50) (pv) → Q .normal a' w') :
    (Code.region 10 rmove10_ops true).wp Try.prog Q a w := by
  refine wp_region_noPanic ?_
  refine wp_region_held_drew (S := fun w' => S w') (by kernel_rfl) (S0) (fun hHeld => ?_)
  refine tk 0 rmove10_o0 (.pointer (some ⟨d, 0, none⟩)) (by rfl) (fun w1 hw => exec_move rfl t0) hHeld (fun a1 e1 => ?_)
  rw [← e1] at h1
  have z1 := pz e1 hsz
  replace t0 := pk e1 t0
  replace t3 := pk e1 t3
  replace t5 := pk e1 t5
  replace t6 := pk e1 t6
  have t39 := pq e1 hsz
  clear e1 hsz
  refine tk 1 rmove10_o1 (.pointer (some ⟨d, 0, none⟩)) (by rfl) (fun w1 hw => exec_nilCheck rfl t39) hHeld (fun a2 e2 => ?_)
  rw [← e2] at h1
  have z2 := pz e2 z1
  replace t0 := pk e2 t0
  replace t3 := pk e2 t3
  replace t5 := pk e2 t5
  replace t6 := pk e2 t6
  clear t39
  have t40 := pq e2 z1
  clear e2 z1
  refine tk 2 rmove10_o2 (f0) (by rfl) (fun w1 hw => exec_fieldAt rfl t40 (GF0 _)) hHeld (fun a3 e3 => ?_)
  rw [← e3] at h1
  have z3 := pz e3 z2
  replace t0 := pk e3 t0
  replace t3 := pk e3 t3
  replace t5 := pk e3 t5
  replace t6 := pk e3 t6
  clear t40
  have t41 := pq e3 z2
  clear e3 z2
  refine tk 3 rmove10_o3 (nv) (by rfl) (fun w1 hw => exec_load rfl t41 (GN _ hw)) hHeld (fun a4 e4 => ?_)
  rw [← e4] at h1
  have z4 := pz e4 z3
  replace t0 := pk e4 t0
  replace t3 := pk e4 t3
  replace t5 := pk e4 t5
  replace t6 := pk e4 t6
  clear t41
  have t42 := pq e4 z3
  clear e4 z3
  refine tk 4 rmove10_o4 (.pointer (some ⟨d, 0, none⟩)) (by rfl) (fun w1 hw => exec_move rfl t0) hHeld (fun a5 e5 => ?_)
  rw [← e5] at h1
  have z5 := pz e5 z4
  clear t0
  replace t3 := pk e5 t3
  replace t5 := pk e5 t5
  replace t6 := pk e5 t6
  replace t42 := pk e5 t42
  have t43 := pq e5 z4
  clear e5 z4
  refine tk 5 rmove10_o5 (kv) (by rfl) (fun w1 hw => exec_load rfl t5 (GK _ hw)) hHeld (fun a6 e6 => ?_)
  rw [← e6] at h1
  have z6 := pz e6 z5
  replace t3 := pk e6 t3
  replace t5 := pk e6 t5
  replace t6 := pk e6 t6
  replace t42 := pk e6 t42
  replace t43 := pk e6 t43
  have t44 := pq e6 z5
  clear e6 z5
  refine tk 7 rmove10_o7 (kv) (by rfl) (fun w1 hw => exec_load rfl t5 (GK _ hw)) hHeld (fun a7 e7 => ?_)
  rw [← e7] at h1
  have z7 := pz e7 z6
  replace t3 := pk e7 t3
  clear t5
  replace t6 := pk e7 t6
  replace t42 := pk e7 t42
  replace t43 := pk e7 t43
  replace t44 := pk e7 t44
  have t46 := pq e7 z6
  clear e7 z6
  refine tk 8 rmove10_o8 (uv) (by rfl) (fun w1 hw => exec_load rfl t6 (GU _ hw)) hHeld (fun a8 e8 => ?_)
  rw [← e8] at h1
  have z8 := pz e8 z7
  replace t3 := pk e8 t3
  clear t6
  replace t42 := pk e8 t42
  replace t43 := pk e8 t43
  replace t44 := pk e8 t44
  replace t46 := pk e8 t46
  have t47 := pq e8 z7
  clear e8 z7
  refine tk 9 rmove10_o9 (sv) (by rfl) (fun w1 hw => exec_move rfl t3) hHeld (fun a9 e9 => ?_)
  rw [← e9] at h1
  have z9 := pz e9 z8
  clear t3
  replace t42 := pk e9 t42
  replace t43 := pk e9 t43
  replace t44 := pk e9 t44
  replace t46 := pk e9 t46
  replace t47 := pk e9 t47
  have t48 := pq e9 z8
  clear e9 z8
  refine tk 10 rmove10_o10 (xv) (by rfl) (fun w1 hw => exec_b3 rfl t46 t47 t48 (GB _)) hHeld (fun a10 e10 => ?_)
  rw [← e10] at h1
  have z10 := pz e10 z9
  replace t42 := pk e10 t42
  replace t43 := pk e10 t43
  replace t44 := pk e10 t44
  clear t46
  clear t47
  clear t48
  have t49 := pq e10 z9
  clear e10 z9
  refine wpAnyH_ready (rs := [6]) (by kernel_rfl) (by simp) ?_
  refine AllReadyH.cons (o := rmove10_o6) rfl (fun K hK => ?_) AllReadyH.nil
  rw [if_pos (by rfl)]
  unfold rmove10_o6 at hK ⊢
  go_simp
  refine (HF).mono ?_
  rintro e x11 ⟨rfl, qC⟩
  try go_wp2_with fail
  obtain ⟨y, ES, Sy, Fy⟩ := HST x11 qC
  refine hK.out _ _ (QS _ qC) (fun hHeld => ?_)
  clear hK K
  change wpAnyH _ _ _ _ _ _ _ (a10.put (some 45) (iv)) _
  obtain ⟨a11, e11⟩ : ∃ act, act = a10.put (some 45) (iv) := ⟨_, rfl⟩
  rw [← e11] at h1 ⊢
  have z11 := pz e11 z10
  replace t42 := pk e11 t42
  clear t43
  clear t44
  replace t49 := pk e11 t49
  have t45 := pq e11 z10
  clear e11 z10
  refine tk 11 rmove10_o11 (pv) (by rfl) (fun w1 hw => exec_indexAt rfl t42 t45 (GX _)) hHeld (fun a12 e12 => ?_)
  rw [← e12] at h1
  have z12 := pz e12 z11
  clear t42
  replace t49 := pk e12 t49
  clear t45
  have t50 := pq e12 z11
  clear e12 z11
  refine wpAnyH_ready (rs := [12]) (by kernel_rfl) (by simp) ?_
  refine AllReadyH.cons (o := rmove10_o12) rfl (fun K hK => ?_) AllReadyH.nil
  skip
  have X := exec_store (P := Try.prog) (a := a12) (o := rmove10_o12) rfl t50 t49 ES
  rw [if_pos (by rfl), Oper.wp, X]
  show K _ _
  clear X
  refine hK.out _ _ (Sy) (fun hHeld => ?_)
  clear hK K
  exact wpAnyH_done (by kernel_rfl) (NoPanic.normal (h1 _ _ (Fy) rfl)) _
def rprune7_o0 : Oper := ⟨some 25, .move (.tmp 0), 27, "ref.go:132", #[], none⟩
def rprune7_o1 : Oper := ⟨some 26, .nilCheck (.tmp 25), 0, "ref.go:132", #[⟨0, .data⟩], none⟩
def rprune7_o2 : Oper := ⟨some 27, .fieldAddr 86 (.tmp 26) 0, 0, "ref.go:132", #[⟨1, .data⟩], none⟩
def rprune7_o3 : Oper := ⟨some 28, .load 83 (.tmp 27), 83, "ref.go:132", #[⟨2, .data⟩], none⟩
def rprune7_o4 : Oper := ⟨some 29, .move (.tmp 5), 3, "ref.go:132", #[], none⟩
def rprune7_o5 : Oper := ⟨some 30, .load 37 (.tmp 3), 37, "ref.go:132", #[], none⟩
def rprune7_o6 : Oper := ⟨some 31, .build 114 #[(0, .tmp 30), (3, Operand.const (Value.bool true))], 114, "ref.go:132", #[⟨5, .data⟩], none⟩
def rprune7_o7 : Oper := ⟨some 32, .indexAddr 83 (.tmp 28) (.tmp 29), 0, "ref.go:132", #[⟨3, .data⟩, ⟨4, .data⟩, ⟨0, .phase⟩, ⟨1, .phase⟩, ⟨2, .phase⟩, ⟨3, .phase⟩, ⟨4, .phase⟩, ⟨5, .phase⟩, ⟨6, .phase⟩], none⟩
def rprune7_o8 : Oper := ⟨none, .store 114 (.tmp 32) (.tmp 31), 0, "ref.go:132", #[⟨7, .data⟩, ⟨6, .data⟩, ⟨0, .phase⟩, ⟨1, .phase⟩, ⟨2, .phase⟩, ⟨3, .phase⟩, ⟨4, .phase⟩, ⟨5, .phase⟩, ⟨6, .phase⟩], none⟩
def rprune7_ops : Array Oper := #[rprune7_o0, rprune7_o1, rprune7_o2, rprune7_o3, rprune7_o4, rprune7_o5, rprune7_o6, rprune7_o7, rprune7_o8]
set_option maxRecDepth 100000 in
set_option maxHeartbeats 4000000 in
theorem rprune7 (d : Nat) (f0 pkv kv xv nv iv pv : Value) (y : World) (S : World → Prop) (a : Act) (w : World) (Q : Exit → Act → World → Prop) (hsz : a.tmps.size = 33)
    (t0 : a.tmps.getD 0 undef = .pointer (some ⟨d, 0, none⟩))
    (t3 : a.tmps.getD 3 undef = pkv)
    (t5 : a.tmps.getD 5 undef = iv)
    (GF0 : ∀ W, (Instr.fieldAt 86 (.pointer (some ⟨d, 0, none⟩)) 0).run Try.prog W = .ok f0 W) (GN : ∀ W, S W → (Instr.loadAt 83 f0).run Try.prog W = .ok nv W) (GB : ∀ W, (Instr.build 114 #[(0, kv), (3, .bool true)]).run Try.prog W = .ok xv W)
    (GK : ∀ W, S W → (Instr.loadAt 37 pkv).run Try.prog W = .ok kv W) (GX : ∀ W, (Instr.indexAt 83 nv iv).run Try.prog W = .ok pv W) (S0 : S w.drew)
    (ES : (Instr.storeAt 114 pv xv).run Try.prog w.drew = .ok () y) (Sy : S y)
    (h1 : ∀ (a' : Act) (w' : World), w' = y → a' = ((((((((a).put (some 25) (.pointer (some ⟨d, 0, none⟩))).put (some 26) (.pointer (some ⟨d, 0, none⟩))).put (some 27) (f0)).put (some 28) (nv)).put (some 29) (iv)).put (some 30) (kv)).put (some 31) (xv)).put (some 32) (pv) → Q .normal a' w') :
    (Code.region 7 rprune7_ops true).wp Try.prog Q a w := by
  refine wp_region_noPanic ?_
  refine wp_region_held_drew (S := fun w' => S w') (by kernel_rfl) (S0) (fun hHeld => ?_)
  change wpAnyH _ _ _ _ _ _ _ a _
  refine tk 0 rprune7_o0 (.pointer (some ⟨d, 0, none⟩)) (by rfl) (fun w1 hw => exec_move rfl t0) hHeld (fun a1 e1 => ?_)
  rw [← e1] at h1
  have z1 := pz e1 hsz
  clear t0
  replace t3 := pk e1 t3
  replace t5 := pk e1 t5
  have t25 := pq e1 hsz
  clear e1 hsz
  refine tk 1 rprune7_o1 (.pointer (some ⟨d, 0, none⟩)) (by rfl) (fun w1 hw => exec_nilCheck rfl t25) hHeld (fun a2 e2 => ?_)
  rw [← e2] at h1
  have z2 := pz e2 z1
  replace t3 := pk e2 t3
  replace t5 := pk e2 t5
  clear t25
  have t26 := pq e2 z1
  clear e2 z1
  refine tk 2 rprune7_o2 (f0) (by rfl) (fun w1 hw => exec_fieldAt rfl t26 (GF0 _)) hHeld (fun a3 e3 => ?_)
  rw [← e3] at h1
  have z3 := pz e3 z2
  replace t3 := pk e3 t3
  replace t5 := pk e3 t5
  clear t26
  have t27 := pq e3 z2
  clear e3 z2
  refine tk 3 rprune7_o3 (nv) (by rfl) (fun w1 hw => exec_load rfl t27 (GN _ hw)) hHeld (fun a4 e4 => ?_)
  rw [← e4] at h1
  have z4 := pz e4 z3
  replace t3 := pk e4 t3
  replace t5 := pk e4 t5
  clear t27
  have t28 := pq e4 z3
  clear e4 z3
  refine tk 4 rprune7_o4 (iv) (by rfl) (fun w1 hw => exec_move rfl t5) hHeld (fun a5 e5 => ?_)
  rw [← e5] at h1
  have z5 := pz e5 z4
  replace t3 := pk e5 t3
  clear t5
  replace t28 := pk e5 t28
  have t29 := pq e5 z4
  clear e5 z4
  refine tk 5 rprune7_o5 (kv) (by rfl) (fun w1 hw => exec_load rfl t3 (GK _ hw)) hHeld (fun a6 e6 => ?_)
  rw [← e6] at h1
  have z6 := pz e6 z5
  clear t3
  replace t28 := pk e6 t28
  replace t29 := pk e6 t29
  have t30 := pq e6 z5
  clear e6 z5
  refine tk 6 rprune7_o6 (xv) (by rfl) (fun w1 hw => exec_b2 rfl t30 rfl (GB _)) hHeld (fun a7 e7 => ?_)
  rw [← e7] at h1
  have z7 := pz e7 z6
  replace t28 := pk e7 t28
  replace t29 := pk e7 t29
  clear t30
  have t31 := pq e7 z6
  clear e7 z6
  refine tk 7 rprune7_o7 (pv) (by rfl) (fun w1 hw => exec_indexAt rfl t28 t29 (GX _)) hHeld (fun a8 e8 => ?_)
  rw [← e8] at h1
  have z8 := pz e8 z7
  clear t28
  clear t29
  replace t31 := pk e8 t31
  have t32 := pq e8 z7
  clear e8 z7
  refine wpAnyH_ready (rs := [8]) (by kernel_rfl) (by simp) ?_
  refine AllReadyH.cons (o := rprune7_o8) rfl (fun K hK => ?_) AllReadyH.nil
  skip
  have X := exec_store (P := Try.prog) (a := a8) (o := rprune7_o8) rfl t32 t31 ES
  rw [if_pos (by rfl), Oper.wp, X]
  show K _ _
  clear X
  refine hK.out _ _ (Sy) (fun hHeld => ?_)
  clear hK K
  exact wpAnyH_done (by kernel_rfl) (NoPanic.normal (h1 _ _ (rfl) rfl)) _
end Go.Proofs.Ytoofljkgdjjllaa

namespace Go.Proofs.Ytoofljkgdjjllaa
open Go.RowKit
set_option linter.unusedVariables false
set_option linter.unusedSimpArgs false
set_option linter.unusedSectionVars false

set_option maxRecDepth 100000 in
theorem build_rn0 (w : World) (a0 a1 a2 a3 a4 a5 a6 a7 a8 a9 a10 a11 a12 a13 a14 a15 a16 a17 a18 a19 a20 a21 a22 a23 a24 a25 a26 a27 a28 a29 a30 a31 a32 b0 b1 b2 b3 b4 b5 b6 b7 b8 b9 b10 b11 b12 b13 b14 b15 b16 b17 b18 b19 b20 b21 b22 b23 b24 b25 b26 b27 b28 b29 b30 b31 b32 : Value) (key : ByteArray) : (Instr.build 114 #[(0, .agg [a0, a1, a2, a3, a4, a5, a6, a7, a8, a9, a10, a11, a12, a13, a14, a15, a16, a17, a18, a19, a20, a21, a22, a23, a24, a25, a26, a27, a28, a29, a30, a31, a32].toArray), (1, .agg [b0, b1, b2, b3, b4, b5, b6, b7, b8, b9, b10, b11, b12, b13, b14, b15, b16, b17, b18, b19, b20, b21, b22, b23, b24, b25, b26, b27, b28, b29, b30, b31, b32].toArray), (2, .string key)]).run Try.prog w = .ok (.agg ([a0, a1, a2, a3, a4, a5, a6, a7, a8, a9, a10, a11, a12, a13, a14, a15, a16, a17, a18, a19, a20, a21, a22, a23, a24, a25, a26, a27, a28, a29, a30, a31, a32] ++ ([b0, b1, b2, b3, b4, b5, b6, b7, b8, b9, b10, b11, b12, b13, b14, b15, b16, b17, b18, b19, b20, b21, b22, b23, b24, b25, b26, b27, b28, b29, b30, b31, b32] ++ [Value.string key, Value.bool false])).toArray) w := by kernel_rfl
set_option maxRecDepth 100000 in
theorem build_rn (w : World) (k u : IdK) (hk : k.ok) (hu : u.ok) (key : ByteArray) : (Instr.build 114 #[(0, k.v), (1, u.v), (2, .string key)]).run Try.prog w = .ok (.agg (rnC (k, ⟨u, key, false⟩)).toArray) w := by
  have h := IdK.len hk
  have h2 := IdK.len hu
  unfold rnC IdK.v
  simp only
  generalize k.c = l at *
  generalize u.c = l2 at *
  match l, h, l2, h2 with
  | a0 :: a1 :: a2 :: a3 :: a4 :: a5 :: a6 :: a7 :: a8 :: a9 :: a10 :: a11 :: a12 :: a13 :: a14 :: a15 :: a16 :: a17 :: a18 :: a19 :: a20 :: a21 :: a22 :: a23 :: a24 :: a25 :: a26 :: a27 :: a28 :: a29 :: a30 :: a31 :: a32 :: [], _, b0 :: b1 :: b2 :: b3 :: b4 :: b5 :: b6 :: b7 :: b8 :: b9 :: b10 :: b11 :: b12 :: b13 :: b14 :: b15 :: b16 :: b17 :: b18 :: b19 :: b20 :: b21 :: b22 :: b23 :: b24 :: b25 :: b26 :: b27 :: b28 :: b29 :: b30 :: b31 :: b32 :: [], _ => exact build_rn0 w a0 a1 a2 a3 a4 a5 a6 a7 a8 a9 a10 a11 a12 a13 a14 a15 a16 a17 a18 a19 a20 a21 a22 a23 a24 a25 a26 a27 a28 a29 a30 a31 a32 b0 b1 b2 b3 b4 b5 b6 b7 b8 b9 b10 b11 b12 b13 b14 b15 b16 b17 b18 b19 b20 b21 b22 b23 b24 b25 b26 b27 b28 b29 b30 b31 b32 key
set_option maxRecDepth 100000 in
theorem build_rp0 (w : World) (a0 a1 a2 a3 a4 a5 a6 a7 a8 a9 a10 a11 a12 a13 a14 a15 a16 a17 a18 a19 a20 a21 a22 a23 a24 a25 a26 a27 a28 a29 a30 a31 a32 : Value) : (Instr.build 114 #[(0, .agg [a0, a1, a2, a3, a4, a5, a6, a7, a8, a9, a10, a11, a12, a13, a14, a15, a16, a17, a18, a19, a20, a21, a22, a23, a24, a25, a26, a27, a28, a29, a30, a31, a32].toArray), (3, .bool true)]).run Try.prog w = .ok (.agg ([a0, a1, a2, a3, a4, a5, a6, a7, a8, a9, a10, a11, a12, a13, a14, a15, a16, a17, a18, a19, a20, a21, a22, a23, a24, a25, a26, a27, a28, a29, a30, a31, a32] ++ (zId.c ++ [Value.string ⟨#[]⟩, Value.bool true])).toArray) w := by kernel_rfl
set_option maxRecDepth 100000 in
theorem build_rp (w : World) (k : IdK) (hk : k.ok) : (Instr.build 114 #[(0, k.v), (3, .bool true)]).run Try.prog w = .ok (.agg (rnC (k, ⟨zId, ⟨#[]⟩, true⟩)).toArray) w := by
  have h := IdK.len hk
  unfold rnC IdK.v
  simp only
  generalize k.c = l at *
  match l, h with
  | a0 :: a1 :: a2 :: a3 :: a4 :: a5 :: a6 :: a7 :: a8 :: a9 :: a10 :: a11 :: a12 :: a13 :: a14 :: a15 :: a16 :: a17 :: a18 :: a19 :: a20 :: a21 :: a22 :: a23 :: a24 :: a25 :: a26 :: a27 :: a28 :: a29 :: a30 :: a31 :: a32 :: [], _ => exact build_rp0 w a0 a1 a2 a3 a4 a5 a6 a7 a8 a9 a10 a11 a12 a13 a14 a15 a16 a17 a18 a19 a20 a21 a22 a23 a24 a25 a26 a27 a28 a29 a30 a31 a32

theorem tch_mark {B : Nat} {w w2 : World} {d : Nat} {NL : List RN} {PL : List (List RN)} {vn vp : Value} {us : List Value} (h : RefP B w d NL PL vn vp us) (b2 : Below w.heap.size w w2) {w3 : World} (t : Tch (fun j => j = d ∨ vp.ownBlock = some j) w2 w3) {j : Nat} (hj : w.heap.size ≤ j) (hl : j < w2.heap.size) : w3.heap[j]? = w2.heap[j]? := by
  refine t.block j hl ?_
  rintro (rfl | q)
  · have := (h.ge j (Or.inl rfl)).2; omega
  · have := (h.ge j (Or.inr (Or.inr (Or.inl q)))).2; omega
section
variable {B : Nat} {w : World} {d : Nat} {NL : List RN} {PL : List (List RN)} {vn vp : Value} {us : List Value} (h : RefP B w d NL PL vn vp us) (hB : B ≤ w.heap.size) (hn : NL.length ≤ 1300000000000) (hp : PL.length ≤ 1300000000000) (k u : IdK) (key : ByteArray) (hk : k.ok) (hu : u.ok)
include h hB hn hp hk hu
theorem grow_tail (hh : lookN NL k = none) {w2 w3 : World} {qv cv : Value} (b2 : Below w.heap.size w w2) (hx : IdAt w2 w.heap.size k) (hy : IdAt w2 (w.heap.size + 1) u) (hr : RefP B w3 d NL (PL ++ [NL]) vn qv (us ++ [cv])) (t : Tch (fun j => j = d ∨ vp.ownBlock = some j) w2 w3)
    (hb : ∀ j, refB d vn qv (us ++ [cv]) j → refB d vn vp us j ∨ w2.heap.size ≤ j) :
    ∃ (lv rv : Value) (w4 w5 w6 : World), (Instr.buildSlice 83 1 #[(0, .agg (rnC (k, ⟨u, key, false⟩)).toArray)]).run Try.prog w3.drew = .ok lv w4 ∧ (Builtin.append_ #[83, 83] 83 #[vn, lv]).run Try.prog w4 = .ok rv w5 ∧ (Instr.storeAt 83 (.pointer (some ⟨d, 0, none⟩)) rv).run Try.prog w5 = .ok () w6 ∧
      (∀ W, W = w3.drew ∨ W = w4 ∨ W = w5 ∨ W = w6 → IdAt W w.heap.size k ∧ IdAt W (w.heap.size + 1) u) ∧ (∀ W, W = w3.drew ∨ W = w4 → W.cell? ⟨d, 0, none⟩ = some vn) ∧ RStep B w d NL PL vn vp us k ⟨u, key, false⟩ 0 (.returned (.int .i64 0)) w6 := by
  have z2 := b2.size
  have z3 := t.size
  have l1 : w.heap.size + 1 < w2.heap.size := (Array.getElem?_eq_some_iff.1 hy).1
  have hx3 : IdAt w3 w.heap.size k := (tch_mark h b2 t (Nat.le_refl _) (by omega)).trans hx
  have hy3 : IdAt w3 (w.heap.size + 1) u := (tch_mark h b2 t (by omega) l1).trans hy
  have bd : Below w3.heap.size w3 w3.drew := (Below.refl _ _).drew
  have hrd := hr.below bd
  obtain ⟨lv, rv, w4, w5, e1, e2, e3, b4, t5, t6, hr6, hb6⟩ := more_runs hrd (show B ≤ w3.drew.heap.size by have : w3.drew.heap.size = w3.heap.size := rfl; omega) hn (k, ⟨u, key, false⟩) ⟨hk, hu⟩ (look_no hh)
  have zd : w3.drew.heap.size = w3.heap.size := rfl
  have nb : ∀ j, w.heap.size ≤ j → j < w2.heap.size → ¬ (j = d ∨ vn.ownBlock = some j) := by
    rintro j h1 h2 (rfl | q)
    · have := (h.ge j (Or.inl rfl)).2; omega
    · have := (h.ge j (Or.inr (Or.inl q))).2; omega
  have k5 : ∀ j, w.heap.size ≤ j → j < w2.heap.size → w5.heap[j]? = w3.drew.heap[j]? := fun j h1 h2 => t5.block j (by omega) (fun q => nb j h1 h2 (Or.inr q))
  have k6 : ∀ j, w.heap.size ≤ j → j < w2.heap.size → (w5.setCell ⟨d, 0, none⟩ rv).heap[j]? = w3.drew.heap[j]? := fun j h1 h2 => t6.block j (by omega) (nb j h1 h2)
  have hd : w3.drew.cell? ⟨d, 0, none⟩ = some vn := by rw [cell_of_row _ _ 0 _ _ _ hrd.cell]; rfl
  have ld := (Array.getElem?_eq_some_iff.1 hrd.cell).1
  have l0 := (h.ge d (Or.inl rfl)).2
  refine ⟨lv, rv, w4, w5, _, e1, e2, e3, ?_, ?_, Or.inr ⟨rfl, rfl, rv, qv, us ++ [cv], by rw [put_none hh]; exact hr6, ?_, fun j hj => ?_⟩⟩
  · rintro W (rfl | rfl | rfl | rfl)
    · exact ⟨hx3, hy3⟩
    · exact ⟨(b4.block _ (by omega)).trans hx3, (b4.block _ (by omega)).trans hy3⟩
    · exact ⟨(k5 _ (Nat.le_refl _) (by omega)).trans hx3, (k5 _ (by omega) l1).trans hy3⟩
    · exact ⟨(k6 _ (Nat.le_refl _) (by omega)).trans hx3, (k6 _ (by omega) l1).trans hy3⟩
  · rintro W (rfl | rfl)
    · exact hd
    · exact (b4.cell (p := ⟨d, 0, none⟩) ld).trans hd
  · have t0 : Tch (fun j => refB d vn vp us j) w w2 := ⟨b2.os, b2.tape, b2.output, b2.size, fun j hj _ => b2.block j hj⟩
    refine (t0.trans' (O' := fun j => j = d ∨ vp.ownBlock = some j) t fun i _ q => ?_).trans' (O' := fun j => j = d ∨ vn.ownBlock = some j) (Tch.trans ((Tch.refl _ w3).drew) t6) fun i _ q => ?_
    · rcases q with q | q
      · exact Or.inl q
      · exact Or.inr (Or.inr (Or.inl q))
    · rcases q with q | q
      · exact Or.inl q
      · exact Or.inr (Or.inl q)
  · rcases hb6 j hj with q | q
    · rcases hb j q with q | q
      · exact Or.inl q
      · exact Or.inr (by omega)
    · exact Or.inr (by omega)
set_option maxRecDepth 100000 in
set_option maxHeartbeats 4000000 in
theorem rgrow_ok (hz : k ≠ zId) (hh : lookN NL k = none) (hb : Bears (lookN NL) u = true) : Calls Try.prog 30 #[.pointer (some ⟨d, 0, none⟩), k.v, u.v, .string key] w (RStep B w d NL PL vn vp us k ⟨u, key, false⟩ 0) := by
  have hq : ∀ w : World, (binOp .eql 37 k.v zId.v).run Try.prog w = .ok (.bool false) w := fun w => by rw [eql_id k zId hk zId_ok, decide_eq_false hz]
  have hq2 : ∀ w : World, (binOp .neq 37 u.v zId.v).run Try.prog w = .ok (.bool (!decide (u = zId))) w := fun w => neq_id u zId hu zId_ok w
  have H1 : Hid (∀ W, Below w.heap.size w W → Calls Try.prog 74 #[.pointer (some ⟨d, 0, none⟩), k.v] W fun e w' => e = .returned (.bool false) ∧ Below W.heap.size W w') := fun W b => by
    have := rhas_any d NL vp k W (h.ref.below b) hk hn
    rwa [hh] at this
  have HM := hidMk (fun (W : World) (b : Below w.heap.size w W) => mark_any (h.below b) (Nat.le_trans hB b.size) hn hp)
  have HT := hidMk (fun (w2 w3 : World) (qv cv : Value) => grow_tail (w2 := w2) (w3 := w3) (qv := qv) (cv := cv) h hB hn hp k u key hk hu hh)
  have HU : Hid (u ≠ zId → ∀ W, Below w.heap.size w W → Calls Try.prog 74 #[.pointer (some ⟨d, 0, none⟩), u.v] W fun e w' => e = .returned (.bool true) ∧ Below W.heap.size W w') := fun hne W b => by
    have := rhas_any d NL vp u W (h.ref.below b) hu hn
    rcases bears_iff.1 hb with q | q
    · exact absurd q hne
    · rwa [q] at this
  clear hz hh hb hn hp hB h
  unfold IdK.v
  go_enter Try.func30, Try.ntmps30
  go_upto_region 1 with fail
  obtain ⟨hx, hy, bx, zx⟩ := two_boxes w k u
  have ZX := hidMk zx
  clear zx
  generalize (w.alloc (.cells k.c.toArray 37)).alloc (.cells u.c.toArray 37) = W at *
  have HX := hidMk (load_id hk hx)
  have HXI := hidMk hx
  have HYI := hidMk hy
  clear hx hy
  by_cases uz : u = zId
  · rw [decide_eq_true uz] at hq2
    simp only [Bool.not_true] at hq2
    clear uz
    go_upto_region 10 with (first
      | (refine wpList_val rfl (exec_load (t := 37) (u := .pointer (some ⟨w.heap.size, 0, none⟩)) rfl rfl HX.out) ?_)
      | (refine wpList_val rfl (exec_load (t := 37) (u := .pointer (some ⟨w.heap.size + 1, 0, none⟩)) rfl rfl HY.out) ?_)
      | (refine wpList_val rfl (exec_build0 rfl (build_id _)) ?_)
      | (refine wpList_val rfl (exec_binOp rfl rfl rfl (guard_id _ _ k zId _ _) (hq _)) ?_)
      | (refine wpList_val rfl (exec_binOp rfl rfl rfl (guard_id _ _ u zId _ _) (hq2 _)) ?_)
      | (go_at_call 74; refine (H1.out _ bx).mono ?_; rintro e w1 ⟨rfl, b1⟩; have HY := hidMk (load_id hu ((b1.block _ (by have := ZX.out; omega)).trans HYI.out)); have c1 := bx.trans (b1.mono bx.size); clear H1)
      | (go_at_call 75; refine (HM.out _ c1).mono ?_; rintro e w3 ⟨rfl, qv, cv, hr, t3, hb3⟩)
      | fail)
    have HXX := hidMk ((b1.block _ (by have := ZX.out; omega)).trans HXI.out)
    have HYY := hidMk ((b1.block _ (by have := ZX.out; omega)).trans HYI.out)
    obtain ⟨lv, rv, w4, w5, w6, e1, e2, e3, hS, hN, fin⟩ := HT.out w1 w3 qv cv c1 HXX.out HYY.out hr t3 hb3
    have z3 := t3.size
    obtain ⟨an, cn, en, _⟩ := hr.nodes.open hr.ok
    refine rgrow10 d (.pointer (some ⟨d, 0, none⟩)) (.pointer (some ⟨w.heap.size, 0, none⟩)) (.pointer (some ⟨w.heap.size + 1, 0, none⟩)) k.v u.v (.string key) (.agg (rnC (k, ⟨u, key, false⟩)).toArray) vn lv rv w4 w5 w6 (fun W => IdAt W w.heap.size k ∧ IdAt W (w.heap.size + 1) u) _ w3 _ rfl rfl rfl rfl rfl (fun W => by go_simp) (fun W => build_rn W k u hk hu key) (fun W hw => load_id hk hw.1) (fun W hw => load_id hu hw.2) (hS _ (Or.inl rfl)) (hS _ (Or.inr (Or.inl rfl))) (hS _ (Or.inr (Or.inr (Or.inl rfl)))) (hS _ (Or.inr (Or.inr (Or.inr rfl)))) (load_ns (hN _ (Or.inl rfl))) (load_ns (hN _ (Or.inr rfl))) e1 e2 e3 ?_ ?_
    all_goals
      intro a' w' hw' ha
      subst hw' ha
      simp only [Act.put, List.setIfInBounds_toArray, List.set_cons_zero, List.set_cons_succ]
      go_wp2
      go_ret
      exact fin
  · rw [decide_eq_false uz] at hq2
    simp only [Bool.not_false] at hq2
    have H2 := hidMk (HU.out uz)
    clear uz
    go_upto_region 10 with (first
      | (refine wpList_val rfl (exec_load (t := 37) (u := .pointer (some ⟨w.heap.size, 0, none⟩)) rfl rfl HX.out) ?_)
      | (refine wpList_val rfl (exec_load (t := 37) (u := .pointer (some ⟨w.heap.size + 1, 0, none⟩)) rfl rfl HY.out) ?_)
      | (refine wpList_val rfl (exec_build0 rfl (build_id _)) ?_)
      | (refine wpList_val rfl (exec_binOp rfl rfl rfl (guard_id _ _ k zId _ _) (hq _)) ?_)
      | (refine wpList_val rfl (exec_binOp rfl rfl rfl (guard_id _ _ u zId _ _) (hq2 _)) ?_)
      | (go_at_call 74; refine (H1.out _ bx).mono ?_; rintro e w1 ⟨rfl, b1⟩; have HY := hidMk (load_id hu ((b1.block _ (by have := ZX.out; omega)).trans HYI.out)); have c1 := bx.trans (b1.mono bx.size); clear H1)
      | (go_at_call 74; refine (H2.out _ c1).mono ?_; rintro e w2 ⟨rfl, b2⟩; have c2 := c1.trans (b2.mono c1.size); clear H2)
      | (go_at_call 75; refine (HM.out _ c2).mono ?_; rintro e w3 ⟨rfl, qv, cv, hr, t3, hb3⟩)
      | fail)
    have HXX := hidMk ((b2.block _ (by have := ZX.out; have := b1.size; omega)).trans ((b1.block _ (by have := ZX.out; omega)).trans HXI.out))
    have HYY := hidMk ((b2.block _ (by have := ZX.out; have := b1.size; omega)).trans ((b1.block _ (by have := ZX.out; omega)).trans HYI.out))
    obtain ⟨lv, rv, w4, w5, w6, e1, e2, e3, hS, hN, fin⟩ := HT.out w2 w3 qv cv c2 HXX.out HYY.out hr t3 hb3
    have z3 := t3.size
    obtain ⟨an, cn, en, _⟩ := hr.nodes.open hr.ok
    refine rgrow10 d (.pointer (some ⟨d, 0, none⟩)) (.pointer (some ⟨w.heap.size, 0, none⟩)) (.pointer (some ⟨w.heap.size + 1, 0, none⟩)) k.v u.v (.string key) (.agg (rnC (k, ⟨u, key, false⟩)).toArray) vn lv rv w4 w5 w6 (fun W => IdAt W w.heap.size k ∧ IdAt W (w.heap.size + 1) u) _ w3 _ rfl rfl rfl rfl rfl (fun W => by go_simp) (fun W => build_rn W k u hk hu key) (fun W hw => load_id hk hw.1) (fun W hw => load_id hu hw.2) (hS _ (Or.inl rfl)) (hS _ (Or.inr (Or.inl rfl))) (hS _ (Or.inr (Or.inr (Or.inl rfl)))) (hS _ (Or.inr (Or.inr (Or.inr rfl)))) (load_ns (hN _ (Or.inl rfl))) (load_ns (hN _ (Or.inr rfl))) e1 e2 e3 ?_ ?_
    all_goals
      intro a' w' hw' ha
      subst hw' ha
      simp only [Act.put, List.setIfInBounds_toArray, List.set_cons_zero, List.set_cons_succ]
      go_wp2
      go_ret
      exact fin
end
end Go.Proofs.Ytoofljkgdjjllaa

namespace Go.Proofs.Ytoofljkgdjjllaa
open Go.RowKit
set_option linter.unusedVariables false
set_option linter.unusedSimpArgs false
set_option linter.unusedSectionVars false

theorem ix_rz {g n c j : Nat} (h : j < n) (hn : n ≤ 9223372036854775807) (w : World) : (Instr.indexAt 83 (.slice (some ⟨g, 0, none⟩) n c) (.int .i64 (j : Int))).run Try.prog w = .ok (.pointer (some ⟨g, j * 68, none⟩)) w := by
  have := ix_rn (b := g) (o := 0) (c := c) h hn w
  rwa [Nat.zero_add] at this
theorem up_above {f : Fn} (hf : Forest f) {u k : IdK} {l : List IdK} {b : Bool} (h : UpIs f u l b) (hne : u ≠ k) : k ∈ l ↔ Above f u k := by
  rcases h with ⟨h1, rfl, _⟩ | ⟨_, p, hc, _⟩
  · have hc : Climb f u [] (nd f u).pr := .top (Or.inr (by rw [nd, h1]; rfl))
    constructor
    · intro q; cases q
    · rintro (q | ⟨l', p', hc', hm⟩)
      · exact absurd q hne
      · obtain ⟨rfl, _⟩ := hc.same hc'; exact hm
  · constructor
    · exact fun q => Or.inr ⟨l, p, hc, q⟩
    · rintro (q | ⟨l', p', hc', hm⟩)
      · exact absurd q hne
      · obtain ⟨rfl, _⟩ := hc.same hc'; exact hm
section
variable {B : Nat} {w : World} {d : Nat} {NL : List RN} {PL : List (List RN)} {vn vp : Value} {us : List Value} (h : RefP B w d NL PL vn vp us) (hB : B ≤ w.heap.size) (hn : NL.length ≤ 1300000000000) (hp : PL.length ≤ 1300000000000) (k u : IdK) (key : ByteArray) (hk : k.ok) (hu : u.ok)
include h hB hn hp hk
theorem put_tail {m n : NodeV} (hno : n.u.ok) (hh : lookN NL k = some m) {w2 w3 : World} {qv cv : Value} (b2 : Below w.heap.size w w2) (hr : RefP B w3 d NL (PL ++ [NL]) vn qv (us ++ [cv])) (t : Tch (fun j => j = d ∨ vp.ownBlock = some j) w2 w3) (hb : ∀ j, refB d vn qv (us ++ [cv]) j → refB d vn vp us j ∨ w2.heap.size ≤ j) :
    ∃ j g c : Nat, fPos NL k = (j : Int) ∧ j < NL.length ∧ vn = .slice (some ⟨g, 0, none⟩) NL.length c ∧ ∀ X, Below w3.heap.size w3 X → X.cell? ⟨d, 0, none⟩ = some vn ∧ (∀ i, w.heap.size ≤ i → i < w2.heap.size → X.heap[i]? = w2.heap[i]?) ∧
      ∃ y, (Instr.storeAt 114 (.pointer (some ⟨g, j * 68, none⟩)) (.agg (rnC (k, n)).toArray)).run Try.prog X = .ok () y ∧ y.cell? ⟨d, 0, none⟩ = some vn ∧ (∀ i, w.heap.size ≤ i → i < w2.heap.size → y.heap[i]? = w2.heap[i]?) ∧ RStep B w d NL PL vn vp us k n 0 (.returned (.int .i64 0)) y := by
  obtain ⟨j, ej, hj, lj, ep⟩ := put_some hh n
  have z2 := b2.size
  have z3 := t.size
  have own : ∃ g c, vn = .slice (some ⟨g, 0, none⟩) NL.length c := by
    obtain ⟨g, c, e, _⟩ := own_setN hr.nodes hr.ok lj (x := (k, n)) ⟨hk, hno⟩
    exact ⟨g, c, e⟩
  obtain ⟨g, c, hv⟩ := own
  refine ⟨j, g, c, ej, lj, hv, fun X bX => ?_⟩
  have hX := hr.below bX
  have keepX : ∀ i, w.heap.size ≤ i → i < w2.heap.size → X.heap[i]? = w2.heap[i]? := fun i h1 h2 => (bX.block i (by omega)).trans (tch_mark h b2 t h1 h2)
  obtain ⟨g', c', y, e', es, ty, hy⟩ := other_runs hX j lj (k, n) ⟨hk, hno⟩ (by rw [List.getElem?_map, hj]; rfl)
  rw [hv] at e'
  injection e' with e1 e2 e3
  injection e1 with e1
  injection e1 with e1
  subst e1 e3
  have zX := bX.size
  refine ⟨by rw [cell_of_row _ _ 0 _ _ _ hX.cell]; rfl, keepX, y, es, by rw [cell_of_row _ _ 0 _ _ _ hy.cell]; rfl, fun i h1 h2 => ?_, Or.inr ⟨rfl, rfl, vn, qv, us ++ [cv], by rw [ep]; exact hy, ?_, fun i hi => ?_⟩⟩
  · refine (ty.block i (by omega) fun q => ?_).trans (keepX i h1 h2)
    have := (h.ge i (Or.inr (Or.inl q))).2
    omega
  · have t0 : Tch (fun j => refB d vn vp us j) w w2 := ⟨b2.os, b2.tape, b2.output, b2.size, fun j hj _ => b2.block j hj⟩
    refine ((t0.trans' (O' := fun j => j = d ∨ vp.ownBlock = some j) t fun i _ q => ?_).trans ⟨bX.os, bX.tape, bX.output, bX.size, fun j hj _ => bX.block j hj⟩).trans' (O' := fun j => vn.ownBlock = some j) ty fun i _ q => Or.inr (Or.inl q)
    rcases q with q | q
    · exact Or.inl q
    · exact Or.inr (Or.inr (Or.inl q))
  · rcases hb i hi with q | q
    · exact Or.inl q
    · exact Or.inr (by omega)
include hu
set_option maxRecDepth 100000 in
set_option maxHeartbeats 4000000 in
theorem rmove_out (hh : (lookN NL k).isSome = false) : Calls Try.prog 31 #[.pointer (some ⟨d, 0, none⟩), k.v, u.v, .string key] w (fun e w' => e = .returned (.int .i64 4) ∧ Below w.heap.size w w') := by
  have H1 : Hid (∀ W, Below w.heap.size w W → Calls Try.prog 74 #[.pointer (some ⟨d, 0, none⟩), k.v] W fun e w' => e = .returned (.bool false) ∧ Below W.heap.size W w') := fun W b => by
    have := rhas_any d NL vp k W (h.ref.below b) hk hn
    rwa [hh] at this
  clear hh h hn hp hB
  unfold IdK.v
  go_enter Try.func31, Try.ntmps31
  go_upto_region 1 with fail
  obtain ⟨hx, hy, bx, zx⟩ := two_boxes w k u
  have ZX := hidMk zx
  clear zx
  generalize (w.alloc (.cells k.c.toArray 37)).alloc (.cells u.c.toArray 37) = W at *
  have HXI := hidMk hx
  have HYI := hidMk hy
  have HX := hidMk (fun (V : World) (b : Below W.heap.size W V) => load_id hk ((b.block _ (by have := ZX.out; omega)).trans HXI.out))
  have HY := hidMk (fun (V : World) (b : Below W.heap.size W V) => load_id hu ((b.block _ (by have := ZX.out; omega)).trans HYI.out))
  have BXX := hidMk bx
  have cW : Below W.heap.size W W := Below.refl _ _
  clear hx hy
  go_wp2_with (first
      | (refine wpList_val rfl (exec_load (t := 37) (u := .pointer (some ⟨w.heap.size, 0, none⟩)) rfl rfl (HX.out _ cW)) ?_)
      | (refine wpList_val rfl (exec_load (t := 37) (u := .pointer (some ⟨w.heap.size + 1, 0, none⟩)) rfl rfl (HY.out _ cW)) ?_)
      | (refine wpList_val rfl (exec_build0 rfl (build_id _)) ?_)
      | (go_at_call 74; refine (H1.out _ (BXX.out.trans (cW.mono BXX.out.size))).mono ?_; rintro e w1 ⟨rfl, b1⟩; have c1 := cW.trans (b1.mono cW.size); clear H1)
      | fail)
  go_ret
  exact ⟨rfl, BXX.out.trans (c1.mono BXX.out.size)⟩
set_option maxRecDepth 100000 in
set_option maxHeartbeats 4000000 in
theorem rmove_none (hh : (lookN NL k).isSome = true) (hz : u ≠ zId) (hus : (lookN NL u).isSome = false) : Calls Try.prog 31 #[.pointer (some ⟨d, 0, none⟩), k.v, u.v, .string key] w (fun e w' => e = .returned (.int .i64 4) ∧ Below w.heap.size w w') := by
  have H1 : Hid (∀ W, Below w.heap.size w W → Calls Try.prog 74 #[.pointer (some ⟨d, 0, none⟩), k.v] W fun e w' => e = .returned (.bool true) ∧ Below W.heap.size W w') := fun W b => by
    have := rhas_any d NL vp k W (h.ref.below b) hk hn
    rwa [hh] at this
  have HU : Hid (∀ W, Below w.heap.size w W → Calls Try.prog 74 #[.pointer (some ⟨d, 0, none⟩), u.v] W fun e w' => e = .returned (.bool false) ∧ Below W.heap.size W w') := fun W b => by
    have := rhas_any d NL vp u W (h.ref.below b) hu hn
    rwa [hus] at this
  have hq2 : ∀ w : World, (binOp .neq 37 u.v zId.v).run Try.prog w = .ok (.bool true) w := fun w => by rw [neq_id u zId hu zId_ok, decide_eq_false hz]; rfl
  clear hh h hn hp hB hz hus
  unfold IdK.v
  go_enter Try.func31, Try.ntmps31
  go_upto_region 1 with fail
  obtain ⟨hx, hy, bx, zx⟩ := two_boxes w k u
  have ZX := hidMk zx
  clear zx
  generalize (w.alloc (.cells k.c.toArray 37)).alloc (.cells u.c.toArray 37) = W at *
  have HXI := hidMk hx
  have HYI := hidMk hy
  have HX := hidMk (fun (V : World) (b : Below W.heap.size W V) => load_id hk ((b.block _ (by have := ZX.out; omega)).trans HXI.out))
  have HY := hidMk (fun (V : World) (b : Below W.heap.size W V) => load_id hu ((b.block _ (by have := ZX.out; omega)).trans HYI.out))
  have BXX := hidMk bx
  have cW : Below W.heap.size W W := Below.refl _ _
  clear hx hy
  go_wp2_with (first
      | (refine wpList_val rfl (exec_load (t := 37) (u := .pointer (some ⟨w.heap.size, 0, none⟩)) rfl rfl (HX.out _ c1)) ?_)
      | (refine wpList_val rfl (exec_load (t := 37) (u := .pointer (some ⟨w.heap.size + 1, 0, none⟩)) rfl rfl (HY.out _ c1)) ?_)
      | (refine wpList_val rfl (exec_load (t := 37) (u := .pointer (some ⟨w.heap.size, 0, none⟩)) rfl rfl (HX.out _ cW)) ?_)
      | (refine wpList_val rfl (exec_load (t := 37) (u := .pointer (some ⟨w.heap.size + 1, 0, none⟩)) rfl rfl (HY.out _ cW)) ?_)
      | (refine wpList_val rfl (exec_build0 rfl (build_id _)) ?_)
      | (refine wpList_val rfl (exec_binOp rfl rfl rfl (guard_id _ _ u zId _ _) (hq2 _)) ?_)
      | (go_at_call 74; refine (H1.out _ (BXX.out.trans (cW.mono BXX.out.size))).mono ?_; rintro e w1 ⟨rfl, b1⟩; have c1 := cW.trans (b1.mono cW.size); clear H1)
      | (go_at_call 74; refine (HU.out _ (BXX.out.trans (c1.mono BXX.out.size))).mono ?_; rintro e w2 ⟨rfl, b2⟩; have c2 := c1.trans (b2.mono c1.size); clear HU)
      | fail)
  go_ret
  exact ⟨rfl, BXX.out.trans (c2.mono BXX.out.size)⟩
set_option maxRecDepth 100000 in
set_option maxHeartbeats 4000000 in
theorem rmove_self (hh : (lookN NL k).isSome = true) (hz : u ≠ zId) (hus : (lookN NL u).isSome = true) (hne : u = k) : Calls Try.prog 31 #[.pointer (some ⟨d, 0, none⟩), k.v, u.v, .string key] w (fun e w' => e = .returned (.int .i64 100) ∧ Below w.heap.size w w') := by
  have H1 : Hid (∀ W, Below w.heap.size w W → Calls Try.prog 74 #[.pointer (some ⟨d, 0, none⟩), k.v] W fun e w' => e = .returned (.bool true) ∧ Below W.heap.size W w') := fun W b => by
    have := rhas_any d NL vp k W (h.ref.below b) hk hn
    rwa [hh] at this
  have HU : Hid (∀ W, Below w.heap.size w W → Calls Try.prog 74 #[.pointer (some ⟨d, 0, none⟩), u.v] W fun e w' => e = .returned (.bool true) ∧ Below W.heap.size W w') := fun W b => by
    have := rhas_any d NL vp u W (h.ref.below b) hu hn
    rwa [hus] at this
  have hq2 : ∀ w : World, (binOp .neq 37 u.v zId.v).run Try.prog w = .ok (.bool true) w := fun w => by rw [neq_id u zId hu zId_ok, decide_eq_false hz]; rfl
  have hq3 : ∀ w : World, (binOp .eql 37 u.v k.v).run Try.prog w = .ok (.bool true) w := fun w => by rw [eql_id u k hu hk, decide_eq_true hne]
  clear hh h hn hp hB hz hus hne
  unfold IdK.v
  go_enter Try.func31, Try.ntmps31
  go_upto_region 1 with fail
  obtain ⟨hx, hy, bx, zx⟩ := two_boxes w k u
  have ZX := hidMk zx
  clear zx
  generalize (w.alloc (.cells k.c.toArray 37)).alloc (.cells u.c.toArray 37) = W at *
  have HXI := hidMk hx
  have HYI := hidMk hy
  have HX := hidMk (fun (V : World) (b : Below W.heap.size W V) => load_id hk ((b.block _ (by have := ZX.out; omega)).trans HXI.out))
  have HY := hidMk (fun (V : World) (b : Below W.heap.size W V) => load_id hu ((b.block _ (by have := ZX.out; omega)).trans HYI.out))
  have BXX := hidMk bx
  have cW : Below W.heap.size W W := Below.refl _ _
  clear hx hy
  go_wp2_with (first
      | (refine wpList_val rfl (exec_load (t := 37) (u := .pointer (some ⟨w.heap.size, 0, none⟩)) rfl rfl (HX.out _ c2)) ?_)
      | (refine wpList_val rfl (exec_load (t := 37) (u := .pointer (some ⟨w.heap.size + 1, 0, none⟩)) rfl rfl (HY.out _ c2)) ?_)
      | (refine wpList_val rfl (exec_load (t := 37) (u := .pointer (some ⟨w.heap.size, 0, none⟩)) rfl rfl (HX.out _ c1)) ?_)
      | (refine wpList_val rfl (exec_load (t := 37) (u := .pointer (some ⟨w.heap.size + 1, 0, none⟩)) rfl rfl (HY.out _ c1)) ?_)
      | (refine wpList_val rfl (exec_load (t := 37) (u := .pointer (some ⟨w.heap.size, 0, none⟩)) rfl rfl (HX.out _ cW)) ?_)
      | (refine wpList_val rfl (exec_load (t := 37) (u := .pointer (some ⟨w.heap.size + 1, 0, none⟩)) rfl rfl (HY.out _ cW)) ?_)
      | (refine wpList_val rfl (exec_build0 rfl (build_id _)) ?_)
      | (refine wpList_val rfl (exec_binOp rfl rfl rfl (guard_id _ _ u zId _ _) (hq2 _)) ?_)
      | (refine wpList_val rfl (exec_binOp rfl rfl rfl (guard_id _ _ u k _ _) (hq3 _)) ?_)
      | (go_at_call 74; refine (H1.out _ (BXX.out.trans (cW.mono BXX.out.size))).mono ?_; rintro e w1 ⟨rfl, b1⟩; have c1 := cW.trans (b1.mono cW.size); clear H1)
      | (go_at_call 74; refine (HU.out _ (BXX.out.trans (c1.mono BXX.out.size))).mono ?_; rintro e w2 ⟨rfl, b2⟩; have c2 := c1.trans (b2.mono c1.size); clear HU)
      | fail)
  go_ret
  exact ⟨rfl, BXX.out.trans (c2.mono BXX.out.size)⟩
set_option maxRecDepth 100000 in
set_option maxHeartbeats 4000000 in
theorem rmove_ring (hf : Forest (lookN NL)) (hh : (lookN NL k).isSome = true) (hz : u ≠ zId) (hus : (lookN NL u).isSome = true) (hne : u ≠ k) (hab : Above (lookN NL) u k) : Calls Try.prog 31 #[.pointer (some ⟨d, 0, none⟩), k.v, u.v, .string key] w (fun e w' => e = .returned (.int .i64 100) ∧ Below w.heap.size w w') := by
  have H1 : Hid (∀ W, Below w.heap.size w W → Calls Try.prog 74 #[.pointer (some ⟨d, 0, none⟩), k.v] W fun e w' => e = .returned (.bool true) ∧ Below W.heap.size W w') := fun W b => by
    have := rhas_any d NL vp k W (h.ref.below b) hk hn
    rwa [hh] at this
  have HU : Hid (∀ W, Below w.heap.size w W → Calls Try.prog 74 #[.pointer (some ⟨d, 0, none⟩), u.v] W fun e w' => e = .returned (.bool true) ∧ Below W.heap.size W w') := fun W b => by
    have := rhas_any d NL vp u W (h.ref.below b) hu hn
    rwa [hus] at this
  have hq2 : ∀ w : World, (binOp .neq 37 u.v zId.v).run Try.prog w = .ok (.bool true) w := fun w => by rw [neq_id u zId hu zId_ok, decide_eq_false hz]; rfl
  have hq3 : ∀ w : World, (binOp .eql 37 u.v k.v).run Try.prog w = .ok (.bool false) w := fun w => by rw [eql_id u k hu hk, decide_eq_false hne]
  have HL : Hid (∀ W, Below w.heap.size w W → Calls Try.prog 76 #[.pointer (some ⟨d, 0, none⟩), u.v, k.v] W fun e w' => e = .returned (.bool true) ∧ Below W.heap.size W w') := fun W b => by
    refine (rlies_any d NL vp u k W (h.ref.below b) hu hk hn hf).mono ?_
    rintro e w' ⟨l, bb, rfl, hup, bl⟩
    refine ⟨?_, bl⟩
    have := up_above hf hup hne
    rw [decide_eq_true (this.2 hab)]
  clear hh h hn hp hB hz hus hne hab hf
  unfold IdK.v
  go_enter Try.func31, Try.ntmps31
  go_upto_region 1 with fail
  obtain ⟨hx, hy, bx, zx⟩ := two_boxes w k u
  have ZX := hidMk zx
  clear zx
  generalize (w.alloc (.cells k.c.toArray 37)).alloc (.cells u.c.toArray 37) = W at *
  have HXI := hidMk hx
  have HYI := hidMk hy
  have HX := hidMk (fun (V : World) (b : Below W.heap.size W V) => load_id hk ((b.block _ (by have := ZX.out; omega)).trans HXI.out))
  have HY := hidMk (fun (V : World) (b : Below W.heap.size W V) => load_id hu ((b.block _ (by have := ZX.out; omega)).trans HYI.out))
  have BXX := hidMk bx
  have cW : Below W.heap.size W W := Below.refl _ _
  clear hx hy
  go_wp2_with (first
      | (refine wpList_val rfl (exec_load (t := 37) (u := .pointer (some ⟨w.heap.size, 0, none⟩)) rfl rfl (HX.out _ c2)) ?_)
      | (refine wpList_val rfl (exec_load (t := 37) (u := .pointer (some ⟨w.heap.size + 1, 0, none⟩)) rfl rfl (HY.out _ c2)) ?_)
      | (refine wpList_val rfl (exec_load (t := 37) (u := .pointer (some ⟨w.heap.size, 0, none⟩)) rfl rfl (HX.out _ c1)) ?_)
      | (refine wpList_val rfl (exec_load (t := 37) (u := .pointer (some ⟨w.heap.size + 1, 0, none⟩)) rfl rfl (HY.out _ c1)) ?_)
      | (refine wpList_val rfl (exec_load (t := 37) (u := .pointer (some ⟨w.heap.size, 0, none⟩)) rfl rfl (HX.out _ cW)) ?_)
      | (refine wpList_val rfl (exec_load (t := 37) (u := .pointer (some ⟨w.heap.size + 1, 0, none⟩)) rfl rfl (HY.out _ cW)) ?_)
      | (refine wpList_val rfl (exec_build0 rfl (build_id _)) ?_)
      | (refine wpList_val rfl (exec_binOp rfl rfl rfl (guard_id _ _ u zId _ _) (hq2 _)) ?_)
      | (refine wpList_val rfl (exec_binOp rfl rfl rfl (guard_id _ _ u k _ _) (hq3 _)) ?_)
      | (go_at_call 74; refine (H1.out _ (BXX.out.trans (cW.mono BXX.out.size))).mono ?_; rintro e w1 ⟨rfl, b1⟩; have c1 := cW.trans (b1.mono cW.size); clear H1)
      | (go_at_call 74; refine (HU.out _ (BXX.out.trans (c1.mono BXX.out.size))).mono ?_; rintro e w2 ⟨rfl, b2⟩; have c2 := c1.trans (b2.mono c1.size); clear HU)
      | (go_at_call 76; refine (HL.out _ (BXX.out.trans (c2.mono BXX.out.size))).mono ?_; rintro e w3 ⟨rfl, b3⟩; have c3 := c2.trans (b3.mono c2.size); clear HL)
      | fail)
  go_ret
  exact ⟨rfl, BXX.out.trans (c3.mono BXX.out.size)⟩
set_option maxRecDepth 100000 in
set_option maxHeartbeats 4000000 in
theorem rmove_top {m : NodeV} (hm : lookN NL k = some m) (hf : Forest (lookN NL)) (hz : u = zId) (hne : u ≠ k) (hab : ¬ Above (lookN NL) u k) : Calls Try.prog 31 #[.pointer (some ⟨d, 0, none⟩), k.v, u.v, .string key] w (RStep B w d NL PL vn vp us k ⟨u, key, false⟩ 0) := by
  have hh : (lookN NL k).isSome = true := by rw [hm]; rfl
  have H1 : Hid (∀ W, Below w.heap.size w W → Calls Try.prog 74 #[.pointer (some ⟨d, 0, none⟩), k.v] W fun e w' => e = .returned (.bool true) ∧ Below W.heap.size W w') := fun W b => by
    have := rhas_any d NL vp k W (h.ref.below b) hk hn
    rwa [hh] at this
  have hq2 : ∀ w : World, (binOp .neq 37 u.v zId.v).run Try.prog w = .ok (.bool false) w := fun w => by rw [neq_id u zId hu zId_ok, decide_eq_true hz]; rfl
  have hq3 : ∀ w : World, (binOp .eql 37 u.v k.v).run Try.prog w = .ok (.bool false) w := fun w => by rw [eql_id u k hu hk, decide_eq_false hne]
  have HL : Hid (∀ W, Below w.heap.size w W → Calls Try.prog 76 #[.pointer (some ⟨d, 0, none⟩), u.v, k.v] W fun e w' => e = .returned (.bool false) ∧ Below W.heap.size W w') := fun W b => by
    refine (rlies_any d NL vp u k W (h.ref.below b) hu hk hn hf).mono ?_
    rintro e w' ⟨l, bb, rfl, hup, bl⟩
    refine ⟨?_, bl⟩
    have := up_above hf hup hne
    rw [decide_eq_false (fun q => hab (this.1 q))]
  have HM := hidMk (fun (W : World) (b : Below w.heap.size w W) => mark_any (h.below b) (Nat.le_trans hB b.size) hn hp)
  have HT := hidMk (fun (w2 w3 : World) (qv cv : Value) => put_tail (w2 := w2) (w3 := w3) (qv := qv) (cv := cv) h hB hn hp k hk (n := ⟨u, key, false⟩) hu hm)
  have hn0 := hn
  clear hh hp hB hz hne hab hf h hn
  unfold IdK.v
  go_enter Try.func31, Try.ntmps31
  go_upto_region 1 with fail
  obtain ⟨hx, hy, bx, zx⟩ := two_boxes w k u
  have ZX := hidMk zx
  clear zx
  generalize (w.alloc (.cells k.c.toArray 37)).alloc (.cells u.c.toArray 37) = W at *
  have HXI := hidMk hx
  have HYI := hidMk hy
  have HX := hidMk (fun (V : World) (b : Below W.heap.size W V) => load_id hk ((b.block _ (by have := ZX.out; omega)).trans HXI.out))
  have HY := hidMk (fun (V : World) (b : Below W.heap.size W V) => load_id hu ((b.block _ (by have := ZX.out; omega)).trans HYI.out))
  have BXX := hidMk bx
  have cW : Below W.heap.size W W := Below.refl _ _
  clear hx hy
  go_upto_region 10 with (first
      | (refine wpList_val rfl (exec_load (t := 37) (u := .pointer (some ⟨w.heap.size, 0, none⟩)) rfl rfl (HX.out _ c1)) ?_)
      | (refine wpList_val rfl (exec_load (t := 37) (u := .pointer (some ⟨w.heap.size + 1, 0, none⟩)) rfl rfl (HY.out _ c1)) ?_)
      | (refine wpList_val rfl (exec_load (t := 37) (u := .pointer (some ⟨w.heap.size, 0, none⟩)) rfl rfl (HX.out _ cW)) ?_)
      | (refine wpList_val rfl (exec_load (t := 37) (u := .pointer (some ⟨w.heap.size + 1, 0, none⟩)) rfl rfl (HY.out _ cW)) ?_)
      | (refine wpList_val rfl (exec_build0 rfl (build_id _)) ?_)
      | (refine wpList_val rfl (exec_binOp rfl rfl rfl (guard_id _ _ u zId _ _) (hq2 _)) ?_)
      | (refine wpList_val rfl (exec_binOp rfl rfl rfl (guard_id _ _ u k _ _) (hq3 _)) ?_)
      | (go_at_call 74; refine (H1.out _ (BXX.out.trans (cW.mono BXX.out.size))).mono ?_; rintro e w1 ⟨rfl, b1⟩; have c1 := cW.trans (b1.mono cW.size); clear H1)
      | (go_at_call 76; refine (HL.out _ (BXX.out.trans (c1.mono BXX.out.size))).mono ?_; rintro e w3 ⟨rfl, b3⟩; have c3 := c1.trans (b3.mono c1.size); clear HL)
      | (go_at_call 75; refine (HM.out _ (BXX.out.trans (c3.mono BXX.out.size))).mono ?_; rintro e w4 ⟨rfl, qv, cv, hr, t4, hb4⟩)
      | fail)
  have CN := BXX.out.trans (c3.mono BXX.out.size)
  obtain ⟨j, g, c, ej, lj, hv, hX⟩ := HT.out w3 w4 qv cv CN hr t4 hb4
  have HR := hidMk (fun (V : World) (b : Below w4.heap.size w4 V) => find_any d NL qv k V (hr.ref.below b) hk hn0)
  have hx2 : IdAt w3 w.heap.size k := (c3.block _ (by have := ZX.out; omega)).trans HXI.out
  have hy2 : IdAt w3 (w.heap.size + 1) u := (c3.block _ (by have := ZX.out; omega)).trans HYI.out
  have l2 : w.heap.size + 1 < w3.heap.size := (Array.getElem?_eq_some_iff.1 hy2).1
  have bd : Below w4.heap.size w4 w4.drew := (Below.refl _ _).drew
  have hS : ∀ X, Below w4.heap.size w4 X → IdAt X w.heap.size k ∧ IdAt X (w.heap.size + 1) u ∧ X.cell? ⟨d, 0, none⟩ = some vn := fun X bX => by
    obtain ⟨q1, q2, _⟩ := hX X bX
    exact ⟨(q2 _ (Nat.le_refl _) (by omega)).trans hx2, (q2 _ (by omega) l2).trans hy2, q1⟩
  refine rmove10 d (.pointer (some ⟨d, 0, none⟩)) (.pointer (some ⟨w.heap.size, 0, none⟩)) (.pointer (some ⟨w.heap.size + 1, 0, none⟩)) k.v u.v (.string key) (.agg (rnC (k, ⟨u, key, false⟩)).toArray) vn (.int .i64 (j : Int)) (.pointer (some ⟨g, j * 68, none⟩))
    (fun W => IdAt W w.heap.size k ∧ IdAt W (w.heap.size + 1) u ∧ W.cell? ⟨d, 0, none⟩ = some vn) (fun X => Below w4.heap.size w4 X) (fun y => RStep B w d NL PL vn vp us k ⟨u, key, false⟩ 0 (.returned (.int .i64 0)) y) _ w4 _ rfl rfl rfl rfl rfl (fun W => by go_simp) (fun W hw => load_ns hw.2.2) (fun W => build_rn W k u hk hu key) (fun W hw => load_id hk hw.1) (fun W hw => load_id hu hw.2.1) (fun W => by rw [hv]; exact ix_rz lj (by omega) W) (hS _ bd) ?_ hS ?_ ?_
  · refine (HR.out _ bd).mono ?_
    rintro e w5 ⟨rfl, b5⟩
    exact ⟨by rw [ej], bd.trans (b5.mono bd.size)⟩
  · intro X bX
    obtain ⟨_, _, y, q3, q4, q5, q6⟩ := hX X bX
    exact ⟨y, q3, ⟨(q5 _ (Nat.le_refl _) (by omega)).trans hx2, (q5 _ (by omega) l2).trans hy2, q4⟩, q6⟩
  · intro a' w' hw' ha
    subst ha
    simp only [Act.put, List.setIfInBounds_toArray, List.set_cons_zero, List.set_cons_succ]
    go_wp2
    go_ret
    exact hw'
set_option maxRecDepth 100000 in
set_option maxHeartbeats 4000000 in
theorem rmove_node {m : NodeV} (hm : lookN NL k = some m) (hf : Forest (lookN NL)) (hz : u ≠ zId) (hus : (lookN NL u).isSome = true) (hne : u ≠ k) (hab : ¬ Above (lookN NL) u k) : Calls Try.prog 31 #[.pointer (some ⟨d, 0, none⟩), k.v, u.v, .string key] w (RStep B w d NL PL vn vp us k ⟨u, key, false⟩ 0) := by
  have hh : (lookN NL k).isSome = true := by rw [hm]; rfl
  have H1 : Hid (∀ W, Below w.heap.size w W → Calls Try.prog 74 #[.pointer (some ⟨d, 0, none⟩), k.v] W fun e w' => e = .returned (.bool true) ∧ Below W.heap.size W w') := fun W b => by
    have := rhas_any d NL vp k W (h.ref.below b) hk hn
    rwa [hh] at this
  have HU : Hid (∀ W, Below w.heap.size w W → Calls Try.prog 74 #[.pointer (some ⟨d, 0, none⟩), u.v] W fun e w' => e = .returned (.bool true) ∧ Below W.heap.size W w') := fun W b => by
    have := rhas_any d NL vp u W (h.ref.below b) hu hn
    rwa [hus] at this
  have hq2 : ∀ w : World, (binOp .neq 37 u.v zId.v).run Try.prog w = .ok (.bool true) w := fun w => by rw [neq_id u zId hu zId_ok, decide_eq_false hz]; rfl
  have hq3 : ∀ w : World, (binOp .eql 37 u.v k.v).run Try.prog w = .ok (.bool false) w := fun w => by rw [eql_id u k hu hk, decide_eq_false hne]
  have HL : Hid (∀ W, Below w.heap.size w W → Calls Try.prog 76 #[.pointer (some ⟨d, 0, none⟩), u.v, k.v] W fun e w' => e = .returned (.bool false) ∧ Below W.heap.size W w') := fun W b => by
    refine (rlies_any d NL vp u k W (h.ref.below b) hu hk hn hf).mono ?_
    rintro e w' ⟨l, bb, rfl, hup, bl⟩
    refine ⟨?_, bl⟩
    have := up_above hf hup hne
    rw [decide_eq_false (fun q => hab (this.1 q))]
  have HM := hidMk (fun (W : World) (b : Below w.heap.size w W) => mark_any (h.below b) (Nat.le_trans hB b.size) hn hp)
  have HT := hidMk (fun (w2 w3 : World) (qv cv : Value) => put_tail (w2 := w2) (w3 := w3) (qv := qv) (cv := cv) h hB hn hp k hk (n := ⟨u, key, false⟩) hu hm)
  have hn0 := hn
  clear hh hp hB hz hus hne hab hf h hn
  unfold IdK.v
  go_enter Try.func31, Try.ntmps31
  go_upto_region 1 with fail
  obtain ⟨hx, hy, bx, zx⟩ := two_boxes w k u
  have ZX := hidMk zx
  clear zx
  generalize (w.alloc (.cells k.c.toArray 37)).alloc (.cells u.c.toArray 37) = W at *
  have HXI := hidMk hx
  have HYI := hidMk hy
  have HX := hidMk (fun (V : World) (b : Below W.heap.size W V) => load_id hk ((b.block _ (by have := ZX.out; omega)).trans HXI.out))
  have HY := hidMk (fun (V : World) (b : Below W.heap.size W V) => load_id hu ((b.block _ (by have := ZX.out; omega)).trans HYI.out))
  have BXX := hidMk bx
  have cW : Below W.heap.size W W := Below.refl _ _
  clear hx hy
  go_upto_region 10 with (first
      | (refine wpList_val rfl (exec_load (t := 37) (u := .pointer (some ⟨w.heap.size, 0, none⟩)) rfl rfl (HX.out _ c2)) ?_)
      | (refine wpList_val rfl (exec_load (t := 37) (u := .pointer (some ⟨w.heap.size + 1, 0, none⟩)) rfl rfl (HY.out _ c2)) ?_)
      | (refine wpList_val rfl (exec_load (t := 37) (u := .pointer (some ⟨w.heap.size, 0, none⟩)) rfl rfl (HX.out _ c1)) ?_)
      | (refine wpList_val rfl (exec_load (t := 37) (u := .pointer (some ⟨w.heap.size + 1, 0, none⟩)) rfl rfl (HY.out _ c1)) ?_)
      | (refine wpList_val rfl (exec_load (t := 37) (u := .pointer (some ⟨w.heap.size, 0, none⟩)) rfl rfl (HX.out _ cW)) ?_)
      | (refine wpList_val rfl (exec_load (t := 37) (u := .pointer (some ⟨w.heap.size + 1, 0, none⟩)) rfl rfl (HY.out _ cW)) ?_)
      | (refine wpList_val rfl (exec_build0 rfl (build_id _)) ?_)
      | (refine wpList_val rfl (exec_binOp rfl rfl rfl (guard_id _ _ u zId _ _) (hq2 _)) ?_)
      | (refine wpList_val rfl (exec_binOp rfl rfl rfl (guard_id _ _ u k _ _) (hq3 _)) ?_)
      | (go_at_call 74; refine (H1.out _ (BXX.out.trans (cW.mono BXX.out.size))).mono ?_; rintro e w1 ⟨rfl, b1⟩; have c1 := cW.trans (b1.mono cW.size); clear H1)
      | (go_at_call 74; refine (HU.out _ (BXX.out.trans (c1.mono BXX.out.size))).mono ?_; rintro e w2 ⟨rfl, b2⟩; have c2 := c1.trans (b2.mono c1.size); clear HU)
      | (go_at_call 76; refine (HL.out _ (BXX.out.trans (c2.mono BXX.out.size))).mono ?_; rintro e w3 ⟨rfl, b3⟩; have c3 := c2.trans (b3.mono c2.size); clear HL)
      | (go_at_call 75; refine (HM.out _ (BXX.out.trans (c3.mono BXX.out.size))).mono ?_; rintro e w4 ⟨rfl, qv, cv, hr, t4, hb4⟩)
      | fail)
  have CN := BXX.out.trans (c3.mono BXX.out.size)
  obtain ⟨j, g, c, ej, lj, hv, hX⟩ := HT.out w3 w4 qv cv CN hr t4 hb4
  have HR := hidMk (fun (V : World) (b : Below w4.heap.size w4 V) => find_any d NL qv k V (hr.ref.below b) hk hn0)
  have hx2 : IdAt w3 w.heap.size k := (c3.block _ (by have := ZX.out; omega)).trans HXI.out
  have hy2 : IdAt w3 (w.heap.size + 1) u := (c3.block _ (by have := ZX.out; omega)).trans HYI.out
  have l2 : w.heap.size + 1 < w3.heap.size := (Array.getElem?_eq_some_iff.1 hy2).1
  have bd : Below w4.heap.size w4 w4.drew := (Below.refl _ _).drew
  have hS : ∀ X, Below w4.heap.size w4 X → IdAt X w.heap.size k ∧ IdAt X (w.heap.size + 1) u ∧ X.cell? ⟨d, 0, none⟩ = some vn := fun X bX => by
    obtain ⟨q1, q2, _⟩ := hX X bX
    exact ⟨(q2 _ (Nat.le_refl _) (by omega)).trans hx2, (q2 _ (by omega) l2).trans hy2, q1⟩
  refine rmove10 d (.pointer (some ⟨d, 0, none⟩)) (.pointer (some ⟨w.heap.size, 0, none⟩)) (.pointer (some ⟨w.heap.size + 1, 0, none⟩)) k.v u.v (.string key) (.agg (rnC (k, ⟨u, key, false⟩)).toArray) vn (.int .i64 (j : Int)) (.pointer (some ⟨g, j * 68, none⟩))
    (fun W => IdAt W w.heap.size k ∧ IdAt W (w.heap.size + 1) u ∧ W.cell? ⟨d, 0, none⟩ = some vn) (fun X => Below w4.heap.size w4 X) (fun y => RStep B w d NL PL vn vp us k ⟨u, key, false⟩ 0 (.returned (.int .i64 0)) y) _ w4 _ rfl rfl rfl rfl rfl (fun W => by go_simp) (fun W hw => load_ns hw.2.2) (fun W => build_rn W k u hk hu key) (fun W hw => load_id hk hw.1) (fun W hw => load_id hu hw.2.1) (fun W => by rw [hv]; exact ix_rz lj (by omega) W) (hS _ bd) ?_ hS ?_ ?_
  · refine (HR.out _ bd).mono ?_
    rintro e w5 ⟨rfl, b5⟩
    exact ⟨by rw [ej], bd.trans (b5.mono bd.size)⟩
  · intro X bX
    obtain ⟨_, _, y, q3, q4, q5, q6⟩ := hX X bX
    exact ⟨y, q3, ⟨(q5 _ (Nat.le_refl _) (by omega)).trans hx2, (q5 _ (by omega) l2).trans hy2, q4⟩, q6⟩
  · intro a' w' hw' ha
    subst ha
    simp only [Act.put, List.setIfInBounds_toArray, List.set_cons_zero, List.set_cons_succ]
    go_wp2
    go_ret
    exact hw'
end
end Go.Proofs.Ytoofljkgdjjllaa

namespace Go.Proofs.Ytoofljkgdjjllaa
open Go.RowKit
set_option linter.unusedVariables false
set_option linter.unusedSimpArgs false
set_option linter.unusedSectionVars false

section
variable {B : Nat} {w : World} {d : Nat} {NL : List RN} {PL : List (List RN)} {vn vp : Value} {us : List Value} (h : RefP B w d NL PL vn vp us) (hB : B ≤ w.heap.size) (hn : NL.length ≤ 1300000000000) (hp : PL.length ≤ 1300000000000) (k : IdK) (hk : k.ok)
include h hB hn hp hk
set_option maxRecDepth 100000 in
set_option maxHeartbeats 4000000 in
theorem rprune_out (hh : lookN NL k = none) : Calls Try.prog 32 #[.pointer (some ⟨d, 0, none⟩), k.v] w (fun e w' => e = .returned (.int .i64 4) ∧ Below w.heap.size w w') := by
  have HF : Hid (∀ (W : World) (b : Below w.heap.size w W), Calls Try.prog 77 #[.pointer (some ⟨d, 0, none⟩), k.v] W fun e w' => e = .returned (.int .i64 (-1)) ∧ Below W.heap.size W w') := fun W b => by rw [← fPos_none hh]; exact find_any d NL vp k W (h.ref.below b) hk hn
  clear hh h hn hp hB
  unfold IdK.v
  go_enter Try.func32, Try.ntmps32
  obtain ⟨hx, bx, zx⟩ := box_id w k
  have ZX := hidMk zx
  clear zx
  go_upto_region 1 with fail
  generalize w.alloc (.cells k.c.toArray 37) = W at *
  have HL := hidMk (load_id hk hx)
  go_wp2_with (first
    | (refine wpList_val rfl (exec_load (t := 37) (u := .pointer (some ⟨w.heap.size, 0, none⟩)) rfl rfl HL.out) ?_)
    | (go_at_call 77; refine (HF.out _ bx).mono ?_; rintro e w1 ⟨rfl, b1⟩)
    | fail)
  go_ret
  exact ⟨rfl, bx.trans (b1.mono bx.size)⟩
set_option maxRecDepth 100000 in
set_option maxHeartbeats 4000000 in
theorem rprune_done {m : NodeV} (hh : lookN NL k = some m) (hm : m.pr = true) : Calls Try.prog 32 #[.pointer (some ⟨d, 0, none⟩), k.v] w (fun e w' => e = .returned (.int .i64 4) ∧ Below w.heap.size w w') := by
  obtain ⟨j, hj, hji, hjl⟩ := fPos_some hh
  have hpo := h.ok _ (List.mem_of_getElem? hji)
  have lt := h.ref.lt
  obtain ⟨a, c, hc, hrow⟩ := h.ref.cell
  obtain ⟨b, o, rfl, lb, hr⟩ : ∃ b o, a = some ⟨b, o, none⟩ ∧ b < w.heap.size ∧ w.rangeAt b (o + j * 68) (rnC (k, m)) := by
    rcases hrow with e | ⟨b, o, e, h1, h2⟩
    · rw [e] at hji; simp at hji
    · exact ⟨b, o, e, h1, h2 j _ hji⟩
  obtain ⟨n, hnn⟩ : ∃ n, NL.length = n := ⟨_, rfl⟩
  have HF : Hid (∀ (W : World) (b : Below w.heap.size w W), Calls Try.prog 77 #[.pointer (some ⟨d, 0, none⟩), k.v] W fun e w' => e = .returned (.int .i64 (j : Int)) ∧ Below W.heap.size W w') := fun W b => by rw [← hj]; exact find_any d NL vp k W (h.ref.below b) hk hn
  rw [hnn] at hc hjl
  have C0 : w.cell? ⟨d, 0, none⟩ = some (.slice (some ⟨b, o, none⟩) n c) := by rw [cell_of_row _ _ 0 _ _ _ hc]; rfl
  have HC := hidMk (fun (W : World) (b : Below w.heap.size w W) => (b.cell (p := ⟨d, 0, none⟩) lt).trans C0)
  have HR := hidMk (fun (W : World) (bb : Below w.heap.size w W) => rangeAt_keep hr (bb.block _ lb))
  have HP := hidMk hm
  have hbig : n ≤ 1300000000000 := by omega
  clear hc hnn hn hj hji hrow C0 hr hh hm hp hB h
  unfold IdK.v
  go_enter Try.func32, Try.ntmps32
  obtain ⟨hx, bx, zx⟩ := box_id w k
  have ZX := hidMk zx
  clear zx
  go_upto_region 1 with fail
  generalize w.alloc (.cells k.c.toArray 37) = W at *
  have HL := hidMk (load_id hk hx)
  go_upto_region 4 with (first
    | (refine wpList_val rfl (exec_load (t := 37) (u := .pointer (some ⟨w.heap.size, 0, none⟩)) rfl rfl HL.out) ?_)
    | (go_at_call 77; refine (HF.out _ bx).mono ?_; rintro e w1 ⟨rfl, b1⟩)
    | fail)
  have bel1 : Below w.heap.size w w1 := bx.trans (b1.mono bx.size)
  have c0 := HC.out w1 bel1
  have hcp : w1.cell? ⟨b, o + j * 68 + 67, none⟩ = some (.bool true) := by
    have l1 : k.c.length = 33 := IdK.len hpo.k
    have l2 : m.u.c.length = 33 := IdK.len hpo.u
    have := HR.out w1 bel1 67 (.bool m.pr) (by
      rw [rnC, List.getElem?_append_right (by simp only; omega), l1, List.getElem?_append_right (by simp only; omega), l2]
      rfl)
    rwa [HP.out] at this
  clear HL HF HR HC
  go_wp2
  go_ret
  exact ⟨rfl, bel1⟩
set_option maxRecDepth 100000 in
set_option maxHeartbeats 4000000 in
theorem rprune_ok {m : NodeV} (hh : lookN NL k = some m) (hm : m.pr = false) : Calls Try.prog 32 #[.pointer (some ⟨d, 0, none⟩), k.v] w (RStep B w d NL PL vn vp us k ⟨zId, ⟨#[]⟩, true⟩ 0) := by
  obtain ⟨j, hj, hji, hjl⟩ := fPos_some hh
  have hpo := h.ok _ (List.mem_of_getElem? hji)
  have lt := h.ref.lt
  obtain ⟨a, c, hc, hrow⟩ := h.ref.cell
  obtain ⟨b, o, rfl, lb, hr⟩ : ∃ b o, a = some ⟨b, o, none⟩ ∧ b < w.heap.size ∧ w.rangeAt b (o + j * 68) (rnC (k, m)) := by
    rcases hrow with e | ⟨b, o, e, h1, h2⟩
    · rw [e] at hji; simp at hji
    · exact ⟨b, o, e, h1, h2 j _ hji⟩
  obtain ⟨n, hnn⟩ : ∃ n, NL.length = n := ⟨_, rfl⟩
  have HF : Hid (∀ (W : World) (b : Below w.heap.size w W), Calls Try.prog 77 #[.pointer (some ⟨d, 0, none⟩), k.v] W fun e w' => e = .returned (.int .i64 (j : Int)) ∧ Below W.heap.size W w') := fun W b => by rw [← hj]; exact find_any d NL vp k W (h.ref.below b) hk hn
  have HM := hidMk (fun (W : World) (b : Below w.heap.size w W) => mark_any (h.below b) (Nat.le_trans hB b.size) hn hp)
  have HT := hidMk (fun (w2 w3 : World) (qv cv : Value) => put_tail (w2 := w2) (w3 := w3) (qv := qv) (cv := cv) h hB hn hp k hk (n := ⟨zId, ⟨#[]⟩, true⟩) zId_ok hh)
  have HJ := hidMk hj
  have HN := hidMk hnn
  rw [hnn] at hc hjl
  have C0 : w.cell? ⟨d, 0, none⟩ = some (.slice (some ⟨b, o, none⟩) n c) := by rw [cell_of_row _ _ 0 _ _ _ hc]; rfl
  have HC := hidMk (fun (W : World) (b : Below w.heap.size w W) => (b.cell (p := ⟨d, 0, none⟩) lt).trans C0)
  have HR := hidMk (fun (W : World) (bb : Below w.heap.size w W) => rangeAt_keep hr (bb.block _ lb))
  have HP := hidMk hm
  have hbig : n ≤ 1300000000000 := by omega
  clear hc hnn hn hj hji hrow C0 hr hh hm hp hB h
  unfold IdK.v
  go_enter Try.func32, Try.ntmps32
  obtain ⟨hx, bx, zx⟩ := box_id w k
  have ZX := hidMk zx
  clear zx
  go_upto_region 1 with fail
  generalize w.alloc (.cells k.c.toArray 37) = W at *
  have HL := hidMk (load_id hk hx)
  have HXI := hidMk hx
  clear hx
  go_upto_region 4 with (first
    | (refine wpList_val rfl (exec_load (t := 37) (u := .pointer (some ⟨w.heap.size, 0, none⟩)) rfl rfl HL.out) ?_)
    | (go_at_call 77; refine (HF.out _ bx).mono ?_; rintro e w1 ⟨rfl, b1⟩)
    | fail)
  have bel1 : Below w.heap.size w w1 := bx.trans (b1.mono bx.size)
  have c0 := HC.out w1 bel1
  have hcp : w1.cell? ⟨b, o + j * 68 + 67, none⟩ = some (.bool false) := by
    have l1 : k.c.length = 33 := IdK.len hpo.k
    have l2 : m.u.c.length = 33 := IdK.len hpo.u
    have := HR.out w1 bel1 67 (.bool m.pr) (by
      rw [rnC, List.getElem?_append_right (by simp only; omega), l1, List.getElem?_append_right (by simp only; omega), l2]
      rfl)
    rwa [HP.out] at this
  have HX1 := hidMk ((b1.block w.heap.size (by have := ZX.out; omega)).trans HXI.out)
  have l1 : w.heap.size < w1.heap.size := by have := ZX.out; have := b1.size; omega
  have LH := hidMk l1
  clear HL HF HR HC HXI l1 b1 bx
  go_upto_region 7 with (first
    | (go_at_call 75; refine (HM.out _ bel1).mono ?_; rintro e w4 ⟨rfl, qv, cv, hr, t4, hb4⟩)
    | fail)
  obtain ⟨j', g, c', ej, lj, hv, hX⟩ := HT.out w1 w4 qv cv bel1 hr t4 hb4
  obtain rfl : j' = j := by have := HJ.out; omega
  have bd : Below w4.heap.size w4 w4.drew := (Below.refl _ _).drew
  obtain ⟨q1, q2, y, q3, q4, q5, q6⟩ := hX _ bd
  have hx1 := HX1.out
  have l1 := LH.out
  refine rprune7 d (.pointer (some ⟨d, 0, none⟩)) (.pointer (some ⟨w.heap.size, 0, none⟩)) k.v (.agg (rnC (k, ⟨zId, ⟨#[]⟩, true⟩)).toArray) vn (.int .i64 (j' : Int)) (.pointer (some ⟨g, j' * 68, none⟩)) y
    (fun W => IdAt W w.heap.size k ∧ W.cell? ⟨d, 0, none⟩ = some vn) _ w4 _ rfl rfl rfl rfl (fun W => by go_simp) (fun W hw => load_ns hw.2) (fun W => build_rp W k hk) (fun W hw => load_id hk hw.1) (fun W => by rw [hv]; exact ix_rz lj (by have := HN.out; omega) W) ⟨(q2 _ (Nat.le_refl _) l1).trans hx1, q1⟩ q3 ⟨(q5 _ (Nat.le_refl _) l1).trans hx1, q4⟩ ?_
  intro a' w' hw' ha
  subst hw' ha
  simp only [Act.put, List.setIfInBounds_toArray, List.set_cons_zero, List.set_cons_succ]
  go_wp2
  go_ret
  exact q6
theorem rprune_all : Calls Try.prog 32 #[.pointer (some ⟨d, 0, none⟩), k.v] w (RStep B w d NL PL vn vp us k ⟨zId, ⟨#[]⟩, true⟩ (pC (lookN NL) k)) := by
  unfold pC
  cases hl : lookN NL k with
  | none =>
    rw [if_pos (by rfl)]
    exact (rprune_out h hB hn hp k hk hl).mono fun e w' q => Or.inl ⟨by decide, q.1, q.2⟩
  | some m =>
    have hnd : nd (lookN NL) k = m := by rw [nd, hl]; rfl
    rw [if_neg (by simp), hnd]
    cases hm : m.pr with
    | true =>
      rw [if_pos rfl]
      exact (rprune_done h hB hn hp k hk hl hm).mono fun e w' q => Or.inl ⟨by decide, q.1, q.2⟩
    | false =>
      rw [if_neg (by decide)]
      exact rprune_ok h hB hn hp k hk hl hm
variable (u : IdK) (key : ByteArray) (hu : u.ok)
include hu
theorem rgrow_all : Calls Try.prog 30 #[.pointer (some ⟨d, 0, none⟩), k.v, u.v, .string key] w (RStep B w d NL PL vn vp us k ⟨u, key, false⟩ (gC (lookN NL) k u)) := by
  unfold gC
  by_cases hz : k = zId
  · rw [if_pos hz]
    exact (rgrow_zero d NL vp k u key w h.ref hk hu hn hz).mono fun e w' q => Or.inl ⟨by decide, q.1, q.2⟩
  · rw [if_neg hz]
    cases hl : lookN NL k with
    | some m =>
      rw [if_pos (by rfl)]
      exact (rgrow_known d NL vp k u key w h.ref hk hu hn hz (by rw [hl]; rfl)).mono fun e w' q => Or.inl ⟨by decide, q.1, q.2⟩
    | none =>
      rw [if_neg (by simp)]
      cases hb : Bears (lookN NL) u with
      | true =>
        rw [if_pos rfl]
        exact rgrow_ok h hB hn hp k u key hk hu hz hl hb
      | false =>
        rw [if_neg (by decide)]
        exact (rgrow_none d NL vp k u key w h.ref hk hu hn hz (by rw [hl]; rfl) hb).mono fun e w' q => Or.inl ⟨by decide, q.1, q.2⟩
theorem rmove_all (hf : Forest (lookN NL)) : Calls Try.prog 31 #[.pointer (some ⟨d, 0, none⟩), k.v, u.v, .string key] w (RStep B w d NL PL vn vp us k ⟨u, key, false⟩ (mC (lookN NL) k u)) := by
  unfold mC
  cases hl : lookN NL k with
  | none =>
    rw [if_pos (by rfl)]
    exact (rmove_out h hB hn hp k u key hk hu (by rw [hl]; rfl)).mono fun e w' q => Or.inl ⟨by decide, q.1, q.2⟩
  | some m =>
    have hs : (lookN NL k).isSome = true := by rw [hl]; rfl
    have hkz : k ≠ zId := by rintro rfl; rw [hf.zero] at hl; cases hl
    rw [if_neg (by simp)]
    by_cases hz : u = zId
    · have hb : Bears (lookN NL) u = true := bears_iff.2 (Or.inl hz)
      have hne : u ≠ k := fun e => hkz (by rw [← e]; exact hz)
      have hab : ¬ Above (lookN NL) u k := by
        have hc : Climb (lookN NL) u [] (nd (lookN NL) u).pr := .top (Or.inr (by rw [hz, nd, hf.zero]; rfl))
        rintro (q | ⟨l', p', hc', hm⟩)
        · exact hne q
        · obtain ⟨rfl, _⟩ := hc.same hc'; cases hm
      rw [if_neg (by rw [hb]; decide), if_neg hab]
      exact rmove_top h hB hn hp k u key hk hu hl hf hz hne hab
    · cases hu2 : (lookN NL u).isSome with
      | false =>
        have hb : Bears (lookN NL) u = false := by simp [Bears, hz, hu2]
        rw [if_pos hb]
        exact (rmove_none h hB hn hp k u key hk hu hs hz hu2).mono fun e w' q => Or.inl ⟨by decide, q.1, q.2⟩
      | true =>
        have hb : Bears (lookN NL) u = true := bears_iff.2 (Or.inr hu2)
        rw [if_neg (by rw [hb]; decide)]
        by_cases hab : Above (lookN NL) u k
        · rw [if_pos hab]
          by_cases hne : u = k
          · exact (rmove_self h hB hn hp k u key hk hu hs hz hu2 hne).mono fun e w' q => Or.inl ⟨by decide, q.1, q.2⟩
          · exact (rmove_ring h hB hn hp k u key hk hu hf hs hz hu2 hne hab).mono fun e w' q => Or.inl ⟨by decide, q.1, q.2⟩
        · rw [if_neg hab]
          exact rmove_node h hB hn hp k u key hk hu hl hf hz hu2 (fun e => hab (Or.inl e)) hab
end
end Go.Proofs.Ytoofljkgdjjllaa
