import Derived.Test.YtifendlpeebofaaGreatDoorP0
import Derived.Test.YtifendlpeebofaaGreatDoorP4
import Derived.Test.YtifendlpeebofaaGreatDoorP3
import Derived.Test.YtifendlpeebofaaGreatDoorMa
import Derived.Maps.RangeRun
set_option linter.unusedSimpArgs false
set_option linter.unusedVariables false
set_option maxRecDepth 100000
set_option maxHeartbeats 4000000
set_option maxRecDepth 100000
set_option maxHeartbeats 4000000
namespace Go.Proofs.YtifendlpeebofaaGreatDoor
open Go.RowKit
def sbw0_ops : Array Oper := (⟨_, rfl⟩ : {o // some o = rgB Tryz.f142 0}).1
theorem sbw0 {bs n c : Nat} {la : Option Addr} (a : Act) (w : World) (Q : Exit → Act → World → Prop) (zz : a.tmps.size = 19)
    (t1 : a.tmps.getD 1 undef = .pointer (some ⟨bs, 0, none⟩))
    (hb : -9223372036854775808 ≤ (n : Int) - 1 ∧ (n : Int) - 1 ≤ 9223372036854775807) (LB : (Instr.loadAt 49 (.pointer (some ⟨bs, 0, none⟩))).run Tryz.prog w = .ok (.slice la n c) w)
    (h : ∀ a' w', w' = w → a' = (((a.put (some 4) (.slice la n c)).put (some 5) (.int .i64 (n : Int))).put (some 6) (.int .i64 ((n : Int) - 1))).put (some 3) (.int .i64 ((n : Int) - 1)) → Q .normal a' w') :
    (Code.region 0 sbw0_ops false).wp Tryz.prog Q a w := by
  refine z0 rfl ?_
  refine zv rfl (xld rfl (zi t1 rfl) LB) ?_
  refine zv rfl (exec_len rfl (zg zz rfl) (len_sq _ _ _ _)) ?_
  refine zv (v := .int .i64 ((n : Int) - 1)) rfl (ex_sub rfl (zg zz rfl) rfl hb) ?_
  refine zv rfl (xas rfl (zg zz rfl)) ?_
  exact ze rfl (h _ _ (rfl) rfl)
def sbw1_ops : Array Oper := (⟨_, rfl⟩ : {o // some o = rgB Tryz.f142 1}).1
theorem sbw1 {z : Int} {r : Bool} (a : Act) (w : World) (Q : Exit → Act → World → Prop) (zz : a.tmps.size = 19)
    (t3 : a.tmps.getD 3 undef = .int .i64 z)
    (hz : decide (z ≥ 0) = r)
    (h : ∀ a' w', w' = w → a' = (a.put (some 7) (.int .i64 z)).put (some 8) (.bool r) → Q .normal a' w') :
    (Code.region 1 sbw1_ops false).wp Tryz.prog Q a w := by
  refine z0 rfl ?_
  refine zv rfl (xmv rfl (zi t3 rfl)) ?_
  refine zv (v := .bool r) rfl (ex_geq rfl (zg zz rfl) rfl hz) ?_
  exact ze rfl (h _ _ (rfl) rfl)
def sbw2_ops : Array Oper := (⟨_, rfl⟩ : {o // some o = rgB Tryz.f142 2}).1
theorem sbw2 {z : Int} (a : Act) (w : World) (Q : Exit → Act → World → Prop) (zz : a.tmps.size = 19)
    (t3 : a.tmps.getD 3 undef = .int .i64 z)
    (hb : -9223372036854775808 ≤ z - 1 ∧ z - 1 ≤ 9223372036854775807)
    (h : ∀ a' w', w' = w → a' = ((a.put (some 9) (.int .i64 z)).put (some 10) (.int .i64 (z - 1))).put (some 3) (.int .i64 (z - 1)) → Q .normal a' w') :
    (Code.region 2 sbw2_ops false).wp Tryz.prog Q a w := by
  refine z0 rfl ?_
  refine zv rfl (xmv rfl (zi t3 rfl)) ?_
  refine zv (v := .int .i64 (z - 1)) rfl (ex_sub rfl (zg zz rfl) rfl hb) ?_
  refine zv rfl (xas rfl (zg zz rfl)) ?_
  exact ze rfl (h _ _ (rfl) rfl)
def sbw3_o0 : Oper := ⟨some 11, .move (.tmp 0), 196, "iter.go:29", #[], none⟩
def sbw3_o1 : Oper := ⟨some 12, .move (.tmp 3), 3, "iter.go:29", #[], none⟩
def sbw3_o2 : Oper := ⟨some 13, .load 49 (.tmp 1), 49, "iter.go:29", #[], none⟩
def sbw3_o3 : Oper := ⟨some 14, .move (.tmp 3), 3, "iter.go:29", #[], none⟩
def sbw3_o4 : Oper := ⟨some 15, .indexAddr 49 (.tmp 13) (.tmp 14), 0, "iter.go:29", #[⟨2, .data⟩, ⟨3, .data⟩], none⟩
def sbw3_o5 : Oper := ⟨some 16, .load 65 (.tmp 15), 65, "iter.go:29", #[⟨4, .data⟩], none⟩
def sbw3_o6 : Oper := ⟨some 17, .call { callee := Callee.value (.tmp 11), args := #[.tmp 12, .tmp 16], argTypes := #[3, 65] }, 4, "iter.go:29", #[⟨0, .data⟩, ⟨1, .data⟩, ⟨5, .data⟩], none⟩
def sbw3_o7 : Oper := ⟨some 18, .unOp UnOp.not 4 (.tmp 17), 4, "iter.go:29", #[⟨6, .data⟩], none⟩
def sbw3_ops : Array Oper := #[sbw3_o0, sbw3_o1, sbw3_o2, sbw3_o3, sbw3_o4, sbw3_o5, sbw3_o6, sbw3_o7]
theorem sbw3 {bs g o n c i l n0 : Nat} {x : SpV} (Fin : Bool → World → Prop) (a : Act) (w : World) (Q : Exit → Act → World → Prop) (hsz : a.tmps.size = 19)
    (t0 : a.tmps.getD 0 undef = .func (.yield l) #[] #[])
    (t1 : a.tmps.getD 1 undef = .pointer (some ⟨bs, 0, none⟩))
    (t3 : a.tmps.getD 3 undef = .int .i64 (i : Int))
    (hi : i < n) (hm : n ≤ 9223372036854775807) (LB : (Instr.loadAt 49 (.pointer (some ⟨bs, 0, none⟩))).run Tryz.prog w = .ok (.slice (some ⟨g, o, none⟩) n c) w) (LX : (Instr.loadAt 65 (.pointer (some ⟨g, o + 7 * i, none⟩))).run Tryz.prog w = .ok (x.a) w) (CY : YieldAt Fence.wide (n0 - 1) Tryz.prog l #[.int .i64 (i : Int), x.a] w fun e w' => ∃ b, e = .returned (.bool b) ∧ Fin b w')
    (h : ∀ (b : Bool) a' w', Fin b w' → a' = (((((((a.put (some 11) (.func (.yield l) #[] #[])).put (some 12) (.int .i64 (i : Int))).put (some 13) (.slice (some ⟨g, o, none⟩) n c)).put (some 14) (.int .i64 (i : Int))).put (some 15) (.pointer (some ⟨g, o + 7 * i, none⟩))).put (some 16) (x.a)).put (some 17) (.bool b)).put (some 18) (.bool (!b)) → Q .normal a' w') :
    (Code.region 3 sbw3_ops false).wpIn Fence.wide n0 Tryz.prog Q a w := by
  refine wpIn_region_list ?_
  change wpListIn _ _ _ _ _ [sbw3_o0, sbw3_o1, sbw3_o2, sbw3_o3, sbw3_o4, sbw3_o5, sbw3_o6, sbw3_o7] _ _
  refine qvI (v := .func (.yield l) #[] #[]) (by rfl) (xmv rfl t0) (fun a0 e0 => ?_)
  rw [← e0] at h
  have z0 := pz e0 hsz
  replace t1 := pk e0 t1
  replace t3 := pk e0 t3
  clear t0
  have t11 := pq e0 hsz
  clear e0 hsz
  refine qvI (v := .int .i64 (i : Int)) (by rfl) (xmv rfl t3) (fun a1 e1 => ?_)
  rw [← e1] at h
  have z1 := pz e1 z0
  replace t1 := pk e1 t1
  replace t3 := pk e1 t3
  replace t11 := pk e1 t11
  have t12 := pq e1 z0
  clear e1 z0
  refine qvI (v := .slice (some ⟨g, o, none⟩) n c) (by rfl) (xld rfl t1 LB) (fun a2 e2 => ?_)
  rw [← e2] at h
  have z2 := pz e2 z1
  replace t3 := pk e2 t3
  replace t11 := pk e2 t11
  replace t12 := pk e2 t12
  clear t1
  have t13 := pq e2 z1
  clear e2 z1
  refine qvI (v := .int .i64 (i : Int)) (by rfl) (xmv rfl t3) (fun a3 e3 => ?_)
  rw [← e3] at h
  have z3 := pz e3 z2
  replace t11 := pk e3 t11
  replace t12 := pk e3 t12
  replace t13 := pk e3 t13
  clear t3
  have t14 := pq e3 z2
  clear e3 z2
  refine qvI (v := .pointer (some ⟨g, o + 7 * i, none⟩)) (by rfl) (xia rfl t13 t14 (ix_sp hi hm _)) (fun a4 e4 => ?_)
  rw [← e4] at h
  have z4 := pz e4 z3
  replace t11 := pk e4 t11
  replace t12 := pk e4 t12
  clear t13 t14
  have t15 := pq e4 z3
  clear e4 z3
  refine qvI (v := x.a) (by rfl) (xld rfl t15 LX) (fun a5 e5 => ?_)
  rw [← e5] at h
  have z5 := pz e5 z4
  replace t11 := pk e5 t11
  replace t12 := pk e5 t12
  clear t15
  have t16 := pq e5 z4
  clear e5 z4
  refine qyI (by rfl) (by unfold sbw3_o6; go_simp) (CY) (fun e x6 hx => ?_)
  obtain ⟨b, rfl, HF⟩ := hx
  replace h := h b
  refine ⟨_, rfl, fun a6 e6 => ?_⟩
  rw [← e6] at h
  have z6 := pz e6 z5
  clear t11 t12 t16
  have t17 := pq e6 z5
  clear e6 z5
  refine qvI (v := .bool (!b)) (by rfl) (by unfold sbw3_o7; go_simp) (fun a7 e7 => ?_)
  rw [← e7] at h
  have z7 := pz e7 z6
  clear t17
  clear e7 z6
  exact wpListIn_nil (h _ _ (HF) rfl)
def fnd0_ops : Array Oper := (⟨_, rfl⟩ : {o // some o = rgB Tryz.f89 0}).1
theorem fnd0 {pb b2 : Nat} {w1 : World} (a : Act) (w : World) (Q : Exit → Act → World → Prop) (zz : a.tmps.size = 68)
    (t0 : a.tmps.getD 0 undef = .pointer (some ⟨pb, 0, none⟩))
    (E1 : (Instr.box 148 (.pointer (some ⟨pb, 0, none⟩))).run Tryz.prog w = .ok (.pointer (some ⟨b2, 0, none⟩)) w1)
    (h : ∀ a' w', w' = w1 → a' = a.put (some 2) (.pointer (some ⟨b2, 0, none⟩)) → Q .normal a' w') :
    (Code.region 0 fnd0_ops false).wp Tryz.prog Q a w := by
  refine z0 rfl ?_
  refine zv (v := .pointer (some ⟨b2, 0, none⟩)) rfl (exec_boxM rfl (zi t0 rfl) E1) ?_
  exact ze rfl (h _ _ (rfl) rfl)
def fnd1_ops : Array Oper := (⟨_, rfl⟩ : {o // some o = rgB Tryz.f89 1}).1
theorem fnd1 {b2 b4 pb n c : Nat} {la : Option Addr} {w1 w2 : World} (a : Act) (w : World) (Q : Exit → Act → World → Prop) (zz : a.tmps.size = 68)
    (t2 : a.tmps.getD 2 undef = .pointer (some ⟨b2, 0, none⟩))
    (L2 : (Instr.loadAt 148 (.pointer (some ⟨b2, 0, none⟩))).run Tryz.prog w = .ok (.pointer (some ⟨pb, 0, none⟩)) w) (LH : (Instr.loadAt 150 (.pointer (some ⟨pb, 0 + 1, none⟩))).run Tryz.prog w = .ok (.slice la n c) w) (EA : (Instr.alloc 3 true (.tuple #[])).run Tryz.prog w = .ok (.pointer (some ⟨b4, 0, none⟩)) w1) (ES : (Instr.storeAt 3 (.pointer (some ⟨b4, 0, none⟩)) (.int .i64 (n : Int))).run Tryz.prog w1 = .ok () w2)
    (h : ∀ a' w', w' = w2 → a' = (((((a.put (some 11) (.pointer (some ⟨pb, 0, none⟩))).put (some 12) (.pointer (some ⟨pb, 0, none⟩))).put (some 13) (.pointer (some ⟨pb, 0 + 1, none⟩))).put (some 14) (.slice la n c)).put (some 15) (.int .i64 (n : Int))).put (some 4) (.pointer (some ⟨b4, 0, none⟩)) → Q .normal a' w') :
    (Code.region 1 fnd1_ops false).wp Tryz.prog Q a w := by
  refine z0 rfl ?_
  refine zv rfl (xld rfl (zi t2 rfl) L2) ?_
  refine zv rfl (xnc rfl (zg zz rfl)) ?_
  refine zv rfl (xfa rfl (zg zz rfl) (fg_152_1 _ _ _)) ?_
  refine zv rfl (xld rfl (zg zz rfl) LH) ?_
  refine zv rfl (exec_len rfl (zg zz rfl) (len_z _ _ _ _)) ?_
  refine zv (v := .pointer (some ⟨b4, 0, none⟩)) rfl (exec_alloc rfl EA) ?_
  refine zs rfl (exec_store rfl (zg zz rfl) (zg zz rfl) ES) ?_
  exact ze rfl (h _ _ (rfl) rfl)
def fnd2_ops : Array Oper := (⟨_, rfl⟩ : {o // some o = rgB Tryz.f89 2}).1
theorem fnd2 {cv : Value} (Fin : Value → World → Prop) (a : Act) (w : World) (Q : Exit → Act → World → Prop) (zz : a.tmps.size = 68)
    (t1 : a.tmps.getD 1 undef = cv)
    (CB : Calls Tryz.prog 111 #[cv] w fun e w' => ∃ v, e = .returned v ∧ Fin v w')
    (h : ∀ (v : Value) a' w', Fin v w' → a' = (a.put (some 16) (cv)).put (some 17) (v) → Q .normal a' w') :
    (Code.region 2 fnd2_ops false).wp Tryz.prog Q a w := by
  refine z0 rfl ?_
  refine zv rfl (xmv rfl (zi t1 rfl)) ?_
  refine zc rfl (exec_c1 rfl (zg zz rfl)) (CB) (fun e x1 hx => ?_)
  obtain ⟨v, rfl, HF⟩ := hx
  replace h := h v
  refine ⟨_, rfl, ?_⟩
  exact ze rfl (h _ _ (HF) rfl)
def fnd3_o0 : Oper := ⟨some 5, .assign (.tmp 18), 3, "runs.go:62", #[], none⟩
def fnd3_ops : Array Oper := #[fnd3_o0]
theorem fnd3 {l n : Nat} {v : Value} (a : Act) (w : World) (Q : Exit → Act → World → Prop) (hsz : a.tmps.size = 68)
    (t18 : a.tmps.getD 18 undef = v)
    (h : ∀ a' w', w' = w → a' = a.put (some 5) (v) → Q .normal a' w') :
    (Code.region 3 fnd3_ops false).wpIn (Fence.wide.inRound l) n Tryz.prog Q a w := by
  refine wpIn_region_list ?_
  change wpListIn _ _ _ _ _ [fnd3_o0] _ _
  refine qvI (v := v) (by rfl) (xas rfl t18) (fun a0 e0 => ?_)
  rw [← e0] at h
  have z0 := pz e0 hsz
  clear t18
  clear e0 hsz
  exact wpListIn_nil (h _ _ (rfl) rfl)
def fnd4_o0 : Oper := ⟨some 6, .alloc 65, 0, "runs.go:62", #[], none⟩
def fnd4_o1 : Oper := ⟨none, .store 65 (.tmp 6) (.tmp 19), 0, "runs.go:62", #[⟨0, .data⟩, ⟨0, .phase⟩], none⟩
def fnd4_ops : Array Oper := #[fnd4_o0, fnd4_o1]
theorem fnd4 {l n eb : Nat} {v : Value} {w1 w2 : World} (a : Act) (w : World) (Q : Exit → Act → World → Prop) (hsz : a.tmps.size = 68)
    (t19 : a.tmps.getD 19 undef = v)
    (EA : (Instr.alloc 65 true (.tuple #[])).run Tryz.prog w = .ok (.pointer (some ⟨eb, 0, none⟩)) w1) (ES : (Instr.storeAt 65 (.pointer (some ⟨eb, 0, none⟩)) (v)).run Tryz.prog w1 = .ok () w2)
    (h : ∀ a' w', w' = w2 → a' = a.put (some 6) (.pointer (some ⟨eb, 0, none⟩)) → Q .normal a' w') :
    (Code.region 4 fnd4_ops false).wpIn (Fence.wide.inRound l) n Tryz.prog Q a w := by
  refine wpIn_region_list ?_
  change wpListIn _ _ _ _ _ [fnd4_o0, fnd4_o1] _ _
  refine qkI (v := .pointer (some ⟨eb, 0, none⟩)) (by rfl) (exec_alloc rfl EA) (fun a0 e0 => ?_)
  rw [← e0] at h
  have z0 := pz e0 hsz
  replace t19 := pk e0 t19
  have t6 := pq e0 hsz
  clear e0 hsz
  refine qsI (by rfl) (exec_store rfl t6 t19 ES) ?_
  exact wpListIn_nil (h _ _ (rfl) rfl)
def fnd5_ops : Array Oper := (⟨_, rfl⟩ : {o // some o = rgB Tryz.f89 5}).1
theorem fnd5 {l n : Nat} {b2 pb eb r : Nat} {x : SpV} {kv : Value} (S Fin : World → Prop) (a : Act) (w : World) (Q : Exit → Act → World → Prop) (zz : a.tmps.size = 68)
    (t2 : a.tmps.getD 2 undef = .pointer (some ⟨b2, 0, none⟩))
    (t6 : a.tmps.getD 6 undef = .pointer (some ⟨eb, 0, none⟩))
    (hLO : ¬ LetsOut Q) (h0 : S w.drew) (L2 : ∀ W, S W → (Instr.loadAt 148 (.pointer (some ⟨b2, 0, none⟩))).run Tryz.prog W = .ok (.pointer (some ⟨pb, 0, none⟩)) W) (LK : ∀ W, S W → (Instr.loadAt 150 (.pointer (some ⟨pb, 0 + 0, none⟩))).run Tryz.prog W = .ok (kv) W) (LF : ∀ W, S W → (Instr.loadAt 3 (.pointer (some ⟨eb, 0 + 0, none⟩))).run Tryz.prog W = .ok (.int .i64 x.fr) W) (CC : Calls Tryz.prog 112 #[kv, .int .i64 x.fr] w.drew fun e w' => ∃ q, e = .returned (.tuple #[.int .i64 (r : Int), .bool q]) ∧ Fin w' ∧ S w')
    (h : ∀ (q : Bool) a' w', Fin w' → a' = (((((((((((a.put (some 21) (.pointer (some ⟨pb, 0, none⟩))).put (some 22) (.pointer (some ⟨pb, 0, none⟩))).put (some 23) (.pointer (some ⟨pb, 0 + 0, none⟩))).put (some 24) (kv)).put (some 25) (.pointer (some ⟨eb, 0 + 0, none⟩))).put (some 26) (.int .i64 x.fr)).put (some 27) (.tuple #[.int .i64 (r : Int), .bool q])).put (some 20) (.tuple #[.int .i64 (r : Int), .bool q])).put (some 28) (.int .i64 (r : Int))).put (some 29) (.bool q)).put (some 7) (.int .i64 (r : Int))).put (some 8) (.bool q) → Q .normal a' w') :
    (Code.region 5 fnd5_ops true).wpIn (Fence.wide.inRound l) n Tryz.prog Q a w := by
  refine y0R hLO (fun w' => S w') (h0) (fun hHeld => ?_)
  refine yv 0 rfl rfl (fun w1 hw => xld rfl (zi t2 rfl) (L2 _ hw)) hHeld ?_
  refine yv 1 rfl rfl (fun w1 hw => xnc rfl (zg zz rfl)) hHeld ?_
  refine yv 2 rfl rfl (fun w1 hw => xfa rfl (zg zz rfl) (fg_152_0 _ _ _)) hHeld ?_
  refine yv 3 rfl rfl (fun w1 hw => xld rfl (zg zz rfl) (LK _ hw)) hHeld ?_
  refine yv 4 rfl rfl (fun w1 hw => xfa rfl (zi t6 rfl) (fg_65_0 _ _ _)) hHeld ?_
  refine yv 5 rfl rfl (fun w1 hw => xld rfl (zg zz rfl) (LF _ hw)) hHeld ?_
  refine yc 6 rfl rfl (exec_c2 rfl (zg zz rfl) (zg zz rfl)) (CC) (fun e x6 hx => ?_)
  obtain ⟨q, rfl, HF, S1⟩ := hx
  replace h := h q
  refine ⟨_, rfl, S1, fun hHeld => ?_⟩
  refine yv 7 rfl rfl (fun w1 hw => xmv rfl (zg zz rfl)) hHeld ?_
  refine yv 8 rfl rfl (fun w1 hw => exec_extract rfl (zg zz rfl) rfl) hHeld ?_
  refine yv 9 rfl rfl (fun w1 hw => exec_extract rfl (zg zz rfl) rfl) hHeld ?_
  refine yv 10 rfl rfl (fun w1 hw => xas rfl (zg zz rfl)) hHeld ?_
  refine yv 11 rfl rfl (fun w1 hw => xas rfl (zg zz rfl)) hHeld ?_
  exact ye rfl (h _ _ (HF) rfl)
def fnd6_ops : Array Oper := (⟨_, rfl⟩ : {o // some o = rgB Tryz.f89 6}).1
theorem fnd6 {l n : Nat} {b2 pb eb r : Nat} {x : SpV} {kv : Value} (S Fin : World → Prop) (a : Act) (w : World) (Q : Exit → Act → World → Prop) (zz : a.tmps.size = 68)
    (t2 : a.tmps.getD 2 undef = .pointer (some ⟨b2, 0, none⟩))
    (t6 : a.tmps.getD 6 undef = .pointer (some ⟨eb, 0, none⟩))
    (hLO : ¬ LetsOut Q) (h0 : S w.drew) (L2 : ∀ W, S W → (Instr.loadAt 148 (.pointer (some ⟨b2, 0, none⟩))).run Tryz.prog W = .ok (.pointer (some ⟨pb, 0, none⟩)) W) (LK : ∀ W, S W → (Instr.loadAt 150 (.pointer (some ⟨pb, 0 + 0, none⟩))).run Tryz.prog W = .ok (kv) W) (LF : ∀ W, S W → (Instr.loadAt 3 (.pointer (some ⟨eb, 0 + 1, none⟩))).run Tryz.prog W = .ok (.int .i64 x.to) W) (CC : Calls Tryz.prog 112 #[kv, .int .i64 x.to] w.drew fun e w' => ∃ q, e = .returned (.tuple #[.int .i64 (r : Int), .bool q]) ∧ Fin w' ∧ S w')
    (h : ∀ (q : Bool) a' w', Fin w' → a' = (((((((((((a.put (some 31) (.pointer (some ⟨pb, 0, none⟩))).put (some 32) (.pointer (some ⟨pb, 0, none⟩))).put (some 33) (.pointer (some ⟨pb, 0 + 0, none⟩))).put (some 34) (kv)).put (some 35) (.pointer (some ⟨eb, 0 + 1, none⟩))).put (some 36) (.int .i64 x.to)).put (some 37) (.tuple #[.int .i64 (r : Int), .bool q])).put (some 30) (.tuple #[.int .i64 (r : Int), .bool q])).put (some 38) (.int .i64 (r : Int))).put (some 39) (.bool q)).put (some 9) (.int .i64 (r : Int))).put (some 10) (.bool q) → Q .normal a' w') :
    (Code.region 6 fnd6_ops true).wpIn (Fence.wide.inRound l) n Tryz.prog Q a w := by
  refine y0R hLO (fun w' => S w') (h0) (fun hHeld => ?_)
  refine yv 0 rfl rfl (fun w1 hw => xld rfl (zi t2 rfl) (L2 _ hw)) hHeld ?_
  refine yv 1 rfl rfl (fun w1 hw => xnc rfl (zg zz rfl)) hHeld ?_
  refine yv 2 rfl rfl (fun w1 hw => xfa rfl (zg zz rfl) (fg_152_0 _ _ _)) hHeld ?_
  refine yv 3 rfl rfl (fun w1 hw => xld rfl (zg zz rfl) (LK _ hw)) hHeld ?_
  refine yv 4 rfl rfl (fun w1 hw => xfa rfl (zi t6 rfl) (fg_65_1 _ _ _)) hHeld ?_
  refine yv 5 rfl rfl (fun w1 hw => xld rfl (zg zz rfl) (LF _ hw)) hHeld ?_
  refine yc 6 rfl rfl (exec_c2 rfl (zg zz rfl) (zg zz rfl)) (CC) (fun e x6 hx => ?_)
  obtain ⟨q, rfl, HF, S1⟩ := hx
  replace h := h q
  refine ⟨_, rfl, S1, fun hHeld => ?_⟩
  refine yv 7 rfl rfl (fun w1 hw => xmv rfl (zg zz rfl)) hHeld ?_
  refine yv 8 rfl rfl (fun w1 hw => exec_extract rfl (zg zz rfl) rfl) hHeld ?_
  refine yv 9 rfl rfl (fun w1 hw => exec_extract rfl (zg zz rfl) rfl) hHeld ?_
  refine yv 10 rfl rfl (fun w1 hw => xas rfl (zg zz rfl)) hHeld ?_
  refine yv 11 rfl rfl (fun w1 hw => xas rfl (zg zz rfl)) hHeld ?_
  exact ye rfl (h _ _ (HF) rfl)
def fnd7_o0 : Oper := ⟨some 40, .load 148 (.tmp 2), 148, "runs.go:65", #[], none⟩
def fnd7_o1 : Oper := ⟨some 41, .move (.tmp 7), 3, "runs.go:65", #[], none⟩
def fnd7_o2 : Oper := ⟨some 42, .call { callee := Callee.value (Operand.func 113), args := #[.tmp 40, .tmp 41], argTypes := #[148, 3] }, 3, "runs.go:65", #[⟨0, .data⟩, ⟨1, .data⟩], none⟩
def fnd7_o3 : Oper := ⟨some 7, .assign (.tmp 42), 3, "runs.go:65", #[⟨2, .data⟩, ⟨2, .chain⟩, ⟨0, .phase⟩, ⟨1, .phase⟩, ⟨2, .phase⟩], none⟩
def fnd7_ops : Array Oper := #[fnd7_o0, fnd7_o1, fnd7_o2, fnd7_o3]
theorem fnd7 {l n b2 pb ai : Nat} (Fin : Nat → World → Prop) (a : Act) (w : World) (Q : Exit → Act → World → Prop) (hsz : a.tmps.size = 68)
    (t2 : a.tmps.getD 2 undef = .pointer (some ⟨b2, 0, none⟩))
    (t7 : a.tmps.getD 7 undef = .int .i64 (ai : Int))
    (h1 : 1 ≤ n) (L2 : (Instr.loadAt 148 (.pointer (some ⟨b2, 0, none⟩))).run Tryz.prog w = .ok (.pointer (some ⟨pb, 0, none⟩)) w) (CO : Calls Tryz.prog 113 #[.pointer (some ⟨pb, 0, none⟩), .int .i64 (ai : Int)] w fun e w' => ∃ r : Nat, e = .returned (.int .i64 (r : Int)) ∧ Fin r w')
    (h : ∀ (r : Nat) a' w', Fin r w' → a' = (((a.put (some 40) (.pointer (some ⟨pb, 0, none⟩))).put (some 41) (.int .i64 (ai : Int))).put (some 42) (.int .i64 (r : Int))).put (some 7) (.int .i64 (r : Int)) → Q .normal a' w') :
    (Code.region 7 fnd7_ops false).wpIn (Fence.wide.inRound l) n Tryz.prog Q a w := by
  refine wpIn_region_list ?_
  change wpListIn _ _ _ _ _ [fnd7_o0, fnd7_o1, fnd7_o2, fnd7_o3] _ _
  refine qvI (v := .pointer (some ⟨pb, 0, none⟩)) (by rfl) (xld rfl t2 L2) (fun a0 e0 => ?_)
  rw [← e0] at h
  have z0 := pz e0 hsz
  replace t7 := pk e0 t7
  clear t2
  have t40 := pq e0 hsz
  clear e0 hsz
  refine qvI (v := .int .i64 (ai : Int)) (by rfl) (xmv rfl t7) (fun a1 e1 => ?_)
  rw [← e1] at h
  have z1 := pz e1 z0
  replace t40 := pk e1 t40
  clear t7
  have t41 := pq e1 z0
  clear e1 z0
  refine qcR h1 (by rfl) (by unfold fnd7_o2; go_simp) (CO) (fun e x2 hx => ?_)
  obtain ⟨r, rfl, HF⟩ := hx
  replace h := h r
  refine ⟨_, rfl, fun a2 e2 => ?_⟩
  rw [← e2] at h
  have z2 := pz e2 z1
  clear t40 t41
  have t42 := pq e2 z1
  clear e2 z1
  refine qvI (v := .int .i64 (r : Int)) (by rfl) (xas rfl t42) (fun a3 e3 => ?_)
  rw [← e3] at h
  have z3 := pz e3 z2
  clear t42
  clear e3 z2
  exact wpListIn_nil (h _ _ (HF) rfl)
def fnd9_o0 : Oper := ⟨some 46, .load 148 (.tmp 2), 148, "runs.go:65", #[], none⟩
def fnd9_o1 : Oper := ⟨some 47, .move (.tmp 7), 3, "runs.go:65", #[], none⟩
def fnd9_o2 : Oper := ⟨some 48, .call { callee := Callee.value (Operand.func 113), args := #[.tmp 46, .tmp 47], argTypes := #[148, 3] }, 3, "runs.go:65", #[⟨0, .data⟩, ⟨1, .data⟩], none⟩
def fnd9_o3 : Oper := ⟨some 7, .assign (.tmp 48), 3, "runs.go:65", #[⟨2, .data⟩, ⟨2, .chain⟩, ⟨0, .phase⟩, ⟨1, .phase⟩, ⟨2, .phase⟩], none⟩
def fnd9_ops : Array Oper := #[fnd9_o0, fnd9_o1, fnd9_o2, fnd9_o3]
theorem fnd9 {l n b2 pb ai : Nat} (Fin : Nat → World → Prop) (a : Act) (w : World) (Q : Exit → Act → World → Prop) (hsz : a.tmps.size = 68)
    (t2 : a.tmps.getD 2 undef = .pointer (some ⟨b2, 0, none⟩))
    (t7 : a.tmps.getD 7 undef = .int .i64 (ai : Int))
    (h1 : 1 ≤ n) (L2 : (Instr.loadAt 148 (.pointer (some ⟨b2, 0, none⟩))).run Tryz.prog w = .ok (.pointer (some ⟨pb, 0, none⟩)) w) (CO : Calls Tryz.prog 113 #[.pointer (some ⟨pb, 0, none⟩), .int .i64 (ai : Int)] w fun e w' => ∃ r : Nat, e = .returned (.int .i64 (r : Int)) ∧ Fin r w')
    (h : ∀ (r : Nat) a' w', Fin r w' → a' = (((a.put (some 46) (.pointer (some ⟨pb, 0, none⟩))).put (some 47) (.int .i64 (ai : Int))).put (some 48) (.int .i64 (r : Int))).put (some 7) (.int .i64 (r : Int)) → Q .normal a' w') :
    (Code.region 9 fnd9_ops false).wpIn (Fence.wide.inRound l) n Tryz.prog Q a w := by
  refine wpIn_region_list ?_
  change wpListIn _ _ _ _ _ [fnd9_o0, fnd9_o1, fnd9_o2, fnd9_o3] _ _
  refine qvI (v := .pointer (some ⟨pb, 0, none⟩)) (by rfl) (xld rfl t2 L2) (fun a0 e0 => ?_)
  rw [← e0] at h
  have z0 := pz e0 hsz
  replace t7 := pk e0 t7
  clear t2
  have t46 := pq e0 hsz
  clear e0 hsz
  refine qvI (v := .int .i64 (ai : Int)) (by rfl) (xmv rfl t7) (fun a1 e1 => ?_)
  rw [← e1] at h
  have z1 := pz e1 z0
  replace t46 := pk e1 t46
  clear t7
  have t47 := pq e1 z0
  clear e1 z0
  refine qcR h1 (by rfl) (by unfold fnd9_o2; go_simp) (CO) (fun e x2 hx => ?_)
  obtain ⟨r, rfl, HF⟩ := hx
  replace h := h r
  refine ⟨_, rfl, fun a2 e2 => ?_⟩
  rw [← e2] at h
  have z2 := pz e2 z1
  clear t46 t47
  have t48 := pq e2 z1
  clear e2 z1
  refine qvI (v := .int .i64 (r : Int)) (by rfl) (xas rfl t48) (fun a3 e3 => ?_)
  rw [← e3] at h
  have z3 := pz e3 z2
  clear t48
  clear e3 z2
  exact wpListIn_nil (h _ _ (HF) rfl)
def fnd8_o0 : Oper := ⟨some 43, .move (.tmp 7), 3, "runs.go:65", #[], none⟩
def fnd8_o1 : Oper := ⟨some 44, .move (.tmp 9), 3, "runs.go:65", #[], none⟩
def fnd8_o2 : Oper := ⟨some 45, .binOp BinOp.lss 3 (.tmp 43) (.tmp 44) 3, 4, "runs.go:65", #[⟨0, .data⟩, ⟨1, .data⟩], none⟩
def fnd8_ops : Array Oper := #[fnd8_o0, fnd8_o1, fnd8_o2]
theorem fnd8 {l n ai e : Nat} {r : Bool} (a : Act) (w : World) (Q : Exit → Act → World → Prop) (hsz : a.tmps.size = 68)
    (t7 : a.tmps.getD 7 undef = .int .i64 (ai : Int))
    (t9 : a.tmps.getD 9 undef = .int .i64 (e : Int))
    (hr : decide ((ai : Int) < (e : Int)) = r)
    (h : ∀ a' w', w' = w → a' = ((a.put (some 43) (.int .i64 (ai : Int))).put (some 44) (.int .i64 (e : Int))).put (some 45) (.bool r) → Q .normal a' w') :
    (Code.region 8 fnd8_ops false).wpIn (Fence.wide.inRound l) n Tryz.prog Q a w := by
  refine wpIn_region_list ?_
  change wpListIn _ _ _ _ _ [fnd8_o0, fnd8_o1, fnd8_o2] _ _
  refine qvI (v := .int .i64 (ai : Int)) (by rfl) (xmv rfl t7) (fun a0 e0 => ?_)
  rw [← e0] at h
  have z0 := pz e0 hsz
  replace t9 := pk e0 t9
  clear t7
  have t43 := pq e0 hsz
  clear e0 hsz
  refine qvI (v := .int .i64 (e : Int)) (by rfl) (xmv rfl t9) (fun a1 e1 => ?_)
  rw [← e1] at h
  have z1 := pz e1 z0
  replace t43 := pk e1 t43
  clear t9
  have t44 := pq e1 z0
  clear e1 z0
  refine qvI (v := .bool r) (by rfl) (ex_lss rfl t43 t44 hr) (fun a2 e2 => ?_)
  rw [← e2] at h
  have z2 := pz e2 z1
  clear t43 t44
  clear e2 z1
  exact wpListIn_nil (h _ _ (rfl) rfl)
def fnd10_o0 : Oper := ⟨some 49, .load 148 (.tmp 2), 148, "runs.go:66", #[], none⟩
def fnd10_o1 : Oper := ⟨some 50, .nilCheck (.tmp 49), 0, "runs.go:66", #[⟨0, .data⟩], none⟩
def fnd10_o2 : Oper := ⟨some 51, .fieldAddr 152 (.tmp 50) 1, 0, "runs.go:66", #[⟨1, .data⟩], none⟩
def fnd10_o3 : Oper := ⟨some 52, .load 150 (.tmp 51), 150, "runs.go:66", #[⟨2, .data⟩], none⟩
def fnd10_o4 : Oper := ⟨some 53, .move (.tmp 7), 3, "runs.go:66", #[], none⟩
def fnd10_o5 : Oper := ⟨some 54, .move (.tmp 5), 3, "runs.go:66", #[], none⟩
def fnd10_o6 : Oper := ⟨some 55, .indexAddr 150 (.tmp 52) (.tmp 53), 0, "runs.go:66", #[⟨3, .data⟩, ⟨4, .data⟩, ⟨0, .phase⟩, ⟨1, .phase⟩, ⟨2, .phase⟩, ⟨3, .phase⟩, ⟨4, .phase⟩, ⟨5, .phase⟩], none⟩
def fnd10_o7 : Oper := ⟨none, .store 3 (.tmp 55) (.tmp 54), 0, "runs.go:66", #[⟨6, .data⟩, ⟨5, .data⟩, ⟨0, .phase⟩, ⟨1, .phase⟩, ⟨2, .phase⟩, ⟨3, .phase⟩, ⟨4, .phase⟩, ⟨5, .phase⟩], none⟩
def fnd10_ops : Array Oper := #[fnd10_o0, fnd10_o1, fnd10_o2, fnd10_o3, fnd10_o4, fnd10_o5, fnd10_o6, fnd10_o7]
theorem fnd10 {l n b2 pb g m c ai : Nat} {i : Int} {w1 : World} (a : Act) (w : World) (Q : Exit → Act → World → Prop) (hsz : a.tmps.size = 68)
    (t2 : a.tmps.getD 2 undef = .pointer (some ⟨b2, 0, none⟩))
    (t5 : a.tmps.getD 5 undef = .int .i64 i)
    (t7 : a.tmps.getD 7 undef = .int .i64 (ai : Int))
    (ha : ai < m) (hm : m ≤ 9223372036854775807) (L2 : (Instr.loadAt 148 (.pointer (some ⟨b2, 0, none⟩))).run Tryz.prog w = .ok (.pointer (some ⟨pb, 0, none⟩)) w) (LH : (Instr.loadAt 150 (.pointer (some ⟨pb, 0 + 1, none⟩))).run Tryz.prog w = .ok (.slice (some ⟨g, 0, none⟩) m c) w) (ES : (Instr.storeAt 3 (.pointer (some ⟨g, ai, none⟩)) (.int .i64 i)).run Tryz.prog w = .ok () w1)
    (h : ∀ a' w', w' = w1 → a' = ((((((a.put (some 49) (.pointer (some ⟨pb, 0, none⟩))).put (some 50) (.pointer (some ⟨pb, 0, none⟩))).put (some 51) (.pointer (some ⟨pb, 0 + 1, none⟩))).put (some 52) (.slice (some ⟨g, 0, none⟩) m c)).put (some 53) (.int .i64 (ai : Int))).put (some 54) (.int .i64 i)).put (some 55) (.pointer (some ⟨g, ai, none⟩)) → Q .normal a' w') :
    (Code.region 10 fnd10_ops false).wpIn (Fence.wide.inRound l) n Tryz.prog Q a w := by
  refine wpIn_region_list ?_
  change wpListIn _ _ _ _ _ [fnd10_o0, fnd10_o1, fnd10_o2, fnd10_o3, fnd10_o4, fnd10_o5, fnd10_o6, fnd10_o7] _ _
  refine qvI (v := .pointer (some ⟨pb, 0, none⟩)) (by rfl) (xld rfl t2 L2) (fun a0 e0 => ?_)
  rw [← e0] at h
  have z0 := pz e0 hsz
  replace t5 := pk e0 t5
  replace t7 := pk e0 t7
  clear t2
  have t49 := pq e0 hsz
  clear e0 hsz
  refine qvI (v := .pointer (some ⟨pb, 0, none⟩)) (by rfl) (xnc rfl t49) (fun a1 e1 => ?_)
  rw [← e1] at h
  have z1 := pz e1 z0
  replace t5 := pk e1 t5
  replace t7 := pk e1 t7
  clear t49
  have t50 := pq e1 z0
  clear e1 z0
  refine qvI (v := .pointer (some ⟨pb, 0 + 1, none⟩)) (by rfl) (xfa rfl t50 (fg_152_1 _ _ _)) (fun a2 e2 => ?_)
  rw [← e2] at h
  have z2 := pz e2 z1
  replace t5 := pk e2 t5
  replace t7 := pk e2 t7
  clear t50
  have t51 := pq e2 z1
  clear e2 z1
  refine qvI (v := .slice (some ⟨g, 0, none⟩) m c) (by rfl) (xld rfl t51 LH) (fun a3 e3 => ?_)
  rw [← e3] at h
  have z3 := pz e3 z2
  replace t5 := pk e3 t5
  replace t7 := pk e3 t7
  clear t51
  have t52 := pq e3 z2
  clear e3 z2
  refine qvI (v := .int .i64 (ai : Int)) (by rfl) (xmv rfl t7) (fun a4 e4 => ?_)
  rw [← e4] at h
  have z4 := pz e4 z3
  replace t5 := pk e4 t5
  replace t52 := pk e4 t52
  clear t7
  have t53 := pq e4 z3
  clear e4 z3
  refine qvI (v := .int .i64 i) (by rfl) (xmv rfl t5) (fun a5 e5 => ?_)
  rw [← e5] at h
  have z5 := pz e5 z4
  replace t52 := pk e5 t52
  replace t53 := pk e5 t53
  clear t5
  have t54 := pq e5 z4
  clear e5 z4
  refine qvI (v := .pointer (some ⟨g, ai, none⟩)) (by rfl) (xia rfl t52 t53 (ix_z ha hm _)) (fun a6 e6 => ?_)
  rw [← e6] at h
  have z6 := pz e6 z5
  replace t54 := pk e6 t54
  clear t52 t53
  have t55 := pq e6 z5
  clear e6 z5
  refine qsI (by rfl) (exec_store rfl t55 t54 ES) ?_
  exact wpListIn_nil (h _ _ (rfl) rfl)
def fnd11_o0 : Oper := ⟨some 56, .load 148 (.tmp 2), 148, "runs.go:67", #[], none⟩
def fnd11_o1 : Oper := ⟨some 57, .nilCheck (.tmp 56), 0, "runs.go:67", #[⟨0, .data⟩], none⟩
def fnd11_o2 : Oper := ⟨some 58, .fieldAddr 152 (.tmp 57) 2, 0, "runs.go:67", #[⟨1, .data⟩], none⟩
def fnd11_o3 : Oper := ⟨some 59, .load 150 (.tmp 58), 150, "runs.go:67", #[⟨2, .data⟩], none⟩
def fnd11_o4 : Oper := ⟨some 60, .move (.tmp 7), 3, "runs.go:67", #[], none⟩
def fnd11_o5 : Oper := ⟨some 61, .move (.tmp 7), 3, "runs.go:67", #[], none⟩
def fnd11_o6 : Oper := ⟨some 62, .binOp BinOp.add 3 (.tmp 61) (Operand.const (Value.int IntKind.i64 1)) 3, 3, "runs.go:67", #[⟨5, .data⟩], none⟩
def fnd11_o7 : Oper := ⟨some 63, .indexAddr 150 (.tmp 59) (.tmp 60), 0, "runs.go:67", #[⟨3, .data⟩, ⟨4, .data⟩, ⟨0, .phase⟩, ⟨1, .phase⟩, ⟨2, .phase⟩, ⟨3, .phase⟩, ⟨4, .phase⟩, ⟨5, .phase⟩, ⟨6, .phase⟩], none⟩
def fnd11_o8 : Oper := ⟨none, .store 3 (.tmp 63) (.tmp 62), 0, "runs.go:67", #[⟨7, .data⟩, ⟨6, .data⟩, ⟨0, .phase⟩, ⟨1, .phase⟩, ⟨2, .phase⟩, ⟨3, .phase⟩, ⟨4, .phase⟩, ⟨5, .phase⟩, ⟨6, .phase⟩], none⟩
def fnd11_ops : Array Oper := #[fnd11_o0, fnd11_o1, fnd11_o2, fnd11_o3, fnd11_o4, fnd11_o5, fnd11_o6, fnd11_o7, fnd11_o8]
theorem fnd11 {l n b2 pb g m c ai aj : Nat} {w1 : World} (a : Act) (w : World) (Q : Exit → Act → World → Prop) (hsz : a.tmps.size = 68)
    (t2 : a.tmps.getD 2 undef = .pointer (some ⟨b2, 0, none⟩))
    (t7 : a.tmps.getD 7 undef = .int .i64 (ai : Int))
    (ha : ai < m) (hm : m ≤ 9223372036854775807) (hE : (ai : Int) + 1 = (aj : Int)) (hb : (aj : Int) ≤ 9223372036854775807) (L2 : (Instr.loadAt 148 (.pointer (some ⟨b2, 0, none⟩))).run Tryz.prog w = .ok (.pointer (some ⟨pb, 0, none⟩)) w) (LH : (Instr.loadAt 150 (.pointer (some ⟨pb, 0 + 2, none⟩))).run Tryz.prog w = .ok (.slice (some ⟨g, 0, none⟩) m c) w) (ES : (Instr.storeAt 3 (.pointer (some ⟨g, ai, none⟩)) (.int .i64 (aj : Int))).run Tryz.prog w = .ok () w1)
    (h : ∀ a' w', w' = w1 → a' = (((((((a.put (some 56) (.pointer (some ⟨pb, 0, none⟩))).put (some 57) (.pointer (some ⟨pb, 0, none⟩))).put (some 58) (.pointer (some ⟨pb, 0 + 2, none⟩))).put (some 59) (.slice (some ⟨g, 0, none⟩) m c)).put (some 60) (.int .i64 (ai : Int))).put (some 61) (.int .i64 (ai : Int))).put (some 62) (.int .i64 (aj : Int))).put (some 63) (.pointer (some ⟨g, ai, none⟩)) → Q .normal a' w') :
    (Code.region 11 fnd11_ops false).wpIn (Fence.wide.inRound l) n Tryz.prog Q a w := by
  refine wpIn_region_list ?_
  change wpListIn _ _ _ _ _ [fnd11_o0, fnd11_o1, fnd11_o2, fnd11_o3, fnd11_o4, fnd11_o5, fnd11_o6, fnd11_o7, fnd11_o8] _ _
  refine qvI (v := .pointer (some ⟨pb, 0, none⟩)) (by rfl) (xld rfl t2 L2) (fun a0 e0 => ?_)
  rw [← e0] at h
  have z0 := pz e0 hsz
  replace t7 := pk e0 t7
  clear t2
  have t56 := pq e0 hsz
  clear e0 hsz
  refine qvI (v := .pointer (some ⟨pb, 0, none⟩)) (by rfl) (xnc rfl t56) (fun a1 e1 => ?_)
  rw [← e1] at h
  have z1 := pz e1 z0
  replace t7 := pk e1 t7
  clear t56
  have t57 := pq e1 z0
  clear e1 z0
  refine qvI (v := .pointer (some ⟨pb, 0 + 2, none⟩)) (by rfl) (xfa rfl t57 (fg_152_2 _ _ _)) (fun a2 e2 => ?_)
  rw [← e2] at h
  have z2 := pz e2 z1
  replace t7 := pk e2 t7
  clear t57
  have t58 := pq e2 z1
  clear e2 z1
  refine qvI (v := .slice (some ⟨g, 0, none⟩) m c) (by rfl) (xld rfl t58 LH) (fun a3 e3 => ?_)
  rw [← e3] at h
  have z3 := pz e3 z2
  replace t7 := pk e3 t7
  clear t58
  have t59 := pq e3 z2
  clear e3 z2
  refine qvI (v := .int .i64 (ai : Int)) (by rfl) (xmv rfl t7) (fun a4 e4 => ?_)
  rw [← e4] at h
  have z4 := pz e4 z3
  replace t7 := pk e4 t7
  replace t59 := pk e4 t59
  have t60 := pq e4 z3
  clear e4 z3
  refine qvI (v := .int .i64 (ai : Int)) (by rfl) (xmv rfl t7) (fun a5 e5 => ?_)
  rw [← e5] at h
  have z5 := pz e5 z4
  replace t59 := pk e5 t59
  replace t60 := pk e5 t60
  clear t7
  have t61 := pq e5 z4
  clear e5 z4
  refine qvI (v := .int .i64 (aj : Int)) (by rfl) (ex_addE hE hb rfl t61 rfl) (fun a6 e6 => ?_)
  rw [← e6] at h
  have z6 := pz e6 z5
  replace t59 := pk e6 t59
  replace t60 := pk e6 t60
  clear t61
  have t62 := pq e6 z5
  clear e6 z5
  refine qvI (v := .pointer (some ⟨g, ai, none⟩)) (by rfl) (xia rfl t59 t60 (ix_z ha hm _)) (fun a7 e7 => ?_)
  rw [← e7] at h
  have z7 := pz e7 z6
  replace t62 := pk e7 t62
  clear t59 t60
  have t63 := pq e7 z6
  clear e7 z6
  refine qsI (by rfl) (exec_store rfl t63 t62 ES) ?_
  exact wpListIn_nil (h _ _ (rfl) rfl)
def fnd12_o0 : Oper := ⟨some 64, .load 3 (.tmp 4), 3, "runs.go:68", #[], none⟩
def fnd12_o1 : Oper := ⟨some 65, .binOp BinOp.sub 3 (.tmp 64) (Operand.const (Value.int IntKind.i64 1)) 3, 3, "runs.go:68", #[⟨0, .data⟩], none⟩
def fnd12_o2 : Oper := ⟨none, .store 3 (.tmp 4) (.tmp 65), 0, "runs.go:68", #[⟨1, .data⟩, ⟨0, .phase⟩, ⟨1, .phase⟩], none⟩
def fnd12_ops : Array Oper := #[fnd12_o0, fnd12_o1, fnd12_o2]
theorem fnd12 {l n b4 k k1 : Nat} {w1 : World} (a : Act) (w : World) (Q : Exit → Act → World → Prop) (hsz : a.tmps.size = 68)
    (t4 : a.tmps.getD 4 undef = .pointer (some ⟨b4, 0, none⟩))
    (hk : (k : Int) - 1 = (k1 : Int)) (hb : -9223372036854775808 ≤ (k : Int) - 1 ∧ (k : Int) - 1 ≤ 9223372036854775807) (LO : (Instr.loadAt 3 (.pointer (some ⟨b4, 0, none⟩))).run Tryz.prog w = .ok (.int .i64 (k : Int)) w) (ES : (Instr.storeAt 3 (.pointer (some ⟨b4, 0, none⟩)) (.int .i64 (k1 : Int))).run Tryz.prog w = .ok () w1)
    (h : ∀ a' w', w' = w1 → a' = (a.put (some 64) (.int .i64 (k : Int))).put (some 65) (.int .i64 (k1 : Int)) → Q .normal a' w') :
    (Code.region 12 fnd12_ops false).wpIn (Fence.wide.inRound l) n Tryz.prog Q a w := by
  refine wpIn_region_list ?_
  change wpListIn _ _ _ _ _ [fnd12_o0, fnd12_o1, fnd12_o2] _ _
  refine qvI (v := .int .i64 (k : Int)) (by rfl) (xld rfl t4 LO) (fun a0 e0 => ?_)
  rw [← e0] at h
  have z0 := pz e0 hsz
  replace t4 := pk e0 t4
  have t64 := pq e0 hsz
  clear e0 hsz
  refine qvI (v := .int .i64 (k1 : Int)) (by rfl) (ex_sub1 rfl t64 rfl hk hb) (fun a1 e1 => ?_)
  rw [← e1] at h
  have z1 := pz e1 z0
  replace t4 := pk e1 t4
  clear t64
  have t65 := pq e1 z0
  clear e1 z0
  refine qsI (by rfl) (exec_store rfl t4 t65 ES) ?_
  exact wpListIn_nil (h _ _ (rfl) rfl)
def fnd13_o0 : Oper := ⟨some 66, .load 3 (.tmp 4), 3, "runs.go:68", #[], none⟩
def fnd13_o1 : Oper := ⟨some 67, .binOp BinOp.eql 3 (.tmp 66) (Operand.const (Value.int IntKind.i64 0)) 3, 4, "runs.go:68", #[⟨0, .data⟩], none⟩
def fnd13_ops : Array Oper := #[fnd13_o0, fnd13_o1]
theorem fnd13 {l n b4 k : Nat} {r : Bool} (a : Act) (w : World) (Q : Exit → Act → World → Prop) (hsz : a.tmps.size = 68)
    (t4 : a.tmps.getD 4 undef = .pointer (some ⟨b4, 0, none⟩))
    (hr : decide ((k : Int) = 0) = r) (LO : (Instr.loadAt 3 (.pointer (some ⟨b4, 0, none⟩))).run Tryz.prog w = .ok (.int .i64 (k : Int)) w)
    (h : ∀ a' w', w' = w → a' = (a.put (some 66) (.int .i64 (k : Int))).put (some 67) (.bool r) → Q .normal a' w') :
    (Code.region 13 fnd13_ops false).wpIn (Fence.wide.inRound l) n Tryz.prog Q a w := by
  refine wpIn_region_list ?_
  change wpListIn _ _ _ _ _ [fnd13_o0, fnd13_o1] _ _
  refine qvI (v := .int .i64 (k : Int)) (by rfl) (xld rfl t4 LO) (fun a0 e0 => ?_)
  rw [← e0] at h
  have z0 := pz e0 hsz
  clear t4
  have t66 := pq e0 hsz
  clear e0 hsz
  refine qvI (v := .bool r) (by rfl) (ex_eql rfl t66 rfl hr) (fun a1 e1 => ?_)
  rw [← e1] at h
  have z1 := pz e1 z0
  clear t66
  clear e1 z0
  exact wpListIn_nil (h _ _ (rfl) rfl)
end Go.Proofs.YtifendlpeebofaaGreatDoor
namespace Go.Proofs.YtifendlpeebofaaGreatDoor
open Go.RowKit Go.Shelf Sq
abbrev SpP (C : List SpV) := {q : SpV × Nat // C[q.2]? = some q.1}
theorem lift_bk (C : List SpV) : ∃ LA : List (SpP C), LA.map (·.1) = bkZ C := lift_ok _ fun q hq => by
  unfold bkZ at hq
  have := List.mem_reverse.1 hq
  obtain ⟨i, hi⟩ := List.mem_iff_getElem?.1 this
  rw [List.getElem?_zipIdx] at hi
  cases h : C[i]? with
  | none => rw [h] at hi; cases hi
  | some x =>
    rw [h] at hi
    simp at hi
    subst hi
    exact h
theorem la_len {C : List SpV} {LA : List (SpP C)} (h : LA.map (·.1) = bkZ C) : LA.length = C.length := by
  have := congrArg List.length h
  rw [List.length_map, bkZ_len] at this
  exact this
theorem la_get {C : List SpV} {LA : List (SpP C)} (h : LA.map (·.1) = bkZ C) {j : Nat} {x : SpV} (hx : C[j]? = some x) : ∃ y : SpP C, LA[C.length - 1 - j]? = some y ∧ y.1 = (x, j) := by
  have g := bkZ_get hx
  rw [← h, List.getElem?_map] at g
  cases q : LA[C.length - 1 - j]? with
  | none => rw [q] at g; cases g
  | some y => rw [q] at g; exact ⟨y, rfl, Option.some.inj g⟩
theorem la_step {C : List SpV} {LA : List (SpP C)} (h : LA.map (·.1) = bkZ C) {j : Nat} {x : SpV} (hx : C[j]? = some x) : ∃ y : SpP C, y.1 = (x, j) ∧ LA.take (C.length - j) = LA.take (C.length - (j + 1)) ++ [y] := by
  have hj := (List.getElem?_eq_some_iff.1 hx).1
  obtain ⟨y, g, e⟩ := la_get h hx
  refine ⟨y, e, ?_⟩
  rw [show C.length - j = (C.length - 1 - j) + 1 by omega, show C.length - (j + 1) = C.length - 1 - j by omega, List.take_add_one, g]
  rfl
theorem la_next {C : List SpV} {LA : List (SpP C)} (h : LA.map (·.1) = bkZ C) {pre : List (SpP C)} {y : SpP C} {k : Nat} (e : pre ++ [y] = LA.take k) : pre.length < C.length ∧ y.1.2 = C.length - (pre.length + 1) ∧ pre = LA.take pre.length := by
  have l := la_len h
  have hl := congrArg List.length e
  rw [List.length_append, List.length_singleton, List.length_take] at hl
  have hp : pre.length < C.length := by omega
  have g : (LA.take k)[pre.length]? = some y := by rw [← e]; simp
  rw [List.getElem?_take, if_pos (by omega)] at g
  obtain ⟨x, hx⟩ : ∃ x, C[C.length - 1 - pre.length]? = some x := ⟨_, List.getElem?_eq_getElem (by omega)⟩
  obtain ⟨y2, g2, e2⟩ := la_get h hx
  rw [show C.length - 1 - (C.length - 1 - pre.length) = pre.length by omega, g] at g2
  cases g2
  refine ⟨hp, by rw [e2]; show C.length - 1 - pre.length = _; omega, ?_⟩
  have := congrArg (List.take pre.length) e
  rw [List.take_left', List.take_take, Nat.min_eq_left (by omega)] at this
  · exact this
  · rfl
theorem sbackward_any (w : World) (la : Option Addr) (n c : Nat) : Calls Tryz.prog 111 #[.slice la n c] w fun e w' => e = .returned (.func (.func 142) #[] #[.pointer (some ⟨w.heap.size, 0, none⟩)]) ∧ w'.heap.size = w.heap.size + 1 ∧ w'.heap[w.heap.size]? = some (.cells #[.slice la n c] 49 (0, 0)) ∧ Below w.heap.size w w' := by
  go_enter Tryz.func111, Tryz.ntmps111
  go_wp2
  go_ret
  exact ⟨rfl, by simp, heap_alloc_new _ _, (Below.refl _ _).alloc (Nat.le_refl _) _⟩
theorem sbwd_stops (n0 bs : Nat) (C : List SpV) (ok : ∀ x ∈ C, x.ok) (hn : C.length ≤ 900000000000) {LA : List (SpP C)} (hLA : LA.map (·.1) = bkZ C) {la : Option Addr} {c : Nat} (w : World) (hc : w.cell? ⟨bs, 0, none⟩ = some (.slice la C.length c)) (hat : RSp.At w la C) :
    SeqStopsK Fence.wide n0 Tryz.prog 142 #[.pointer (some ⟨bs, 0, none⟩)] (fun y : SpP C => #[.int .i64 (y.1.2 : Int), y.1.1.a]) (Kl (bs :: adB la)) (fun xs => xs = LA) (fun xs => ∃ k, xs = LA.take k) C.length w := by
  intro l J Jx W hW hJ hJx hY h0
  have l1 := block_lt_of_cell hc
  have HC : Hid (∀ W', Kl (bs :: adB la) W W' → W'.cell? ⟨bs, 0, none⟩ = some (.slice la C.length c)) := fun W' hk => (World.cell?_of_block (a := ⟨bs, 0, none⟩) (hk bs (by simp))).trans ((hW.cell (p := ⟨bs, 0, none⟩) l1).trans hc)
  have HX : Hid (∀ (W' : World) (j : Nat) (x : SpV), Kl (bs :: adB la) W W' → C[j]? = some x → ∃ g o, la = some ⟨g, o, none⟩ ∧ (Instr.loadAt 65 (.pointer (some ⟨g, o + 7 * j, none⟩))).run Tryz.prog W' = .ok x.a W') := fun W' j x hk hx => by
    rcases hat with e | ⟨b, off, e, hb, hr⟩
    · rw [e] at hx; cases hx
    · refine ⟨b, off, e, RowT.ld RSp_is (ok x (List.mem_of_getElem? hx)) (rangeAt_keep (rangeAt_keep (hr j x hx) (hW.block _ hb)) (hk b (by rw [e]; simp [adB])))⟩
  have hlen := la_len hLA
  have HLA : Hid (∀ (j : Nat) (x : SpV), C[j]? = some x → ∃ y : SpP C, y.1 = (x, j) ∧ LA.take (C.length - j) = LA.take (C.length - (j + 1)) ++ [y]) := fun j x hx => la_step hLA hx
  have HY := hidMk hY
  have H0 := hidMk h0
  obtain ⟨n, hnn⟩ : ∃ n, C.length = n := ⟨_, rfl⟩
  have HN := hidMk hnn
  rw [hnn] at hn HC
  have HL := hidMk hlen
  clear hY h0 hc hat hnn hLA hlen ok
  refine callsIn_of_wp Tryz.func142 rfl trivial ?_ rfl
  simp only [Tryz.ntmps142, List.size_toArray, List.length_cons, List.length_nil, Nat.reduceAdd, Nat.reduceSub, Array.replicate_succ, Array.replicate_zero, List.push_toArray, List.append_toArray, List.nil_append, List.cons_append]
  refine wpIn_wide.2 ?_
  have hlb0 : (Instr.loadAt 49 (.pointer (some ⟨bs, 0, none⟩))).run Tryz.prog W = .ok (.slice la n c) W := by
    have hc := HC.out W (fun _ _ => rfl)
    go_simp
  go_upto_region 0 with fail
  refine sbw0 (bs := bs) (n := n) (c := c) (la := la) _ W _ rfl rfl (by omega) hlb0 ?_
  intro a' w1 hw ha
  obtain rfl : W = w1 := hw.symm
  subst ha
  simp only [Act.put, qsA, qsB, qsC]
  clear hlb0
  go_wp2
  go_loopw [3] (fun v3 wr => ∃ k : Nat, v3 = .int .i64 ((k : Int) - 1) ∧ k ≤ n ∧ Hid (J (LA.take (C.length - k)) wr ∧ Kl (bs :: adB la) W wr)) (fun v3 _ => (match v3 with | .int _ i => (i + 1).toNat | _ => 0))
  case atStart => exact ⟨n, rfl, Nat.le_refl _, by rw [HN.out, Nat.sub_self]; exact H0.out, fun _ _ => rfl⟩
  case round =>
    obtain ⟨k, rfl, hk, HI⟩ := hrel
    cases k with
    | zero =>
      go_upto_region 1 with fail
      refine sbw1 (z := ((0 : Nat) : Int) - 1) (r := false) _ wr _ rfl rfl (by decide) ?_
      intro a' w1 hw ha
      obtain rfl : wr = w1 := hw.symm
      subst ha
      simp only [Act.put, qsA, qsB, qsC]
      go_wp2
      go_end0
      refine ⟨⟨_, rfl⟩, .inl ?_⟩
      have := HI.out.1
      rw [Nat.sub_zero, ← HL.out, List.take_length] at this
      exact this
    | succ j =>
      obtain ⟨x, hx⟩ : ∃ x, C[j]? = some x := ⟨_, List.getElem?_eq_getElem (by rw [HN.out]; omega)⟩
      have hz : ((j + 1 : Nat) : Int) - 1 = (j : Int) := by omega
      rw [hz]
      go_upto_region 1 with fail
      refine sbw1 (z := (j : Int)) (r := true) _ wr _ rfl rfl (decide_eq_true (by omega)) ?_
      intro a' w1 hw ha
      obtain rfl : wr = w1 := hw.symm
      subst ha
      simp only [Act.put, qsA, qsB, qsC]
      obtain ⟨g, o, rfl, hld⟩ := HX.out wr j x HI.out.2 hx
      have hlb : (Instr.loadAt 49 (.pointer (some ⟨bs, 0, none⟩))).run Tryz.prog wr = .ok (.slice (some ⟨g, o, none⟩) n c) wr := by
        have hc := HC.out wr HI.out.2
        go_simp
      have h63 : n ≤ 9223372036854775807 := by omega
      obtain ⟨y, hy, hst⟩ := HLA.out j x hx
      have CY := HY.out (LA.take (C.length - (j + 1))) y wr HI.out.1 (by rw [List.length_take, HL.out, HN.out]; omega)
      rw [← hst, hy] at CY
      have HK := hidMk HI.out.2
      clear HI hst hz hy
      go_upto_region 3 with fail
      refine (wpIn_wide (n := n0)).1 ?_
      refine sbw3 (bs := bs) (g := g) (o := o) (n := n) (c := c) (i := j) (l := l) (x := x) (fun b W' => (b = true ∧ J (LA.take (C.length - j)) W' ∧ Kl (bs :: adB (some ⟨g, o, none⟩)) wr W') ∨ (b = false ∧ Jx (LA.take (C.length - j)) W')) _ wr _ rfl rfl rfl rfl hk h63 hlb hld (CY.mono ?_) ?_
      · rintro e W' (⟨rfl, q1, q2⟩ | ⟨rfl, q1⟩)
        · exact ⟨true, rfl, .inl ⟨rfl, q1, q2⟩⟩
        · exact ⟨false, rfl, .inr ⟨rfl, q1⟩⟩
      intro b a' w2 hP ha
      subst ha
      simp only [Act.put, qsA, qsB, qsC]
      clear hlb hld CY
      rcases hP with ⟨rfl, q1, q2⟩ | ⟨rfl, q1⟩
      · have Q1 := hidMk q1
        have Q2 := hidMk (HK.out.trans q2)
        clear q1 q2 HK
        go_upto_region 2 with fail
        refine sbw2 (z := (j : Int)) _ w2 _ rfl rfl (by omega) ?_
        intro a' w3 hw ha
        obtain rfl : w2 = w3 := hw.symm
        subst ha
        simp only [Act.put, qsA, qsB, qsC]
        go_wp2
        refine ⟨⟨j, rfl, by omega, Q1.out, Q2.out⟩, ?_⟩
        show ((j : Int) - 1 + 1).toNat < ((j : Int) + 1).toNat
        omega
      · have Q1 := hidMk q1
        clear q1 HK
        go_wp2
        refine bodyPost_ret (results_none rfl _ _ _) rfl ?_
        exact ⟨⟨_, rfl⟩, .inr ⟨_, ⟨C.length - j, rfl⟩, Q1.out⟩⟩
structure ZT (B : Nat) (W W' : World) : Prop where
  bel : Below B W W'
  nz : ∀ (j : Nat) (c : Array Value) (t : TypeId) (z : Nat × Nat), W.heap[j]? = some (.cells c t z) → t ≠ 3 → W'.heap[j]? = W.heap[j]?
  no : ∀ (j : Nat) (o : Obj), W.heap[j]? = some o → o.isCells = false → W'.heap[j]? = W.heap[j]?
theorem ZT.trans {B : Nat} {W1 W2 W3 : World} (h : ZT B W1 W2) (k : ZT B W2 W3) : ZT B W1 W3 :=
  ⟨h.bel.trans k.bel, fun j c t z hj ht => (k.nz j c t z ((h.nz j c t z hj ht).trans hj) ht).trans (h.nz j c t z hj ht), fun j o hj ho => (k.no j o ((h.no j o hj ho).trans hj) ho).trans (h.no j o hj ho)⟩
theorem ZT.below {B : Nat} {W W' : World} (hB : B ≤ W.heap.size) (b : Below W.heap.size W W') : ZT B W W' :=
  ⟨b.mono hB, fun j c t z hj _ => b.block j (Array.getElem?_eq_some_iff.1 hj).1, fun j o hj _ => b.block j (Array.getElem?_eq_some_iff.1 hj).1⟩
theorem ZT.tch {B : Nat} {W W' : World} {base : Nat} {v : Value} {L : List Int} (hB : B ≤ W.heap.size) (hb : B ≤ base) (o : OwnZ W base v L) (t : Tch (fun j => v.ownBlock = some j) W W') : ZT B W W' :=
  ⟨t.below hB (fun j hj => Nat.le_trans hb (o.ge j hj).1), fun j c ty z hj ht => t.block j (Array.getElem?_eq_some_iff.1 hj).1 (fun e => by
    obtain ⟨_, c2, hc2⟩ := o.ge j e
    exact ht (two_typesM hj hc2)), fun j ob hj ho => t.block j (Array.getElem?_eq_some_iff.1 hj).1 (fun e => by
    obtain ⟨_, c2, hc2⟩ := o.ge j e
    rw [hj] at hc2; cases hc2; cases ho)⟩
theorem ZT.refl (B : Nat) (W : World) : ZT B W W := ⟨Below.refl _ _, fun _ _ _ _ _ _ => rfl, fun _ _ _ _ => rfl⟩
theorem PcAt.seth {w : World} {base pb : Nat} {P : PcV} {K H : List Int} {X : List Nat} (h : PcAt w base pb P K H X) {i : Nat} (hi : i < H.length) (x : Int) : ∃ g cap, P.hv = .slice (some ⟨g, 0, none⟩) H.length cap ∧ (Instr.storeAt 3 (.pointer (some ⟨g, i, none⟩)) (.int .i64 x)).run Tryz.prog w = .ok () (w.setCell ⟨g, i, none⟩ (.int .i64 x)) ∧ PcAt (w.setCell ⟨g, i, none⟩ (.int .i64 x)) base pb P K (H.set i x) X ∧ Tch (fun j => P.hv.ownBlock = some j) w (w.setCell ⟨g, i, none⟩ (.int .i64 x)) := by
  obtain ⟨g, cap, e, hg, es, o, t⟩ := h.h.set (i := i) hi x
  have kb : ∀ j, j < w.heap.size → P.hv.ownBlock ≠ some j → (w.setCell ⟨g, i, none⟩ (iz x)).heap[j]? = w.heap[j]? := fun j hj hn => t.block j hj hn
  exact ⟨g, cap, e, es, ⟨(kb pb (h.lt (.inl rfl)) h.npb.2.1).trans h.cell, h.k.keep (fun j hj => kb j (h.lt (.inr (.inl hj))) (h.dk j hj).1), o, h.x.keep (fun j hj => kb j (h.lt (.inr (.inr (.inr hj)))) (fun q => h.dh j q hj)), h.dk, h.dh, h.b⟩, t⟩
def cntZ (H : List Int) : Nat := H.countP (fun z => decide (z = -1))
structure FdS (w : World) (base pb b2 b4 : Nat) (P : PcV) (K : List Int) (R : List Int → List Nat → Prop) (W : World) : Prop where
  bx : W.heap[b2]? = some (.cells #[.pointer (some ⟨pb, 0, none⟩)] 148 (0, 0))
  st : ∃ H X, PcAt W base pb P K H X ∧ NX H X ∧ H.length + 1 = K.length ∧ R H X ∧ W.heap[b4]? = some (.cells #[.int .i64 (cntZ H : Int)] 3 (0, 0))
  tch : Tch (fun j => P.hv.ownBlock = some j ∨ P.xv.ownBlock = some j) w W
  bl : base ≤ w.heap.size
  b4 : w.heap.size ≤ b4
  pl : ∀ j, P.bl pb j → j < w.heap.size
section
variable {w W W' : World} {base pb b2 b4 : Nat} {P : PcV} {K : List Int} {R R' : List Int → List Nat → Prop}
theorem FdS.imp (h : FdS w base pb b2 b4 P K R W) (hr : ∀ H X, H.length + 1 = K.length → NX H X → R H X → R' H X) : FdS w base pb b2 b4 P K R' W := by
  obtain ⟨H, X, p, n, l, r, c⟩ := h.st
  exact ⟨h.bx, ⟨H, X, p, n, l, hr H X l n r, c⟩, h.tch, h.bl, h.b4, h.pl⟩
theorem FdS.ge (h : FdS w base pb b2 b4 P K R W) : w.heap.size ≤ W.heap.size := h.tch.size
theorem FdS.cp (h : FdS w base pb b2 b4 P K R W) (cp : ∀ (j : Nat) (c : Array Value) (t : TypeId) (z : Nat × Nat), W.heap[j]? = some (.cells c t z) → W'.heap[j]? = W.heap[j]?) (b : Below w.heap.size W W') : FdS w base pb b2 b4 P K R W' := by
  obtain ⟨H, X, p, n, l, r, c⟩ := h.st
  refine ⟨(cp _ _ _ _ h.bx).trans h.bx, ⟨H, X, p.keep (fun j hj => b.block j (h.pl j hj)), n, l, r, (cp _ _ _ _ c).trans c⟩, ⟨b.os.trans h.tch.os, b.tape.trans h.tch.tape, b.output.trans h.tch.output, Nat.le_trans h.tch.size b.size, fun k hk hn => (b.block k hk).trans (h.tch.block k hk hn)⟩, h.bl, h.b4, h.pl⟩
theorem FdS.below (h : FdS w base pb b2 b4 P K R W) (b : Below W.heap.size W W') : FdS w base pb b2 b4 P K R W' :=
  h.cp (fun j c t z hj => b.block j (Array.getElem?_eq_some_iff.1 hj).1) (b.mono h.ge)
theorem FdS.ld2 (h : FdS w base pb b2 b4 P K R W) : (Instr.loadAt 148 (.pointer (some ⟨b2, 0, none⟩))).run Tryz.prog W = .ok (.pointer (some ⟨pb, 0, none⟩)) W := by
  have hc : W.cell? ⟨b2, 0, none⟩ = some (.pointer (some ⟨pb, 0, none⟩)) := (cell_of_row W b2 0 _ _ _ h.bx).trans rfl
  go_simp
theorem FdS.zt (h : FdS w base pb b2 b4 P K R W) {v : Value} {L : List Int} (o : OwnZ W base v L) (t : Tch (fun j => v.ownBlock = some j) W W') : ZT base W W' := ZT.tch (Nat.le_trans h.bl h.ge) (Nat.le_refl _) o t
theorem FdS.search (h : FdS w base pb b2 b4 P K R W) (ka : K.Pairwise (· < ·)) (kn : K.length ≤ 2000000000000) {p : Nat} {x : Int} (hp : K[p]? = some x) : Calls Tryz.prog 112 #[P.kv, .int .i64 x] W fun e w' => ∃ q, e = .returned (.tuple #[.int .i64 (p : Int), .bool q]) ∧ FdS w base pb b2 b4 P K R w' ∧ ZT base W w' := by
  obtain ⟨H, X, pc, _⟩ := h.st
  refine (pc.k.search ka kn hp).mono ?_
  rintro e w' ⟨b, rfl, q, rfl⟩
  have bd : Below W.heap.size W (W.drewN q) := Go.Proofs.YtifendlpeebofaaGreatDoor.K.below_drewN (Below.refl _ _) q
  exact ⟨b, rfl, h.below bd, ZT.below (Nat.le_trans h.bl h.ge) bd⟩
theorem FdS.open (h : FdS w base pb b2 b4 P K R W) (kn : K.length ≤ 2000000000000) {s : Nat} (hs : s < K.length) : Calls Tryz.prog 113 #[.pointer (some ⟨pb, 0, none⟩), .int .i64 (s : Int)] W fun e w' => ∃ r : Nat, e = .returned (.int .i64 (r : Int)) ∧ s ≤ r ∧ r < K.length ∧ FdS w base pb b2 b4 P K (fun H X => (∃ X0, R H X0) ∧ X[r]? = some r ∧ ∀ b, s ≤ b → b < r → H[b]? ≠ some (-1)) w' ∧ ZT base W w' := by
  obtain ⟨H, X, pc, n, l, r0, c⟩ := h.st
  have hxl : X.length = K.length := by have := n.len; omega
  refine (open_any pc n (s := s) (by omega) (by omega)).mono ?_
  rintro e w' ⟨r, rfl, X', q1, q2, q3, q4, q5, q6, q7⟩
  have hz := h.zt pc.x q7
  have hrl := (List.getElem?_eq_some_iff.1 q5).1
  refine ⟨r, rfl, q4, by omega, ⟨(hz.nz _ _ _ _ h.bx (by decide)).trans h.bx, ⟨H, X', q1, q2, l, ⟨⟨X, r0⟩, q5, q6⟩, ?_⟩, h.tch.trans' q7 (fun j hj q => .inr q), h.bl, h.b4, h.pl⟩, hz⟩
  exact (q7.block b4 (Array.getElem?_eq_some_iff.1 c).1 (fun e => by have := h.pl b4 (.inr (.inr (.inr e))); have := h.b4; omega)).trans c
theorem FdS.take (h : FdS w base pb b2 b4 P K R W) (kn : K.length ≤ 2000000000000) {s : Nat} (hs : s + 1 < K.length) {i : Nat} (hR : ∀ H X, R H X → X[s]? = some s) :
    ∃ gh ch gx cx k W1 W2 W3, (Instr.loadAt 150 (.pointer (some ⟨pb, 0 + 1, none⟩))).run Tryz.prog W = .ok (.slice (some ⟨gh, 0, none⟩) (K.length - 1) ch) W ∧ (Instr.storeAt 3 (.pointer (some ⟨gh, s, none⟩)) (.int .i64 (i : Int))).run Tryz.prog W = .ok () W1 ∧
      (Instr.loadAt 148 (.pointer (some ⟨b2, 0, none⟩))).run Tryz.prog W1 = .ok (.pointer (some ⟨pb, 0, none⟩)) W1 ∧ (Instr.loadAt 150 (.pointer (some ⟨pb, 0 + 2, none⟩))).run Tryz.prog W1 = .ok (.slice (some ⟨gx, 0, none⟩) K.length cx) W1 ∧ (Instr.storeAt 3 (.pointer (some ⟨gx, s, none⟩)) (.int .i64 ((s + 1 : Nat) : Int))).run Tryz.prog W1 = .ok () W2 ∧
      (Instr.loadAt 3 (.pointer (some ⟨b4, 0, none⟩))).run Tryz.prog W2 = .ok (.int .i64 ((k + 1 : Nat) : Int)) W2 ∧ (Instr.storeAt 3 (.pointer (some ⟨b4, 0, none⟩)) (.int .i64 (k : Int))).run Tryz.prog W2 = .ok () W3 ∧ (Instr.loadAt 3 (.pointer (some ⟨b4, 0, none⟩))).run Tryz.prog W3 = .ok (.int .i64 (k : Int)) W3 ∧ k ≤ 2000000000000 ∧
      FdS w base pb b2 b4 P K (fun H' X' => ∃ H X, R H X ∧ H[s]? = some (-1) ∧ H' = H.set s (i : Int) ∧ cntZ H' = k) W3 ∧ ZT base W W3 := by
  obtain ⟨H, X, pc, n, l, r0, c⟩ := h.st
  have hxl : X.length = K.length := by have := n.len; omega
  have hx := hR H X r0
  have ho : H[s]? = some (-1) := by
    rcases (n.fix s s hx).1 rfl with q | q
    · omega
    · exact q
  obtain ⟨gh, ch, e1, s1, p1, t1⟩ := pc.seth (i := s) (by omega) (i : Int)
  obtain ⟨W1, hW1⟩ : ∃ W1, W.setCell ⟨gh, s, none⟩ (.int .i64 (i : Int)) = W1 := ⟨_, rfl⟩
  rw [hW1] at s1 p1 t1
  obtain ⟨gx, cx, e2, s2, p2, t2⟩ := p1.setx (i := s) (by omega) (s + 1)
  obtain ⟨W2, hW2⟩ : ∃ W2, W1.setCell ⟨gx, s, none⟩ (.int .i64 ((s + 1 : Nat) : Int)) = W2 := ⟨_, rfl⟩
  rw [hW2] at s2 p2 t2
  have z1 := h.zt pc.h t1
  have n4 : ∀ j, P.bl pb j → j ≠ b4 := fun j hj e => by have := h.pl j hj; have := h.b4; omega
  have c1 := (t1.block b4 (Array.getElem?_eq_some_iff.1 c).1 (fun e => n4 b4 (.inr (.inr (.inl e))) rfl)).trans c
  have c2 := (t2.block b4 (Array.getElem?_eq_some_iff.1 c1).1 (fun e => n4 b4 (.inr (.inr (.inr e))) rfl)).trans c1
  have bw1 : base ≤ W1.heap.size := Nat.le_trans (Nat.le_trans h.bl h.ge) t1.size
  have z2 : ZT base W1 W2 := ZT.tch bw1 (Nat.le_refl _) p1.x t2
  have bx1 := (z1.nz _ _ _ _ h.bx (by decide)).trans h.bx
  have bx2 := (z2.nz _ _ _ _ bx1 (by decide)).trans bx1
  have hcz : cntZ H = cntZ (H.set s (i : Int)) + 1 := count_set ho (by omega)
  obtain ⟨k, hk⟩ : ∃ k, cntZ (H.set s (i : Int)) = k := ⟨_, rfl⟩
  rw [hk] at hcz
  rw [hcz] at c2
  have hkl : k ≤ 2000000000000 := by
    have : cntZ H ≤ H.length := List.countP_le_length
    omega
  have hc : W2.cell? ⟨b4, 0, none⟩ = some (.int .i64 ((k + 1 : Nat) : Int)) := (cell_of_row W2 b4 0 _ _ _ c2).trans rfl
  have hf := frozen_of_row W2 b4 0 _ _ c2
  have c3 := Go.heap_setCell_same W2 b4 0 _ _ (.int .i64 (k : Int)) c2
  have l2 : (Instr.loadAt 3 (.pointer (some ⟨b4, 0, none⟩))).run Tryz.prog W2 = .ok (.int .i64 ((k + 1 : Nat) : Int)) W2 := by clear hf c3; go_simp
  have s3 : (Instr.storeAt 3 (.pointer (some ⟨b4, 0, none⟩)) (.int .i64 (k : Int))).run Tryz.prog W2 = .ok () (W2.setCell ⟨b4, 0, none⟩ (.int .i64 (k : Int))) := by clear c3; go_simp
  obtain ⟨W3, hW3⟩ : ∃ W3, W2.setCell ⟨b4, 0, none⟩ (.int .i64 (k : Int)) = W3 := ⟨_, rfl⟩
  have o3 : ∀ j, j ≠ b4 → W3.heap[j]? = W2.heap[j]? := fun j hj => by rw [← hW3]; exact set_other hj
  have b3 : Below base W2 W3 := by rw [← hW3]; exact set_bel (Nat.le_trans h.bl h.b4)
  rw [hW3] at s3 c3
  have hc3 : W3.cell? ⟨b4, 0, none⟩ = some (.int .i64 (k : Int)) := (cell_of_row W3 b4 0 _ _ _ c3).trans rfl
  have z3 : ZT base W2 W3 := ⟨b3, fun j cc t z hj ht => o3 j (fun e => by rw [e] at hj; exact ht (two_typesM hj c2)), fun j o hj ho => o3 j (fun e => by rw [e, c2] at hj; cases hj; cases ho)⟩
  have p3 := p2.keep (w' := W3) (fun j hj => o3 j (n4 j hj))
  have L1 := pc.ldh
  rw [e1] at L1
  have L2 := p1.ldx
  rw [e2, hxl] at L2
  refine ⟨gh, ch, gx, cx, k, W1, W2, W3, by rw [show K.length - 1 = H.length by omega]; exact L1, s1, ?_, L2, s2, l2, s3, by clear hc; go_simp, hkl, ⟨(z3.nz _ _ _ _ bx2 (by decide)).trans bx2, ⟨_, _, p3, n.take hx (by omega) (by omega), by simpa using l, ⟨H, X, r0, ho, rfl, hk⟩, by rw [hk]; exact c3⟩, ?_, h.bl, h.b4, h.pl⟩, (z1.trans z2).trans z3⟩
  · have hcb : W1.cell? ⟨b2, 0, none⟩ = some (.pointer (some ⟨pb, 0, none⟩)) := (cell_of_row W1 b2 0 _ _ _ bx1).trans rfl
    clear hc hc3
    go_simp
  · have t12 := (h.tch.trans' t1 (fun j _ q => .inl q)).trans' t2 (fun j _ q => .inr q)
    refine ⟨b3.os.trans t12.os, b3.tape.trans t12.tape, b3.output.trans t12.output, Nat.le_trans t12.size b3.size, fun j hj hn => (o3 j (fun e => by have := h.b4; omega)).trans (t12.block j hj hn)⟩
end
attribute [local go_sem] Oper.semAt_some
structure RdS (base bs eb : Nat) (la : Option Addr) (x : SpV) (W0 W : World) : Prop where
  zt : ZT base W0 W
  bx : RSp.Bx W eb x
  it : ∃ c, W.heap[bs]? = some (.cells c 49 (0, 0))
  it0 : ∃ c, W0.heap[bs]? = some (.cells c 49 (0, 0))
  la : ∀ j ∈ adB la, j < base
theorem RdS.step {base bs eb : Nat} {la : Option Addr} {x : SpV} {W0 W W' : World} (h : RdS base bs eb la x W0 W) (z : ZT base W W') : RdS base bs eb la x W0 W' := by
  obtain ⟨c, hc⟩ := h.it
  exact ⟨h.zt.trans z, (z.nz _ _ _ _ h.bx (by decide)).trans h.bx, ⟨c, (z.nz _ _ _ _ hc (by decide)).trans hc⟩, h.it0, h.la⟩
theorem RdS.keeps {base bs eb : Nat} {la : Option Addr} {x : SpV} {W0 W : World} (h : RdS base bs eb la x W0 W) (B : Nat) : KeepsFrom B W0 W ∧ Kl (bs :: adB la) W0 W := by
  refine ⟨⟨h.zt.bel.size, fun k o _ hk ho => (h.zt.no k o hk ho).trans hk⟩, fun j hj => ?_⟩
  rcases List.mem_cons.1 hj with rfl | hj
  · obtain ⟨c, hc⟩ := h.it0
    exact h.zt.nz _ _ _ _ hc (by decide)
  · exact h.zt.bel.block j (h.la j hj)
structure SlF (pb b2 b4 i eb ai e : Nat) (a : Act) : Prop where
  z : a.tmps.size = 68
  t2 : a.tmps.getD 2 undef = .pointer (some ⟨b2, 0, none⟩)
  t4 : a.tmps.getD 4 undef = .pointer (some ⟨b4, 0, none⟩)
  t5 : a.tmps.getD 5 undef = .int .i64 (i : Int)
  t7 : a.tmps.getD 7 undef = .int .i64 (ai : Int)
  t9 : a.tmps.getD 9 undef = .int .i64 (e : Int)
section
variable {pb b2 b4 i eb ai e : Nat} {a : Act}
theorem SlF.put (h : SlF pb b2 b4 i eb ai e a) {j : Nat} {v : Value} (hj : j ≠ 2 ∧ j ≠ 4 ∧ j ≠ 5 ∧ j ≠ 7 ∧ j ≠ 9) : SlF pb b2 b4 i eb ai e (a.put (some j) v) := by
  obtain ⟨h2, h4, h5, h7, h9⟩ := hj
  exact ⟨zput.trans h.z, by rw [gput, if_neg (fun q => h2 q.symm)]; exact h.t2, by rw [gput, if_neg (fun q => h4 q.symm)]; exact h.t4, by rw [gput, if_neg (fun q => h5 q.symm)]; exact h.t5, by rw [gput, if_neg (fun q => h7 q.symm)]; exact h.t7, by rw [gput, if_neg (fun q => h9 q.symm)]; exact h.t9⟩
theorem SlF.put7 (h : SlF pb b2 b4 i eb ai e a) (r : Nat) : SlF pb b2 b4 i eb r e (a.put (some 7) (.int .i64 (r : Int))) :=
  ⟨zput.trans h.z, by rw [gput, if_neg (by decide)]; exact h.t2, by rw [gput, if_neg (by decide)]; exact h.t4, by rw [gput, if_neg (by decide)]; exact h.t5, by rw [gput, if_pos rfl, if_pos (by rw [h.z]; decide)], by rw [gput, if_neg (by decide)]; exact h.t9⟩
end
structure GFam (i p e : Nat) (G : Nat → List Int → Prop) (D Dx : List Int → Prop) : Prop where
  take : ∀ (a : Nat) (H : List Int), G a H → H[a]? = some (-1) → p ≤ a → a < e → G (a + 1) (H.set a (i : Int))
  more : ∀ (a r : Nat) (H : List Int), G a H → (∀ b, a ≤ b → b < r → H[b]? ≠ some (-1)) → G r H
  done : ∀ (a : Nat) (H : List Int), G a H → e ≤ a → D H
  full : ∀ (a : Nat) (H : List Int), G a H → cntZ H = 0 → Dx H
theorem gfam_strong {C : List SpV} {K : List Int} {i p e : Nat} {x : SpV} (kc : CutsOf C K) (hc : C[i]? = some x) (hp : K[p]? = some x.fr) (he : K[e]? = some x.to) : GFam i p e (fun a H => FI C K i p e a H) (fun H => FD C K i H) (fun H => FD C K 0 H) :=
  ⟨fun a H f ho hpa hae => f.take kc ho hpa hae, fun a r H f h => f.more h, fun a H f h => f.done kc hc hp he h, fun a H f h => f.full kc hc hp he h⟩
def fndBody : Code := ((Code.region 8 fnd8_ops false).seq (Code.cond (Operand.tmp 45) Code.skip (Code.exit 2))).seq ((Code.block 3 ((Code.region 10 fnd10_ops false).seq ((Code.region 11 fnd11_ops false).seq ((Code.region 12 fnd12_ops false).seq ((Code.region 13 fnd13_ops false).seq (Code.cond (Operand.tmp 67) (Code.exit 0) Code.skip)))))).seq (Code.region 9 fnd9_ops false))
set_option maxHeartbeats 8000000 in
theorem find_inner {l n base pb b2 b4 bs eb i p e : Nat} {P : PcV} {K : List Int} {la : Option Addr} {x : SpV} {w W0 : World} {G : Nat → List Int → Prop} {D Dx : List Int → Prop} (gf : GFam i p e G D Dx) (kn : K.length ≤ 2000000000000) (h1 : 1 ≤ n) (hel : e < K.length)
    {Q : Exit → Act → World → Prop} (hN : ∀ a W, FdS w base pb b2 b4 P K (fun H X => D H) W → RdS base bs eb la x W0 W → Q .normal a W) (hX : ∀ a W, FdS w base pb b2 b4 P K (fun H X => Dx H) W → RdS base bs eb la x W0 W → Q (.exit 0) a W)
    {a : Act} {W : World} {ai : Nat} (hs : SlF pb b2 b4 i eb ai e a) (hl : ai < K.length) (hf : FdS w base pb b2 b4 P K (fun H X => G ai H ∧ X[ai]? = some ai) W) (hpa : p ≤ ai) (hr : RdS base bs eb la x W0 W) :
    (Code.block 2 (Code.loop fndBody)).wpIn (Fence.wide.inRound l) n Tryz.prog Q a W := by
  refine wpIn_block ?_
  refine wpIn_loop (fun a' W' => ∃ ai, SlF pb b2 b4 i eb ai e a' ∧ ai < K.length ∧ p ≤ ai ∧ FdS w base pb b2 b4 P K (fun H X => G ai H ∧ X[ai]? = some ai) W' ∧ RdS base bs eb la x W0 W') (fun a' _ => K.length - (intOf (a'.tmps.getD 7 undef)).toNat) ⟨ai, hs, hl, hpa, hf, hr⟩ ?_
  clear hs hl hf hpa hr
  rintro a W ⟨ai, hs, hl, hpa, hf, hr⟩
  unfold fndBody
  refine wpIn_seq ?_
  refine wpIn_seq ?_
  obtain ⟨r, hrr⟩ : ∃ r, decide ((ai : Int) < (e : Int)) = r := ⟨_, rfl⟩
  refine fnd8 (ai := ai) (e := e) (r := r) a W _ hs.z hs.t7 hs.t9 hrr ?_
  intro a2 W2 hw ha
  obtain rfl : W = W2 := hw.symm
  have s2 : SlF pb b2 b4 i eb ai e a2 := by rw [ha]; exact ((hs.put (by decide)).put (by decide)).put (by decide)
  have t45 : a2.tmps.getD 45 undef = .bool r := by rw [ha]; simp only [gput, zput, hs.z, ↓reduceIte, Nat.reduceLT, Nat.reduceEqDiff, reduceCtorEq]
  clear ha
  refine wpIn_cond (t := r) t45 ?_
  cases r with
  | false =>
    refine wpIn_exit ?_
    show Q .normal a2 W
    have hle : e ≤ ai := by have := of_decide_eq_false hrr; omega
    exact hN _ _ (hf.imp (fun H X _ _ f => gf.done ai H f.1 hle)) hr
  | true =>
    refine wpIn_skip ?_
    have hlt : ai < e := by have := of_decide_eq_true hrr; omega
    obtain ⟨gh, ch, gx, cx, k, V1, V2, V3, f1, f2, f3, f4, f5, f6, f7, f8, hk, F3, z3⟩ := hf.take kn (s := ai) (by omega) (i := i) (fun H X q => q.2)
    have r3 := hr.step z3
    refine wpIn_seq ?_
    refine wpIn_block ?_
    refine wpIn_seq ?_
    refine fnd10 (b2 := b2) (pb := pb) (g := gh) (m := K.length - 1) (c := ch) (ai := ai) (i := (i : Int)) (w1 := V1) a2 W _ s2.z s2.t2 s2.t5 s2.t7 (by omega) (by omega) hf.ld2 f1 f2 ?_
    intro a3 W3 hw ha
    obtain rfl : V1 = W3 := hw.symm
    have s3 : SlF pb b2 b4 i eb ai e a3 := by rw [ha]; exact ((((((s2.put (by decide)).put (by decide)).put (by decide)).put (by decide)).put (by decide)).put (by decide)).put (by decide)
    clear ha
    refine wpIn_seq ?_
    refine fnd11 (b2 := b2) (pb := pb) (g := gx) (m := K.length) (c := cx) (ai := ai) (aj := ai + 1) (w1 := V2) a3 V1 _ s3.z s3.t2 s3.t7 hl (by omega) (by omega) (by omega) f3 f4 f5 ?_
    intro a4 W4 hw ha
    obtain rfl : V2 = W4 := hw.symm
    have s4 : SlF pb b2 b4 i eb ai e a4 := by rw [ha]; exact (((((((s3.put (by decide)).put (by decide)).put (by decide)).put (by decide)).put (by decide)).put (by decide)).put (by decide)).put (by decide)
    clear ha
    refine wpIn_seq ?_
    refine fnd12 (b4 := b4) (k := k + 1) (k1 := k) (w1 := V3) a4 V2 _ s4.z s4.t4 (by omega) (by omega) f6 f7 ?_
    intro a5 W5 hw ha
    obtain rfl : V3 = W5 := hw.symm
    have s5 : SlF pb b2 b4 i eb ai e a5 := by rw [ha]; exact (s4.put (by decide)).put (by decide)
    clear ha
    refine wpIn_seq ?_
    obtain ⟨q, hq⟩ : ∃ q, decide ((k : Int) = 0) = q := ⟨_, rfl⟩
    refine fnd13 (b4 := b4) (k := k) (r := q) a5 V3 _ s5.z s5.t4 hq f8 ?_
    intro a6 W6 hw ha
    obtain rfl : V3 = W6 := hw.symm
    have s6 : SlF pb b2 b4 i eb ai e a6 := by rw [ha]; exact (s5.put (by decide)).put (by decide)
    have t67 : a6.tmps.getD 67 undef = .bool q := by rw [ha]; simp only [gput, zput, s5.z, ↓reduceIte, Nat.reduceLT, Nat.reduceEqDiff, reduceCtorEq]
    clear ha
    refine wpIn_cond (t := q) t67 ?_
    cases q with
    | true =>
      refine wpIn_exit ?_
      show Q (.exit 0) a6 V3
      have hk0 : k = 0 := by have := of_decide_eq_true hq; omega
      refine hX _ _ (F3.imp (fun H X _ _ f => ?_)) r3
      obtain ⟨H0, X0, q0, ho, rfl, hcz⟩ := f
      exact gf.full _ _ (gf.take ai H0 q0.1 ho hpa hlt) (by rw [hk0] at hcz; exact hcz)
    | false =>
      refine wpIn_skip ?_
      refine fnd9 (b2 := b2) (pb := pb) (ai := ai) (fun r W' => ai ≤ r ∧ r < K.length ∧ (FdS w base pb b2 b4 P K (fun H X => G r H ∧ X[r]? = some r) W' ∧ ai < r) ∧ ZT base V3 W') a6 V3 _ s6.z s6.t2 s6.t7 h1 F3.ld2 ((F3.open kn (s := ai) hl).mono ?_) ?_
      · rintro e' W' ⟨r, rfl, q1, q2, q3, q4⟩
        refine ⟨r, rfl, q1, q2, ⟨q3.imp (fun H X _ _ f => ?_), ?_⟩, q4⟩
        · obtain ⟨⟨X0, H0, X1, g0, ho, rfl, _⟩, g1, g2⟩ := f
          exact ⟨gf.more _ _ _ (gf.take ai H0 g0.1 ho hpa hlt) (fun b h2 h3 => g2 b (by omega) h3), g1⟩
        · rcases Nat.lt_or_ge ai r with g | g
          · exact g
          · obtain rfl : ai = r := by omega
            obtain ⟨H, X, _, nx, hlen, ⟨⟨X0, H0, X1, g0, ho, rfl, _⟩, g1, g2⟩, _⟩ := q3.st
            have al := (List.getElem?_eq_some_iff.1 ho).1
            rcases (nx.fix ai ai g1).1 rfl with y | y
            · rw [List.length_set] at y; omega
            · rw [List.getElem?_set_self al] at y
              have := Option.some.inj y
              omega
      intro r a7 W7 hF ha
      obtain ⟨q1, q2, ⟨q3, q5⟩, q4⟩ := hF
      have s7 : SlF pb b2 b4 i eb r e a7 := by rw [ha]; exact (((s6.put (by decide)).put (by decide)).put (by decide)).put7 r
      refine ⟨⟨r, s7, q2, by omega, q3, r3.step q4⟩, ?_⟩
      show K.length - (intOf (a7.tmps.getD 7 undef)).toNat < K.length - (intOf (a.tmps.getD 7 undef)).toNat
      rw [s7.t7, hs.t7]
      show K.length - (r : Int).toNat < K.length - (ai : Int).toNat
      simp only [Int.toNat_natCast]
      omega
attribute [local go_sem] Oper.semAt_some
theorem gfam_if {q : Prop} {i p e : Nat} {G : Nat → List Int → Prop} {D Dx : List Int → Prop} (h : GFam i p e G D Dx) : GFam i p e (fun a H => q → G a H) (fun H => q → D H) (fun H => q → Dx H) :=
  ⟨fun a H f ho hpa hae y => h.take a H (f y) ho hpa hae, fun a r H f g y => h.more a r H (f y) g, fun a H f g y => h.done a H (f y) g, fun a H f g y => h.full a H (f y) g⟩
def FdQ (w : World) (base pb b2 b4 bs : Nat) (P : PcV) (K : List Int) (R : List Int → Prop) (W : World) : Prop := FdS w base pb b2 b4 P K (fun H X => R H) W ∧ ∃ c, W.heap[bs]? = some (.cells c 49 (0, 0))
theorem FdQ.own {α : Type} (w : World) (B base pb b2 b4 bs : Nat) (P : PcV) (K : List Int) (R : α → List Int → Prop) (hB : w.heap.size ≤ B) : OwnFrom B (fun s W => FdQ w base pb b2 b4 bs P K (R s) W) := by
  intro s W W' row hs hg hr
  obtain ⟨h1, c, h2⟩ := hs
  have cp : ∀ (j : Nat) (c : Array Value) (t : TypeId) (z : Nat × Nat), W.heap[j]? = some (.cells c t z) → W'.heap[j]? = W.heap[j]? := fun j c t z hj => hg.block j (Array.getElem?_eq_some_iff.1 hj).1 (fun e => by
    obtain ⟨_, o, ho, hc⟩ := hr j e.symm
    rw [hj] at ho; cases ho; cases hc)
  exact ⟨h1.cp cp ⟨hg.os, hg.tape, hg.output, hg.size, fun k hk => hg.block k (Nat.lt_of_lt_of_le hk h1.ge) (fun e => by have := (hr k e.symm).1; omega)⟩, c, (cp _ _ _ _ h2).trans h2⟩
structure AxF {C : List SpV} (b2 b4 : Nat) (y : SpP C) (a : Act) (W : World) : Prop where
  out : ∃ eb, a.tmps.size = 68 ∧ a.tmps.getD 2 undef = .pointer (some ⟨b2, 0, none⟩) ∧ a.tmps.getD 4 undef = .pointer (some ⟨b4, 0, none⟩) ∧ a.tmps.getD 5 undef = .int .i64 (y.1.2 : Int) ∧ a.tmps.getD 6 undef = .pointer (some ⟨eb, 0, none⟩) ∧ RSp.Bx W eb y.1.1
theorem AxF.own {C : List SpV} (b2 b4 B : Nat) (y : SpP C) (a : Act) : OwnFrom B (fun (_ : Unit) W => AxF b2 b4 y a W) := by
  intro _ W W' row hs hg hr
  obtain ⟨eb, h0, h1, h2, h3, h4, h6⟩ := hs.out
  refine ⟨eb, h0, h1, h2, h3, h4, (hg.block eb (Array.getElem?_eq_some_iff.1 h6).1 (fun e => ?_)).trans h6⟩
  obtain ⟨_, o, ho, hc⟩ := hr eb e.symm
  rw [show W.heap[eb]? = _ from h6] at ho; cases ho; cases hc
theorem FdS.ldk {w W : World} {base pb b2 b4 : Nat} {P : PcV} {K : List Int} {R : List Int → List Nat → Prop} (h : FdS w base pb b2 b4 P K R W) : (Instr.loadAt 150 (.pointer (some ⟨pb, 0 + 0, none⟩))).run Tryz.prog W = .ok P.kv W := by
  obtain ⟨H, X, p, _⟩ := h.st
  exact p.ldk
theorem cnt_repl (m : Nat) : cntZ (List.replicate m (-1)) = m := by simp [cntZ, List.countP_replicate]
set_option maxHeartbeats 8000000 in
theorem find_round {l n base pb b2 b4 bs : Nat} {P : PcV} {C : List SpV} {la : Option Addr} {w : World} {LA pre : List (SpP C)} {y : SpP C} (hLA : LA.map (·.1) = bkZ C) (kn : (cutsL C).length ≤ 2000000000000) (h1 : 1 ≤ n) (hla : ∀ j ∈ adB la, j < base) {B : Nat}
    {a : Act} {W : World} (hI : FdQ w base pb b2 b4 bs P (cutsL C) (fun H => (∃ k, pre = LA.take k) → FD C (cutsL C) (C.length - pre.length) H) W) (hA : AxF b2 b4 y a W) :
    (Code.block 1 ((Code.region 5 fnd5_ops true).seq ((Code.region 6 fnd6_ops true).seq ((Code.region 7 fnd7_ops false).seq (Code.block 2 (Code.loop fndBody)))))).wpIn (Fence.wide.inRound l) n Tryz.prog
      (ownPostG B (Kl (bs :: adB la)) (fun pre W => FdQ w base pb b2 b4 bs P (cutsL C) (fun H => (∃ k, pre = LA.take k) → FD C (cutsL C) (C.length - pre.length) H) W) (fun c pre W => c = .exit 0 ∧ FdQ w base pb b2 b4 bs P (cutsL C) (fun H => (∃ k, pre = LA.take k) → FD C (cutsL C) 0 H) W) (pre ++ [y]) W) a W := by
  obtain ⟨⟨x, i⟩, hxi⟩ := y
  obtain ⟨eb, hz, t2, t4, t5, t6, hE⟩ := hA.out
  simp only at hxi hE t5
  have hxm := List.mem_of_getElem? hxi
  have kc := cuts_of C
  obtain ⟨p, hp⟩ := List.mem_iff_getElem?.1 ((kc.mem x.fr).2 ⟨x, hxm, .inl rfl⟩)
  obtain ⟨e, he⟩ := List.mem_iff_getElem?.1 ((kc.mem x.to).2 ⟨x, hxm, .inr rfl⟩)
  have hpl := (List.getElem?_eq_some_iff.1 hp).1
  have hel := (List.getElem?_eq_some_iff.1 he).1
  obtain ⟨hI, cbs, hbs⟩ := hI
  obtain ⟨q, hq⟩ : ∃ q : Prop, q = (∃ k, pre ++ [(⟨(x, i), hxi⟩ : SpP C)] = LA.take k) := ⟨_, rfl⟩
  have gf := gfam_if (q := q) (gfam_strong kc hxi hp he)
  have st : ∀ H, ((∃ k, pre = LA.take k) → FD C (cutsL C) (C.length - pre.length) H) → q → FI C (cutsL C) i p e p H := fun H f y => by
    rw [hq] at y
    obtain ⟨k, hk⟩ := y
    obtain ⟨g1, g2, g3⟩ := la_next hLA hk
    have := f ⟨_, g3⟩
    simp only at g2
    rw [show C.length - pre.length = i + 1 by omega] at this
    exact this.start p e
  have en : ∀ H, (q → FD C (cutsL C) i H) → ((∃ k, pre ++ [(⟨(x, i), hxi⟩ : SpP C)] = LA.take k) → FD C (cutsL C) (C.length - (pre ++ [(⟨(x, i), hxi⟩ : SpP C)]).length) H) := fun H f y => by
    have y' := y
    obtain ⟨k, hk⟩ := y
    obtain ⟨g1, g2, g3⟩ := la_next hLA hk
    simp only at g2
    rw [List.length_append, List.length_singleton, ← g2]
    exact f (by rw [hq]; exact y')
  refine wpIn_block ?_
  refine wpIn_seq ?_
  have R0 : RdS base bs eb la x W W := ⟨ZT.refl _ _, hE, ⟨cbs, hbs⟩, ⟨cbs, hbs⟩, hla⟩
  obtain ⟨R, hR⟩ : ∃ R : List Int → List Nat → Prop, (fun (H : List Int) (X : List Nat) => ((∃ k, pre = LA.take k) → FD C (cutsL C) (C.length - pre.length) H)) = R := ⟨_, rfl⟩
  rw [hR] at hI
  have bdr : ∀ W : World, Below W.heap.size W W.drew := fun W => (Below.refl _ _).drew
  have hbw : base ≤ W.heap.size := Nat.le_trans hI.bl hI.ge
  have zdr : ∀ W : World, base ≤ W.heap.size → ZT base W W.drew := fun W h => ZT.below h (bdr W)
  refine fnd5 (b2 := b2) (pb := pb) (eb := eb) (r := p) (x := x) (kv := P.kv) (fun W' => FdS w base pb b2 b4 P (cutsL C) R W' ∧ RdS base bs eb la x W W') (fun W' => FdS w base pb b2 b4 P (cutsL C) R W' ∧ RdS base bs eb la x W W') a W _ hz t2 t6 (by rintro ⟨_, _, h⟩; exact h) ⟨hI.below (bdr W), R0.step (zdr W hbw)⟩ (fun W' h => h.1.ld2) (fun W' h => h.1.ldk) (fun W' h => sp_fr h.2.bx) ?_ ?_
  · refine ((hI.below (bdr W)).search kc.asc kn hp).mono ?_
    rintro e' W' ⟨b, rfl, g1, g2⟩
    exact ⟨b, rfl, ⟨g1, (R0.step (zdr W hbw)).step g2⟩, g1, (R0.step (zdr W hbw)).step g2⟩
  intro b a2 W2 hF ha
  obtain ⟨F2, R2⟩ := hF
  have z2 : a2.tmps.size = 68 := by rw [ha]; simp only [zput]; exact hz
  have s2 : a2.tmps.getD 2 undef = .pointer (some ⟨b2, 0, none⟩) := by rw [ha]; simp only [gput, zput, hz, ↓reduceIte, Nat.reduceLT, Nat.reduceEqDiff, reduceCtorEq]; exact t2
  have s4 : a2.tmps.getD 4 undef = .pointer (some ⟨b4, 0, none⟩) := by rw [ha]; simp only [gput, zput, hz, ↓reduceIte, Nat.reduceLT, Nat.reduceEqDiff, reduceCtorEq]; exact t4
  have s5 : a2.tmps.getD 5 undef = .int .i64 (i : Int) := by rw [ha]; simp only [gput, zput, hz, ↓reduceIte, Nat.reduceLT, Nat.reduceEqDiff, reduceCtorEq]; exact t5
  have s6 : a2.tmps.getD 6 undef = .pointer (some ⟨eb, 0, none⟩) := by rw [ha]; simp only [gput, zput, hz, ↓reduceIte, Nat.reduceLT, Nat.reduceEqDiff, reduceCtorEq]; exact t6
  have s7 : a2.tmps.getD 7 undef = .int .i64 (p : Int) := by rw [ha]; simp only [gput, zput, hz, ↓reduceIte, Nat.reduceLT, Nat.reduceEqDiff, reduceCtorEq]
  clear ha
  have hbw2 : base ≤ W2.heap.size := Nat.le_trans F2.bl F2.ge
  refine wpIn_seq ?_
  refine fnd6 (b2 := b2) (pb := pb) (eb := eb) (r := e) (x := x) (kv := P.kv) (fun W' => FdS w base pb b2 b4 P (cutsL C) R W' ∧ RdS base bs eb la x W W') (fun W' => FdS w base pb b2 b4 P (cutsL C) R W' ∧ RdS base bs eb la x W W') a2 W2 _ z2 s2 s6 (by rintro ⟨_, _, h⟩; exact h) ⟨F2.below (bdr W2), R2.step (zdr W2 hbw2)⟩ (fun W' h => h.1.ld2) (fun W' h => h.1.ldk) (fun W' h => sp_to h.2.bx) ?_ ?_
  · refine ((F2.below (bdr W2)).search kc.asc kn he).mono ?_
    rintro e' W' ⟨b, rfl, g1, g2⟩
    exact ⟨b, rfl, ⟨g1, (R2.step (zdr W2 hbw2)).step g2⟩, g1, (R2.step (zdr W2 hbw2)).step g2⟩
  intro b' a3 W3 hF ha
  obtain ⟨F3, R3⟩ := hF
  have z3 : a3.tmps.size = 68 := by rw [ha]; simp only [zput]; exact z2
  have u2 : a3.tmps.getD 2 undef = .pointer (some ⟨b2, 0, none⟩) := by rw [ha]; simp only [gput, zput, z2, ↓reduceIte, Nat.reduceLT, Nat.reduceEqDiff, reduceCtorEq]; exact s2
  have u4 : a3.tmps.getD 4 undef = .pointer (some ⟨b4, 0, none⟩) := by rw [ha]; simp only [gput, zput, z2, ↓reduceIte, Nat.reduceLT, Nat.reduceEqDiff, reduceCtorEq]; exact s4
  have u5 : a3.tmps.getD 5 undef = .int .i64 (i : Int) := by rw [ha]; simp only [gput, zput, z2, ↓reduceIte, Nat.reduceLT, Nat.reduceEqDiff, reduceCtorEq]; exact s5
  have u7 : a3.tmps.getD 7 undef = .int .i64 (p : Int) := by rw [ha]; simp only [gput, zput, z2, ↓reduceIte, Nat.reduceLT, Nat.reduceEqDiff, reduceCtorEq]; exact s7
  have u9 : a3.tmps.getD 9 undef = .int .i64 (e : Int) := by rw [ha]; simp only [gput, zput, z2, ↓reduceIte, Nat.reduceLT, Nat.reduceEqDiff, reduceCtorEq]
  clear ha
  have sl : SlF pb b2 b4 i eb p e a3 := ⟨z3, u2, u4, u5, u7, u9⟩
  refine wpIn_seq ?_
  refine fnd7 (b2 := b2) (pb := pb) (ai := p) (fun r W' => p ≤ r ∧ r < (cutsL C).length ∧ FdS w base pb b2 b4 P (cutsL C) (fun H X => (q → FI C (cutsL C) i p e r H) ∧ X[r]? = some r) W' ∧ ZT base W3 W') a3 W3 _ z3 u2 u7 h1 F3.ld2 ((F3.open kn (s := p) hpl).mono ?_) ?_
  · rintro e' W' ⟨r, rfl, q1, q2, q3, q4⟩
    refine ⟨r, rfl, q1, q2, q3.imp (fun H X _ _ f => ?_), q4⟩
    obtain ⟨⟨X0, g0⟩, g1, g2⟩ := f
    rw [← hR] at g0
    exact ⟨fun y => (st H g0 y).more g2, g1⟩
  intro r a4 W4 hF ha
  obtain ⟨q1, q2, q3, q4⟩ := hF
  have s7 : SlF pb b2 b4 i eb r e a4 := by rw [ha]; exact (((sl.put (by decide)).put (by decide)).put (by decide)).put7 r
  clear ha
  refine find_inner (x := x) (W0 := W) gf kn h1 hel (fun a5 W5 f5 r5 => ?_) (fun a5 W5 f5 r5 => ?_) s7 q2 q3 q1 (R3.step q4)
  · show KeepsFrom _ _ _ ∧ Kl _ _ _ ∧ FdQ _ _ _ _ _ _ _ _ _ _
    have k5 := r5.keeps B
    exact ⟨k5.1, k5.2, f5.imp (fun H X _ _ f => en H f), r5.it⟩
  · show KeepsFrom _ _ _ ∧ _ = _ ∧ FdQ _ _ _ _ _ _ _ _ _ _
    have k5 := r5.keeps B
    exact ⟨k5.1, rfl, f5.imp (fun H X _ _ f => fun y => f (by rw [hq]; exact y)), r5.it⟩
attribute [local go_sem] Oper.semAt_some
theorem st_int {W : World} {b : Nat} {x : Int} (h : W.heap[b]? = some (.cells #[.int .i64 x] 3 (0, 0))) (n : Int) : (Instr.storeAt 3 (.pointer (some ⟨b, 0, none⟩)) (.int .i64 n)).run Tryz.prog W = .ok () (W.setCell ⟨b, 0, none⟩ (.int .i64 n)) ∧ (W.setCell ⟨b, 0, none⟩ (.int .i64 n)).heap[b]? = some (.cells #[.int .i64 n] 3 (0, 0)) := by
  have hc : W.cell? ⟨b, 0, none⟩ = some (.int .i64 x) := (cell_of_row W b 0 _ _ _ h).trans rfl
  have hf := frozen_of_row W b 0 _ _ h
  exact ⟨by go_simp, Go.heap_setCell_same _ _ 0 _ _ _ h⟩
theorem ld_pp {W : World} {b pb : Nat} (h : W.heap[b]? = some (.cells #[.pointer (some ⟨pb, 0, none⟩)] 148 (0, 0))) : (Instr.loadAt 148 (.pointer (some ⟨b, 0, none⟩))).run Tryz.prog W = .ok (.pointer (some ⟨pb, 0, none⟩)) W := by
  have hc : W.cell? ⟨b, 0, none⟩ = some (.pointer (some ⟨pb, 0, none⟩)) := (cell_of_row W b 0 _ _ _ h).trans rfl
  go_simp
theorem find_end {w W : World} {base pb b2 b4 D : Nat} {P : PcV} {C : List SpV} {R : List Int → Prop} (hK : W.heap[D]? = some (.deferred (some []))) (hD : w.heap.size ≤ D) (h : FdS w base pb b2 b4 P (cutsL C) (fun H X => R H) W) (hr : ∀ H, R H → FD C (cutsL C) 0 H) : ∃ H X, PcAt (W.putObj D (.deferred none)) base pb P (cutsL C) H X ∧ FD C (cutsL C) 0 H ∧ Tch (fun j => P.hv.ownBlock = some j ∨ P.xv.ownBlock = some j) w (W.putObj D (.deferred none)) := by
  have bD : Below w.heap.size W (W.putObj D (.deferred none)) := (Below.refl _ W).grown (grownBy_putObj' W D (.deferred none)) h.ge (fun k e => by cases e; exact hD)
  have h2 := h.cp (W' := W.putObj D (.deferred none)) (fun j c t z hj => World.putObj_heap_other (fun e => by
    rw [e, hK] at hj
    cases hj)) bD
  obtain ⟨H, X, p, _, _, r, _⟩ := h2.st
  exact ⟨H, X, p, hr H r, h2.tch⟩
set_option maxHeartbeats 8000000 in
theorem find_any {w : World} {base pb : Nat} {P : PcV} {C : List SpV} {la : Option Addr} {lc : Nat} (hat : RSp.At w la C) (ok : ∀ x ∈ C, x.ok) (hn : C.length ≤ 900000000000) (hla : ∀ j ∈ adB la, j < base) (hb : base ≤ w.heap.size)
    (hp : PcAt w base pb P (cutsL C) (List.replicate ((cutsL C).length - 1) (-1)) (List.range (cutsL C).length)) (h2 : 2 ≤ (cutsL C).length) :
    Calls Tryz.prog 89 #[.pointer (some ⟨pb, 0, none⟩), .slice la C.length lc] w fun e w' => e = .returned (.tuple #[]) ∧ ∃ H X, PcAt w' base pb P (cutsL C) H X ∧ FD C (cutsL C) 0 H ∧ Tch (fun j => P.hv.ownBlock = some j ∨ P.xv.ownBlock = some j) w w' := by
  obtain ⟨LA, hLA⟩ := lift_bk C
  have kn : (cutsL C).length ≤ 2000000000000 := by have := cuts_len C; omega
  have E1 := run_boxM (P := Tryz.prog) 148 (.pointer (some ⟨pb, 0, none⟩)) w
  have b1 : Below w.heap.size w (w.alloc (.cells (Value.pointer (some ⟨pb, 0, none⟩)).cells 148)) := (Below.refl _ _).alloc (Nat.le_refl _) _
  have c1 : (w.alloc (.cells (Value.pointer (some ⟨pb, 0, none⟩)).cells 148)).heap[w.heap.size]? = some (.cells #[.pointer (some ⟨pb, 0, none⟩)] 148 (0, 0)) := heap_alloc_new _ _
  have z1 : (w.alloc (.cells (Value.pointer (some ⟨pb, 0, none⟩)).cells 148)).heap.size = w.heap.size + 1 := by simp
  obtain ⟨w1, hw1⟩ : ∃ w1, w.alloc (.cells (Value.pointer (some ⟨pb, 0, none⟩)).cells 148) = w1 := ⟨_, rfl⟩
  rw [hw1] at E1 b1 c1 z1
  have p1 := hp.below b1
  have EA : (Instr.alloc 3 true (.tuple #[])).run Tryz.prog w1 = .ok (.pointer (some ⟨w1.heap.size, 0, none⟩)) (w1.alloc (.cells #[.int .i64 0] 3)) := by kernel_rfl
  have b2 : Below w1.heap.size w1 (w1.alloc (.cells #[.int .i64 0] 3)) := (Below.refl _ _).alloc (Nat.le_refl _) _
  have c2 := heap_alloc_new w1 (.cells #[.int .i64 0] 3)
  obtain ⟨w2, hw2⟩ : ∃ w2, w1.alloc (.cells #[.int .i64 0] 3) = w2 := ⟨_, rfl⟩
  rw [hw2] at EA b2 c2
  obtain ⟨m, hm⟩ : ∃ m, (cutsL C).length - 1 = m := ⟨_, rfl⟩
  have ES : (Instr.storeAt 3 (.pointer (some ⟨w1.heap.size, 0, none⟩)) (.int .i64 (m : Int))).run Tryz.prog w2 = .ok () (w2.setCell ⟨w1.heap.size, 0, none⟩ (.int .i64 (m : Int))) := (st_int c2 _).1
  have c3 := (st_int c2 (m : Int)).2
  have b3 : Below w1.heap.size w2 (w2.setCell ⟨w1.heap.size, 0, none⟩ (.int .i64 (m : Int))) := set_bel (Nat.le_refl _)
  obtain ⟨w3, hw3⟩ : ∃ w3, w2.setCell ⟨w1.heap.size, 0, none⟩ (.int .i64 (m : Int)) = w3 := ⟨_, rfl⟩
  rw [hw3] at ES c3 b3
  have b13 : Below w1.heap.size w1 w3 := b2.trans b3
  have b03 : Below w.heap.size w w3 := b1.trans (b13.mono (by omega))
  have p3 := p1.below b13
  rw [hm] at p3
  have FS : FdS w base pb w.heap.size w1.heap.size P (cutsL C) (fun H X => FD C (cutsL C) C.length H) w3 := by
    refine ⟨(b13.block _ (by omega)).trans c1, ⟨_, _, p3, ?_, by simp; omega, FD.zero (by omega), ?_⟩, tch_below b03 _, hb, by omega, fun j hj => hp.lt hj⟩
    · have := nx_start m
      rw [show (cutsL C).length = m + 1 by omega]
      exact this
    · rw [cnt_repl]; exact c3
  have LH := p1.ldh
  obtain ⟨ah, ch, eh, _⟩ := p1.h.form
  rw [eh, List.length_replicate, hm] at LH
  have L2 := ld_pp c1
  have HB := hidMk (sbackward_any w3 la C.length lc)
  have HAT := hidMk (hat.below b03)
  have HFS := hidMk FS
  have HX := hidMk (And.intro ok (And.intro hn (And.intro hla (And.intro kn hb))))
  have HZ := hidMk (And.intro z1 b03)
  have HLA := hidMk hLA
  have HE := hidMk (And.intro E1 (And.intro L2 (And.intro LH (And.intro EA ES))))
  obtain ⟨B4, hb4⟩ : ∃ B4, w1.heap.size = B4 := ⟨_, rfl⟩
  have HB4 := hidMk hb4
  rw [hb4] at HE HFS HZ
  clear hat ok hn hla kn hb E1 b1 c1 z1 hw1 p1 EA b2 c2 hw2 ES c3 b3 hw3 b13 b03 p3 FS LH eh L2 hLA hp hb4 h2 hm
  refine (callsIn_wide (n := 4)).1 ?_
  refine callsIn_of_wp_marks Tryz.func89 rfl trivial ?_ rfl
  simp only [Tryz.ntmps89, List.size_toArray, List.length_cons, List.length_nil, Nat.reduceAdd, Nat.reduceSub, Array.replicate_succ, Array.replicate_zero, List.push_toArray, List.append_toArray, List.nil_append, List.cons_append]
  refine wpIn_wide.2 ?_
  go_upto_region 0 with fail
  refine fnd0 (pb := pb) (b2 := w.heap.size) (w1 := w1) _ w _ rfl rfl HE.out.1 ?_
  intro a' wx hw ha
  obtain rfl : w1 = wx := hw.symm
  subst ha
  simp only [Act.put, qsA, qsB, qsC]
  go_upto_region 1 with fail
  refine wp_scope_straight ?_
  go_upto_region 1 with fail
  refine fnd1 (b2 := w.heap.size) (b4 := B4) (pb := pb) (n := m) (c := ch) (la := ah) (w1 := w2) (w2 := w3) _ w1 _ rfl rfl HE.out.2.1 HE.out.2.2.1 HE.out.2.2.2.1 HE.out.2.2.2.2 ?_
  intro a' wx hw ha
  obtain rfl : w3 = wx := hw.symm
  subst ha
  simp only [Act.put, qsA, qsB, qsC]
  clear HE
  go_wp2
  go_step3
  go_upto_region 2 with fail
  refine fnd2 (cv := .slice la C.length lc) (fun v W => v = .func (.func 142) #[] #[.pointer (some ⟨w3.heap.size, 0, none⟩)] ∧ W.heap.size = w3.heap.size + 1 ∧ W.heap[w3.heap.size]? = some (.cells #[.slice la C.length lc] 49 (0, 0)) ∧ Below w3.heap.size w3 W) _ w3 _ rfl rfl ?_ ?_
  · refine HB.out.mono ?_
    rintro e W ⟨rfl, q⟩
    exact ⟨_, rfl, rfl, q⟩
  rintro v a' w7 ⟨rfl, z7, c7, b7⟩ ha
  subst ha
  simp only [Act.put, qsA, qsB, qsC]
  have bz : base ≤ w3.heap.size := Nat.le_trans HX.out.2.2.2.2 HZ.out.2.size
  have ST := hidMk (sbwd_stops (4 - 1) w3.heap.size C HX.out.1 HX.out.2.1 HLA.out w7 ((cell_of_row _ _ 0 _ _ _ c7).trans rfl) (HAT.out.below b7))
  have HI0 := hidMk (show FdQ w base pb w.heap.size B4 w3.heap.size P (cutsL C) (fun H => (∃ k, ([] : List (SpP C)) = LA.take k) → FD C (cutsL C) (C.length - ([] : List (SpP C)).length) H) w7 from ⟨(HFS.out.below b7).imp fun H X _ _ r _ => r, _, c7⟩)
  have Z7 := hidMk z7
  have BZ := hidMk bz
  have S37 := hidMk (show w.heap.size ≤ w7.heap.size from Nat.le_trans HZ.out.2.size (by omega))
  have nl : ∀ (W : World) (j : Nat), w.heap.size ≤ W.heap.size → j ∈ adB la → j < W.heap.size := fun W j h hj => by
    have h1 := HX.out.2.2.1 j hj
    have h2 := HX.out.2.2.2.2
    omega
  have NL := hidMk nl
  clear c7 b7 z7 bz nl HB HAT HFS HB4
  go_wp2
  refine (wpIn_wide (n := 4)).1 ?_
  refine wpIn_rangeFunc_ownH (F := Fence.wide) rfl (by omega) (gf := 142) (lb := #[.pointer (some ⟨w3.heap.size, 0, none⟩)]) rfl trivial (enters_of Tryz.func142 (by kernel_rfl) rfl)
    ST.out (fun h k => h.trans k) ?kb (Below.refl _ _) (fun _ => rfl)
    (fun pre W => FdQ w base pb w.heap.size B4 w3.heap.size P (cutsL C) (fun H => (∃ k, pre = LA.take k) → FD C (cutsL C) (C.length - pre.length) H) W)
    (fun c pre W => c = .exit 0 ∧ FdQ w base pb w.heap.size B4 w3.heap.size P (cutsL C) (fun H => (∃ k, pre = LA.take k) → FD C (cutsL C) 0 H) W)
    (FdQ.own w w7.heap.size base pb w.heap.size B4 w3.heap.size P (cutsL C) (fun (pre : List (SpP C)) H => (∃ k, pre = LA.take k) → FD C (cutsL C) (C.length - pre.length) H) S37.out)
    (fun c pre W W' row hs hg hr => ⟨hs.1, FdQ.own w w7.heap.size base pb w.heap.size B4 w3.heap.size P (cutsL C) (fun (pre : List (SpP C)) H => (∃ k, pre = LA.take k) → FD C (cutsL C) 0 H) S37.out pre W W' row hs.2 hg hr⟩)
    HI0.out (AxF w.heap.size B4) (AxF.own w.heap.size B4 w7.heap.size) ?assign ?body ?done ?stop
  case kb =>
    refine Kl.put (fun j hj => ?_)
    have := Z7.out
    rcases List.mem_cons.1 hj with rfl | hj
    · omega
    · have := NL.out w7 j S37.out hj
      omega
  case assign =>
    intro l pre x W K hI0 hK
    have hI := hI0.1
    obtain ⟨cbs, hbs⟩ := hI0.2
    have hz : (#[18, 19].zip #[.int .i64 (x.1.2 : Int), x.1.1.a] : Array (Tmp × Value)) = #[(18, .int .i64 (x.1.2 : Int)), (19, x.1.1.a)] := by simp
    rw [hz]
    simp only [List.foldl_toArray', List.foldl_cons, List.foldl_nil, List.setIfInBounds_toArray, List.set_cons_succ, List.set_cons_zero]
    refine wpIn_seq ?_
    refine fnd3 (v := .int .i64 (x.1.2 : Int)) _ W _ rfl rfl ?_
    intro a' W' hw ha
    obtain rfl : W = W' := hw.symm
    subst ha
    have hxk := HX.out.1 x.1.1 (List.mem_of_getElem? x.2)
    refine fnd4 (v := x.1.1.a) (eb := W.heap.size) _ W _ rfl rfl (RowT.bx_zero RSp_is W) (RowT.bx_new RSp_is W hxk) ?_
    intro a' W' hw ha
    obtain ⟨hbx, hbl⟩ := RowT.bx_is RSp W x.1.1
    rw [← hw] at hbx hbl
    refine hK _ _ (keeps_below hbl) (fun j hj => hbl.block j ?_) ⟨hI.below hbl, cbs, (hbl.block _ (Array.getElem?_eq_some_iff.1 hbs).1).trans hbs⟩ ⟨W.heap.size, ?_, ?_, ?_, ?_, ?_, hbx⟩
    · rcases List.mem_cons.1 hj with rfl | hj
      · exact (Array.getElem?_eq_some_iff.1 hbs).1
      · exact NL.out W j hI.ge hj
    · subst ha; rfl
    · subst ha; rfl
    · subst ha; rfl
    · subst ha; rfl
    · subst ha; rfl
  case body =>
    rintro l pre x a' W hl hr' hI hA hpl
    exact find_round HLA.out HX.out.2.2.2.1 (by omega) HX.out.2.2.1 hI hA
  case done =>
    rintro D ys W hD rfl hI hK
    have END := hidMk (find_end (base := base) (pb := pb) (P := P) (C := C) (R := fun H => (∃ k, ys = ys.take k) → FD C (cutsL C) (C.length - ys.length) H) hK (Nat.le_trans S37.out hD) hI.1 (fun H r => by
      have := r ⟨ys.length, by rw [List.take_length]⟩
      rwa [la_len HLA.out, Nat.sub_self] at this))
    clear hI
    simp only [Exit.inBlock, Exit.noGoto]
    refine ⟨by simp, .inl ⟨_, _, rfl, run_takeDeferred hK, ?_⟩⟩
    exact ⟨.tuple #[], by simp [results, Tryz.f89, go_sem], rfl, END.out⟩
  case stop =>
    rintro D c pre W hD hpre hI hK
    obtain ⟨rfl, hI⟩ := hI
    have END := hidMk (find_end (base := base) (pb := pb) (P := P) (C := C) (R := fun H => (∃ k, pre = LA.take k) → FD C (cutsL C) 0 H) hK (Nat.le_trans S37.out hD) hI.1 (fun H r => r hpre))
    clear hI
    refine wpIn_exit ?_
    simp only [Exit.inBlock, Exit.noGoto]
    refine ⟨by simp, .inl ⟨_, _, rfl, run_takeDeferred hK, ?_⟩⟩
    exact ⟨.tuple #[], by simp [results, Tryz.f89, go_sem], rfl, END.out⟩
end Go.Proofs.YtifendlpeebofaaGreatDoor
namespace Go.Proofs.YtifendlpeebofaaGreatDoor
open Go.RowKit
def run1_ops : Array Oper := (⟨_, rfl⟩ : {o // some o = rgB Tryz.f64 1}).1
theorem run1 {cv : Value} (Fin : Nat → World → Prop) (a : Act) (w : World) (Q : Exit → Act → World → Prop) (zz : a.tmps.size = 81)
    (t0 : a.tmps.getD 0 undef = cv)
    (CC : Calls Tryz.prog 88 #[cv] w fun e w' => ∃ pb, e = .returned (.pointer (some ⟨pb, 0, none⟩)) ∧ Fin pb w')
    (h : ∀ (pb : Nat) a' w', Fin pb w' → a' = ((a.put (some 9) (cv)).put (some 10) (.pointer (some ⟨pb, 0, none⟩))).put (some 3) (.pointer (some ⟨pb, 0, none⟩)) → Q .normal a' w') :
    (Code.region 1 run1_ops false).wp Tryz.prog Q a w := by
  refine z0 rfl ?_
  refine zv rfl (xmv rfl (zi t0 rfl)) ?_
  refine zc rfl (exec_c1 rfl (zg zz rfl)) (CC) (fun e x1 hx => ?_)
  obtain ⟨pb, rfl, HF⟩ := hx
  replace h := h pb
  refine ⟨_, rfl, ?_⟩
  refine zv rfl (xas rfl (zg zz rfl)) ?_
  exact ze rfl (h _ _ (HF) rfl)
def run2_ops : Array Oper := (⟨_, rfl⟩ : {o // some o = rgB Tryz.f64 2}).1
theorem run2 {pb : Nat} {cv : Value} (Fin : World → Prop) (a : Act) (w : World) (Q : Exit → Act → World → Prop) (zz : a.tmps.size = 81)
    (t3 : a.tmps.getD 3 undef = .pointer (some ⟨pb, 0, none⟩))
    (t0 : a.tmps.getD 0 undef = cv)
    (CC : Calls Tryz.prog 89 #[.pointer (some ⟨pb, 0, none⟩), cv] w fun e w' => e = .returned (.tuple #[]) ∧ Fin w')
    (h : ∀ a' w', Fin w' → a' = ((a.put (some 11) (.pointer (some ⟨pb, 0, none⟩))).put (some 12) (cv)).put (some 13) (.tuple #[]) → Q .normal a' w') :
    (Code.region 2 run2_ops false).wp Tryz.prog Q a w := by
  refine z0 rfl ?_
  refine zv rfl (xmv rfl (zi t3 rfl)) ?_
  refine zv rfl (xmv rfl (zi t0 rfl)) ?_
  refine zc rfl (exec_c2 rfl (zg zz rfl) (zg zz rfl)) (CC) (fun e x2 hx => ?_)
  obtain ⟨rfl, HF⟩ := hx
  refine ⟨_, rfl, ?_⟩
  exact ze rfl (h _ _ (HF) rfl)
end Go.Proofs.YtifendlpeebofaaGreatDoor
namespace Go.Proofs.YtifendlpeebofaaGreatDoor
open Go.RowKit Go.Shelf Sq
structure CvOk (C : List SpV) (nm : ByteArray) : Prop where
  ok : ∀ c ∈ C, c.ok
  rt : ∀ c ∈ C, c.v.right = true
  nm : ∀ c ∈ C, c.nm = nm
  lt : ∀ c ∈ C, c.fr < c.to
  ne : C ≠ []
  len : C.length ≤ 900000000000
theorem valN_mem {C : List SpV} {z : Int} {v : VaV} (h : valN C z = some v) : ∃ c ∈ C, c.v = v := by
  unfold valN valI at h
  split at h
  · cases h
  · simp only at h
    split at h
    · rename_i c hc
      split at h
      · cases h
      · exact ⟨c, List.mem_of_getElem? hc, Option.some.inj h⟩
    · cases h
def PkOk (p : SpV) : Prop := p.ok ∧ p.v.right = true
theorem rstep_ok {l : List SpV} {p : SpV} (hl : ∀ q ∈ l, PkOk q) (hp : PkOk p) : ∀ q ∈ rstep l p, PkOk q := by
  intro q hq
  unfold rstep at hq
  split at hq
  · rename_i r hr
    have hrm := List.mem_of_getLast? hr
    split at hq
    · rcases List.mem_append.1 hq with h | h
      · exact hl q (List.dropLast_subset l h)
      · rw [List.mem_singleton.1 h]
        have o := hl r hrm
        exact ⟨⟨o.1.f0, o.1.f1, hp.1.t0, hp.1.t1, o.1.nm, o.1.v⟩, o.2⟩
    · rcases List.mem_append.1 hq with h | h
      · exact hl q h
      · rw [List.mem_singleton.1 h]; exact hp
  · rcases List.mem_append.1 hq with h | h
    · exact hl q h
    · rw [List.mem_singleton.1 h]; exact hp
section
variable {C : List SpV} {nm : ByteArray}
theorem CvOk.cut (h : CvOk C nm) {a : Nat} (ha : a < (cutsL C).length) : -9223372036854775808 ≤ (cutsL C).getD a 0 ∧ (cutsL C).getD a 0 ≤ 9223372036854775807 := by
  obtain ⟨c, hc, e⟩ := ((cuts_of C).mem _).1 (List.mem_of_getElem? (getD_get ha))
  have o := h.ok c hc
  rcases e with e | e
  · rw [e]; exact ⟨o.f0, o.f1⟩
  · rw [e]; exact ⟨o.t0, o.t1⟩
theorem CvOk.piece (h : CvOk C nm) {a : Nat} (ha : a + 1 < (cutsL C).length) {c : SpV} (hc : c ∈ C) : PkOk ⟨(cutsL C).getD a 0, (cutsL C).getD (a + 1) 0, nm, c.v⟩ := by
  have h1 := h.cut (a := a) (by omega)
  have h2 := h.cut ha
  exact ⟨⟨h1.1, h1.2, h2.1, h2.2, by rw [← h.nm c hc]; exact (h.ok c hc).nm, (h.ok c hc).v⟩, h.rt c hc⟩
theorem CvOk.runs (h : CvOk C nm) : ∀ a, a < (cutsL C).length → ∀ q ∈ runsN C nm (cutsL C) a, PkOk q
  | 0, _ => fun q hq => by cases hq
  | a + 1, ha => by
    have ih := CvOk.runs h a (by omega)
    intro q hq
    unfold runsN rnext at hq
    split at hq
    · rename_i v hv
      obtain ⟨c, hc, rfl⟩ := valN_mem hv
      exact rstep_ok ih (h.piece ha hc) q hq
    · exact ih q hq
end
theorem set_last {l : List SpV} {q : SpV} (h : l.getLast? = some q) (x : SpV) : l.dropLast ++ [x] = l.set (l.length - 1) x := by
  have hne : l ≠ [] := fun e => by rw [e] at h; cases h
  conv => rhs; rw [← List.dropLast_concat_getLast hne]
  rw [List.set_append_right _ _ (by simp)]
  simp
theorem last_at {l : List SpV} {m : Nat} (hm : m + 1 = l.length) : ∃ q, l.getLast? = some q ∧ l[m]? = some q := by
  refine ⟨l[m], ?_, List.getElem?_eq_getElem (by omega)⟩
  rw [List.getLast?_eq_getElem?, show l.length - 1 = m by omega]
  exact List.getElem?_eq_getElem (by omega)
/-! ### memory -/
theorem bx_fr {W : World} {b : Nat} {p : SpV} (h : RSp.Bx W b p) (x : Int) : (Instr.storeAt 3 (.pointer (some ⟨b, 0 + 0, none⟩)) (.int .i64 x)).run Tryz.prog W = .ok () (W.setCell ⟨b, 0, none⟩ (.int .i64 x)) ∧ RSp.Bx (W.setCell ⟨b, 0, none⟩ (.int .i64 x)) b ⟨x, p.to, p.nm, p.v⟩ := by
  have hc : W.cell? ⟨b, 0, none⟩ = some (.int .i64 p.fr) := (cell_of_row W b 0 _ _ _ h).trans rfl
  have hf := frozen_of_row W b 0 _ _ h
  exact ⟨by go_simp, Go.heap_setCell_same _ _ 0 _ _ _ h⟩
theorem bx_to {W : World} {b : Nat} {p : SpV} (h : RSp.Bx W b p) (x : Int) : (Instr.storeAt 3 (.pointer (some ⟨b, 0 + 1, none⟩)) (.int .i64 x)).run Tryz.prog W = .ok () (W.setCell ⟨b, 1, none⟩ (.int .i64 x)) ∧ RSp.Bx (W.setCell ⟨b, 1, none⟩ (.int .i64 x)) b ⟨p.fr, x, p.nm, p.v⟩ := by
  have hc : W.cell? ⟨b, 1, none⟩ = some (.int .i64 p.to) := (cell_of_row W b 1 _ _ _ h).trans rfl
  have hf := frozen_of_row W b 1 _ _ h
  exact ⟨by go_simp, Go.heap_setCell_same _ _ 1 _ _ _ h⟩
theorem PcAt.geth {w : World} {base pb : Nat} {P : PcV} {K H : List Int} {X : List Nat} (h : PcAt w base pb P K H X) (hne : H ≠ []) : ∃ g cap, P.hv = .slice (some ⟨g, 0, none⟩) H.length cap ∧ ∀ i x, H[i]? = some x → (Instr.loadAt 3 (.pointer (some ⟨g, i, none⟩))).run Tryz.prog w = .ok (.int .i64 x) w := by
  obtain ⟨g, cap, e, _, _, hc, _⟩ := h.h.at hne
  exact ⟨g, cap, e, fun i x hx => ld_z (hc i x hx)⟩
theorem PcAt.getk {w : World} {base pb : Nat} {P : PcV} {K H : List Int} {X : List Nat} (h : PcAt w base pb P K H X) {g cap : Nat} (e : P.kv = .slice (some ⟨g, 0, none⟩) K.length cap) : ∀ i x, K[i]? = some x → (Instr.loadAt 3 (.pointer (some ⟨g, i, none⟩))).run Tryz.prog w = .ok (.int .i64 x) w := by
  intro i x hx
  obtain ⟨g', cap', e', _, _, hc, _⟩ := h.k.at (fun q => by rw [q] at hx; cases hx)
  rw [e] at e'
  cases e'
  exact ld_z (hc i x hx)
theorem PcAt.nsp {w w' : World} {base pb : Nat} {P : PcV} {K H : List Int} {X : List Nat} (h : PcAt w base pb P K H X) (hk : ∀ (j : Nat) (c : Array Value) (t : TypeId) (z : Nat × Nat), w.heap[j]? = some (.cells c t z) → t ≠ RSp.e → w'.heap[j]? = w.heap[j]?) : PcAt w' base pb P K H X := by
  refine h.keep fun j hj => ?_
  have oz : ∀ {v : Value} {L : List Int}, OwnZ w base v L → v.ownBlock = some j → w'.heap[j]? = w.heap[j]? := fun o e => by
    obtain ⟨_, c, hc⟩ := o.ge j e
    exact hk j c 3 _ hc (by decide)
  rcases hj with rfl | hj | hj | hj
  · exact hk _ _ _ _ h.cell (by decide)
  · exact oz h.k hj
  · exact oz h.h hj
  · exact oz h.x hj
theorem RowT.Own.zeroZ {κ : Type} {R : RowT κ} (I : R.Is) {w : World} {base : Nat} {v : Value} {L : List κ} (h : R.Own w base v L) (ok : ∀ h ∈ L, R.ok h) {i : Nat} (hi : i < L.length) : ∃ g cap, v = .slice (some ⟨g, 0, none⟩) L.length cap ∧ w.rangeAt g (R.k * i) (R.c L[i]) := by
  rcases h.2 with ⟨rfl, hn⟩ | ⟨g, cap, cur, rfl, hbg, hg, hnc, hcm, hcs, htake⟩
  · omega
  · refine ⟨g, cap, rfl, fun j u hj => ?_⟩
    have e := RowT.flat_get I ok (List.getElem?_eq_getElem hi) hj
    rw [cell_of_row w g _ cur R.e (0, 0) hg]
    rw [← htake, List.getElem?_take] at e
    split at e
    · simpa using e
    · cases e
theorem own_putCZ {w : World} {base g n cap r e sz : Nat} {F : List Value} (h : w.ownsRow base e sz (.slice (some ⟨g, 0, none⟩) n cap) n F) (x : Value) (hr : r < F.length) : (w.setCell ⟨g, r, none⟩ x).ownsRow base e sz (.slice (some ⟨g, 0, none⟩) n cap) n (F.set r x) := by
  refine ⟨by rw [List.length_set]; exact h.1, ?_⟩
  rcases h.2 with ⟨e1, _⟩ | ⟨g2, cap2, cur, e1, hb, hg, hnc, hcm, hcs, ht⟩
  · cases e1
  · cases e1
    refine .inr ⟨g, cap, cur.setIfInBounds r x, rfl, hb, Go.heap_setCell_same _ _ r _ _ _ hg, hnc, hcm, by rw [Array.size_setIfInBounds]; exact hcs, ?_⟩
    rw [Array.toList_setIfInBounds, List.take_set, ht]
theorem RowT.flat_setZ {κ : Type} {R : RowT κ} (I : R.Is) {L : List κ} (ok : ∀ x ∈ L, R.ok x) {i : Nat} (hi : i < L.length) {j : Nat} (hj : j < R.k) {x : κ} {u : Value} (hx : R.c x = (R.c L[i]).set j u) : (R.flat L).set (R.k * i + j) u = R.flat (L.set i x) := by
  have e : L = L.take i ++ L[i] :: L.drop (i + 1) := by rw [List.getElem_cons_drop]; exact (List.take_append_drop i L).symm
  have hl : (L.take i).length = i := by rw [List.length_take]; omega
  have oky := ok L[i] (List.getElem_mem hi)
  have okA : ∀ x ∈ L.take i, R.ok x := fun x hx => ok x (List.mem_of_mem_take hx)
  generalize L[i] = y at *
  have e2 : L.set i x = L.take i ++ x :: L.drop (i + 1) := by
    conv => lhs; rw [e]
    rw [List.set_append_right _ _ (by omega), hl]; simp
  have lA := RowT.flat_len I okA
  rw [hl] at lA
  have ly := I.len y oky
  rw [e2]
  conv => lhs; rw [e]
  rw [RowT.flat_app, RowT.flat_app, RowT.flat_cons, RowT.flat_cons, hx, List.set_append_right _ _ (by omega), lA, show R.k * i + j - R.k * i = j by omega, List.set_append_left _ _ (by omega)]
theorem RowT.own_setCellZ {κ : Type} {R : RowT κ} (I : R.Is) {w : World} {base : Nat} {g cap n : Nat} {L : List κ} (own : R.Own w base (.slice (some ⟨g, 0, none⟩) n cap) L) (hn : n = L.length) (ok : ∀ x ∈ L, R.ok x) {i : Nat} (hi : i < L.length) {j : Nat} (hj : j < R.k) {x : κ} {u : Value} (hx : R.c x = (R.c L[i]).set j u) : R.Own (w.setCell ⟨g, R.k * i + j, none⟩ u) base (.slice (some ⟨g, 0, none⟩) n cap) (L.set i x) := by
  subst hn
  unfold RowT.Own
  rw [List.length_set, ← RowT.flat_setZ I ok hi hj hx]
  refine own_putCZ own u ?_
  rw [RowT.flat_len I ok]
  have := Nat.mul_le_mul_left R.k (show i + 1 ≤ L.length from hi)
  rw [Nat.mul_succ] at this
  omega
structure RnI (base pb : Nat) (P : PcV) (K H : List Int) (X : List Nat) (lv : Value) (L : List SpV) (w W : World) : Prop where
  pc : PcAt W base pb P K H X
  row : RSp.Own W base lv L
  bel : Below base w W
section
variable {base pb : Nat} {P : PcV} {K H : List Int} {X : List Nat} {lv : Value} {L : List SpV} {w W W' : World}
theorem RnI.below (h : RnI base pb P K H X lv L w W) (hb : base ≤ W.heap.size) (b : Below W.heap.size W W') : RnI base pb P K H X lv L w W' :=
  ⟨h.pc.below b, h.row.below b, h.bel.trans (b.mono hb)⟩
theorem RnI.push (h : RnI base pb P K H X lv L w W) (hb : base ≤ W.heap.size) {x : SpV} (hx : x.ok) (hl : L.length + 1 ≤ 2000000000000) : ∃ sv w1 v' w', (Instr.buildSlice 49 1 #[(0, x.a)]).run Tryz.prog W = .ok sv w1 ∧ (Builtin.append_ #[49, 49] 49 #[lv, sv]).run Tryz.prog w1 = .ok v' w' ∧ RnI base pb P K H X v' (L ++ [x]) w w' := by
  obtain ⟨sv, w1, v', w', e1, e2, o, b1, z1, g, q⟩ := RowT.run_push RSp_is W base lv L x h.row hx (by unfold maxLen; omega) (by show _ * 72 ≤ _; omega) hb
  have no : ∀ k, lv.ownBlock = some k → base ≤ k ∧ ∃ c, W.heap[k]? = some (.cells c RSp.e (0, 0)) := fun k hk => h.row.cells hk
  refine ⟨sv, w1, v', w', e1, e2, (h.pc.below b1).nsp (fun j c t z hj ht => g.block j (Array.getElem?_eq_some_iff.1 hj).1 (fun e => ?_)), o, ?_⟩
  · obtain ⟨_, c2, hc⟩ := no j e.symm
    have hc' := (b1.block j (Array.getElem?_eq_some_iff.1 hc).1).trans hc
    exact ht (two_typesM hj hc')
  · exact (h.bel.trans (b1.mono hb)).trans ((Below.refl _ _).grown g (Nat.le_trans hb b1.size) (fun k e => (no k e).1))
theorem RnI.grow (h : RnI base pb P K H X lv L w W) (ok : ∀ x ∈ L, x.ok) {m : Nat} {q : SpV} (hq : L[m]? = some q) (y : Int) : ∃ g cap, lv = .slice (some ⟨g, 0, none⟩) L.length cap ∧ W.rangeAt g (0 + 7 * m) q.c ∧ g < W.heap.size ∧ (∀ W1, Below W.heap.size W W1 → ∃ W2, (Instr.storeAt 3 (.pointer (some ⟨g, 0 + 7 * m + 1, none⟩)) (.int .i64 y)).run Tryz.prog W1 = .ok () W2 ∧ (base ≤ W.heap.size → RnI base pb P K H X lv (L.set m ⟨q.fr, y, q.nm, q.v⟩) w W2)) := by
  have hm := (List.getElem?_eq_some_iff.1 hq).1
  have he : L[m] = q := (List.getElem?_eq_some_iff.1 hq).2
  obtain ⟨g, cap, e, hr⟩ := RowT.Own.zeroZ RSp_is h.row ok hm
  have hr' : W.rangeAt g (7 * m) q.c := by rw [he] at hr; exact hr
  obtain ⟨hbg, c0, hc0⟩ := h.row.cells (k := g) (by rw [e]; rfl)
  have hg := (Array.getElem?_eq_some_iff.1 hc0).1
  refine ⟨g, cap, e, by rw [Nat.zero_add]; exact hr', hg, fun W1 b => ?_⟩
  have hcg := (b.block g hg).trans hc0
  have hc : W1.cell? ⟨g, 7 * m + 1, none⟩ = some (.int .i64 q.to) := (World.cell?_of_block (w := W) (a := ⟨g, 7 * m + 1, none⟩) (b.block g hg)).trans (hr' 1 _ rfl)
  have hf := frozen_of_row W1 g (7 * m + 1) _ _ hcg
  refine ⟨W1.setCell ⟨g, 7 * m + 1, none⟩ (.int .i64 y), by rw [Nat.zero_add]; clear hr; go_simp, fun hb => ?_⟩
  have o1 : RSp.Own W1 base lv L := h.row.below b
  have o2 := o1
  rw [e] at o2
  have o3 := RowT.own_setCellZ RSp_is o2 rfl ok hm (j := 1) (by decide) (x := ⟨q.fr, y, q.nm, q.v⟩) (u := .int .i64 y) (by rw [he]; rfl)
  refine ⟨(h.pc.below b).nsp (fun j c t z hj ht => set_other (fun e => ?_)), by rw [e]; exact o3, (h.bel.trans (b.mono hb)).trans (set_bel hbg)⟩
  rw [e] at hj
  exact ht (two_typesM hj hcg)
end
theorem runs_skip {C : List SpV} {nm : ByteArray} {K : List Int} {a : Nat} (h : valN C (hI C 0 (K.getD a 0)) = none) : runsN C nm K (a + 1) = runsN C nm K a := by
  show rnext _ _ _ _ _ _ = _
  unfold rnext
  rw [h]
theorem runs_one {C : List SpV} {nm : ByteArray} {K : List Int} {a : Nat} {v : VaV} (h : valN C (hI C 0 (K.getD a 0)) = some v) : runsN C nm K (a + 1) = rstep (runsN C nm K a) ⟨K.getD a 0, K.getD (a + 1) 0, nm, v⟩ := by
  show rnext _ _ _ _ _ _ = _
  unfold rnext
  rw [h]
theorem rstep_nil {l : List SpV} (p : SpV) (h : l.length = 0) : rstep l p = l ++ [p] := by
  have := List.eq_nil_of_length_eq_zero h
  subst this
  rfl
theorem rstep_more {l : List SpV} {p q : SpV} {m : Nat} (hm : m + 1 = l.length) (hq : l[m]? = some q) : rstep l p = if q.to = p.fr ∧ q.v = p.v then l.set m ⟨q.fr, p.to, q.nm, q.v⟩ else l ++ [p] := by
  obtain ⟨q', h1, h2⟩ := last_at hm
  rw [hq] at h2
  cases h2
  unfold rstep
  rw [h1]
  simp only
  rw [set_last h1, show l.length - 1 = m by omega]
attribute [local go_sem] Oper.semAt_some
def RnS (C : List SpV) (nm : ByteArray) (base pb : Nat) (P : PcV) (H : List Int) (X : List Nat) (a : Nat) (lv : Value) (w W : World) : Prop := RnI base pb P (cutsL C) H X lv (runsN C nm (cutsL C) a) w W
theorem hat_lt {w : World} {la : Option Addr} {C : List SpV} (hat : RSp.At w la C) (hne : C ≠ []) : ∀ j ∈ adB la, j < w.heap.size := by
  intro j hj
  obtain ⟨b, o, e, hb, _⟩ := hat.get (i := 0) (List.length_pos_iff.2 hne)
  rw [e] at hj
  simp [adB] at hj
  omega
theorem hI_at {C : List SpV} {j z : Int} (h : z = hI C 0 j) (hz : ¬ z = -1) : ∃ (r : Nat) (c : SpV), z = r ∧ C[r]? = some c := by
  unfold hI at h
  split at h
  · rename_i r hr
    rw [if_pos (Nat.zero_le _)] at h
    exact ⟨r, _, h, List.getElem?_eq_getElem (lastI_lt hr)⟩
  · exact absurd h hz
theorem valN_at {C : List SpV} {r : Nat} {c : SpV} (h : C[r]? = some c) : valN C (r : Int) = if c.v.k = 0 then none else some c.v := by
  unfold valN valI
  rw [if_neg (by omega)]
  simp only [Int.toNat_natCast, h]
set_option maxHeartbeats 8000000 in
theorem runs_any {w : World} {la : Option Addr} {lc : Nat} {C : List SpV} {nm : ByteArray} (hat : RSp.At w la C) (hC : CvOk C nm) (hT : K.V.Tabs w) :
    Calls Tryz.prog 64 #[.slice la C.length lc] w fun e w' => ∃ v, e = .returned v ∧ RSp.Own w' w.heap.size v (runsL C nm (cutsL C)) ∧ Below w.heap.size w w' := by
  have k2 : 2 ≤ (cutsL C).length := by obtain ⟨c, hc⟩ := List.exists_mem_of_ne_nil C hC.ne; exact cuts_two hc (hC.lt c hc)
  have kn := cuts_len C
  have CU := hidMk (cutUp_any (lc := lc) hat hC.ok hC.lt hC.ne hC.len)
  have CF := hidMk (fun (W : World) (pb : Nat) (P : PcV) (b : Below w.heap.size w W) (hp : PcAt W w.heap.size pb P (cutsL C) (List.replicate ((cutsL C).length - 1) (-1)) (List.range (cutsL C).length)) => (find_any (lc := lc) (hat.below b) hC.ok hC.len (hat_lt hat hC.ne) b.size hp k2))
  have HAT := hidMk (fun (W : World) (b : Below w.heap.size w W) => hat.below b)
  have HT := hidMk (fun (W : World) (b : Below w.heap.size w W) => hT.below b)
  have HC := hidMk hC
  obtain ⟨m, hm⟩ : ∃ m, (cutsL C).length = m + 1 := ⟨(cutsL C).length - 1, by omega⟩
  have HM := hidMk hm
  have HK := hidMk (show 1 ≤ m ∧ m ≤ 1800000000000 by have := hC.len; omega)
  obtain ⟨n, hn⟩ : ∃ n, C.length = n := ⟨_, rfl⟩
  have HN := hidMk (show C.length = n ∧ n ≤ 900000000000 from ⟨hn, by have := hC.len; omega⟩)
  rw [hn] at CU CF ⊢
  clear hat hC hT k2 kn hm hn
  go_enter Tryz.func64, Tryz.ntmps64
  go_upto_region 1 with fail
  refine run1 (cv := .slice la n lc) (fun pb W => ∃ P, PcAt W w.heap.size pb P (cutsL C) (List.replicate ((cutsL C).length - 1) (-1)) (List.range (cutsL C).length) ∧ Below w.heap.size w W) _ w _ rfl rfl (CU.out.mono ?_) ?_
  · rintro e W ⟨pb, rfl, P, q⟩
    exact ⟨pb, rfl, P, q⟩
  rintro pb a' w1 ⟨P, hp, bl⟩ ha
  subst ha
  simp only [Act.put, qsA, qsB, qsC]
  clear CU
  have C2 := hidMk (CF.out w1 pb P bl hp)
  clear CF
  go_upto_region 2 with fail
  refine run2 (pb := pb) (cv := .slice la n lc) (fun W => ∃ H X, PcAt W w.heap.size pb P (cutsL C) H X ∧ FD C (cutsL C) 0 H ∧ Below w.heap.size w W) _ w1 _ rfl rfl rfl (C2.out.mono ?_) ?_
  · rintro e W ⟨rfl, H, X, q1, q2, q3⟩
    exact ⟨rfl, H, X, q1, q2, bl.trans (q3.below bl.size (fun j hj => hp.ge (hj.elim (fun e => .inr (.inr (.inl e))) (fun e => .inr (.inr (.inr e))))))⟩
  rintro a' w2 ⟨H, X, hp2, hf, b2⟩ ha
  subst ha
  simp only [Act.put, qsA, qsB, qsC]
  clear hp bl C2
  have hl : H.length = m := by have := hf.len; have := HM.out; omega
  have I0 := hidMk (show RnS C nm w.heap.size pb P H X 0 (.slice none 0 0) w w2 from ⟨hp2, RowT.own_nil _ _ _, b2⟩)
  have LH := hp2.ldh
  obtain ⟨gh, ch, eh, _⟩ := hp2.geth (fun e => by rw [e] at hl; have := HK.out; simp at hl; omega)
  have EH := hidMk eh
  rw [eh, hl] at LH
  have HF := hidMk hf
  have HL := hidMk hl
  clear hp2 b2 hf eh hl
  go_upto_region 4 with fail
  refine run4 (pb := pb) (n := m) (c := ch) (la := some ⟨gh, 0, none⟩) _ w2 _ rfl rfl LH ?_
  intro a' w3 hw ha
  obtain rfl : w2 = w3 := hw.symm
  subst ha
  simp only [Act.put, qsA, qsB, qsC]
  clear LH
  go_wp2
  go_loopw [4, 19] (fun v4 v19 wr => ∃ i : Nat, v19 = .int .i64 (i : Int) ∧ i ≤ m ∧ Hid (RnS C nm w.heap.size pb P H X i v4 w wr)) (fun _ v19 _ => m - (intOf v19).toNat)
  case atStart => exact ⟨0, rfl, Nat.zero_le _, I0⟩
  case round =>
    clear I0
    obtain ⟨i, rfl, hi, HI⟩ := hrel
    by_cases h : i < m
    · have h' : (i : Int) < (m : Int) := by omega
      obtain ⟨z, hz⟩ : ∃ z, H[i]? = some z := ⟨_, List.getElem?_eq_getElem (by have := HL.out; omega)⟩
      have hzi : z = hI C 0 ((cutsL C).getD i 0) := HF.out.get i z _ hz (getD_get (by have := HM.out; omega))
      obtain ⟨gh2, ch2, eh2, ld2⟩ := HI.out.pc.geth (fun e => by rw [e] at hz; cases hz)
      have LZ := ld2 i z hz
      rw [EH.out] at eh2
      obtain ⟨rfl, rfl⟩ : gh = gh2 ∧ ch = ch2 := by cases eh2; exact ⟨rfl, rfl⟩
      have hm64 : m ≤ 9223372036854775807 := by have := HK.out; omega
      have HH := hidMk h
      have MS : m - (((i + 1 : Nat) : Int)).toNat < m - ((i : Nat) : Int).toNat := by simp only [Int.toNat_natCast]; omega
      have HMS := hidMk MS
      have HZ := hidMk hzi
      clear ld2 eh2 hz hzi MS
      go_upto_region 6 with fail
      refine run6 (g := gh) (n := m) (c := ch) (ai := i) (z := z) _ wr _ rfl rfl rfl h hm64 LZ ?_
      intro a' w3 hw ha
      obtain rfl : wr = w3 := hw.symm
      subst ha
      simp only [Act.put, qsA, qsB, qsC]
      clear LZ
      by_cases q : z = -1
      · subst q
        have NS : runsN C nm (cutsL C) (i + 1) = runsN C nm (cutsL C) i := runs_skip (by rw [← HZ.out]; rfl)
        have NI := hidMk (show RnS C nm w.heap.size pb P H X (i + 1) u4 w wr by unfold RnS; rw [NS]; exact HI.out)
        clear HI
        go_upto_region 7 with fail
        refine run7t (cv := .slice la n lc) _ wr _ rfl rfl rfl ?_
        intro a' w3 hw ha
        obtain rfl : wr = w3 := hw.symm
        subst ha
        simp only [Act.put, qsA, qsB, qsC]
        go_wp2
        rw [show ((i : Int) + 1) = ((i + 1 : Nat) : Int) by omega]
        exact ⟨⟨i + 1, rfl, h, NI⟩, HMS.out⟩
      · obtain ⟨r, c, rfl, hc⟩ := hI_at HZ.out q
        have hrl : r < n := by have := (List.getElem?_eq_some_iff.1 hc).1; have := HN.out; omega
        have hn64 : n ≤ 9223372036854775807 := by have := HN.out; omega
        have bwr : w.heap.size ≤ wr.heap.size := HI.out.bel.size
        have okc := HC.out.ok c (List.mem_of_getElem? hc)
        obtain ⟨g, o, rfl, _, hr⟩ := (HAT.out wr HI.out.bel).get (i := r) (by have := HN.out; omega)
        have hr' : wr.rangeAt g (o + 7 * r) c.c := by
          have e : C[r]'(by have := HN.out; omega) = c := (List.getElem?_eq_some_iff.1 hc).2
          rw [e] at hr; exact hr
        have LK := sp_kind hr'
        obtain ⟨t, ht⟩ : ∃ t, decide (c.v.k = 0) = t := ⟨_, rfl⟩
        have HV := hidMk (show valN C ((r : Int)) = if c.v.k = 0 then none else some c.v from valN_at hc)
        have HCC := hidMk hc
        have HR := hidMk hr'
        have d1 : decide ((r : Int) = -1) = false := decide_eq_false q
        clear hr hr' hc
        go_upto_region 7 with fail
        refine run7f (g := g) (o := o) (n := n) (c := lc) (i := r) (x := c) (r := t) _ wr _ rfl rfl rfl hrl hn64 d1 ht LK ?_
        intro a' w3 hw ha
        obtain rfl : wr = w3 := hw.symm
        subst ha
        simp only [Act.put, qsA, qsB, qsC]
        clear LK d1
        cases t with
        | true =>
          have NS : runsN C nm (cutsL C) (i + 1) = runsN C nm (cutsL C) i := runs_skip (by rw [← HZ.out, HV.out, if_pos (of_decide_eq_true ht)])
          have NI := hidMk (show RnS C nm w.heap.size pb P H X (i + 1) u4 w wr by unfold RnS; rw [NS]; exact HI.out)
          clear HI
          go_wp2
          rw [show ((i : Int) + 1) = ((i + 1 : Nat) : Int) by omega]
          exact ⟨⟨i + 1, rfl, h, NI⟩, HMS.out⟩
        | false =>
          have hv : valN C (hI C 0 ((cutsL C).getD i 0)) = some c.v := by rw [← HZ.out, HV.out, if_neg (of_decide_eq_false ht)]
          have NS := hidMk (runs_one (nm := nm) hv)
          have hcm := List.mem_of_getElem? HCC.out
          have PO := HC.out.piece (a := i) (by have := HM.out; omega) hcm
          clear HZ HV ht hv
          have LX := RowT.ld RSp_is okc HR.out
          have EA := RowT.bx_zero RSp_is wr
          have ES := RowT.bx_new RSp_is wr okc
          obtain ⟨hbx, hbl⟩ := RowT.bx_is RSp wr c
          clear HR
          go_upto_region 8 with fail
          refine run8 (g := g) (o := o) (n := n) (c := lc) (i := r) (eb := wr.heap.size) (x := c) _ wr _ rfl rfl rfl hrl hn64 LX EA ES ?_
          intro a' w3 hw ha
          subst ha
          rw [← hw] at hbx hbl
          obtain ⟨w4, hw4⟩ : ∃ w4, w3 = w4 := ⟨_, rfl⟩
          rw [hw4] at hbx hbl ⊢
          simp only [Act.put, qsA, qsB, qsC]
          clear LX EA ES hw hw4
          have I4 := HI.out.below bwr hbl
          have hbd : RSp.Bx w4.drew wr.heap.size c := hbx
          have bdr : Below wr.heap.size wr w4.drew := hbl.trans ((Below.refl _ _).drew)
          obtain ⟨f1, hb5⟩ := bx_fr hbd ((cutsL C).getD i 0)
          have b5 : Below wr.heap.size w4.drew (w4.drew.setCell ⟨wr.heap.size, 0, none⟩ (.int .i64 ((cutsL C).getD i 0))) := set_bel (Nat.le_refl _)
          obtain ⟨w5, hw5⟩ : ∃ w5, w4.drew.setCell ⟨wr.heap.size, 0, none⟩ (.int .i64 ((cutsL C).getD i 0)) = w5 := ⟨_, rfl⟩
          rw [hw5] at f1 hb5 b5
          obtain ⟨f2, hb6⟩ := bx_to hb5 ((cutsL C).getD (i + 1) 0)
          have b6 : Below wr.heap.size w5 (w5.setCell ⟨wr.heap.size, 1, none⟩ (.int .i64 ((cutsL C).getD (i + 1) 0))) := set_bel (Nat.le_refl _)
          obtain ⟨w6, hw6⟩ : ∃ w6, w5.setCell ⟨wr.heap.size, 1, none⟩ (.int .i64 ((cutsL C).getD (i + 1) 0)) = w6 := ⟨_, rfl⟩
          rw [hw6] at f2 hb6 b6
          have p4 := HI.out.pc.below bdr
          have p5 := HI.out.pc.below (bdr.trans b5)
          have I6 := hidMk (HI.out.below bwr ((bdr.trans b5).trans b6))
          have hnm := HC.out.nm c hcm
          obtain ⟨x, hx⟩ : ∃ x, (cutsL C).getD i 0 = x := ⟨_, rfl⟩
          obtain ⟨y, hy⟩ : ∃ y, (cutsL C).getD (i + 1) 0 = y := ⟨_, rfl⟩
          have kx : (cutsL C)[i]? = some x := by rw [← hx]; exact getD_get (by have := HM.out; omega)
          have ky : (cutsL C)[i + 1]? = some y := by rw [← hy]; exact getD_get (by have := HM.out; omega)
          rw [hx] at f1
          rw [hy] at f2
          rw [hx, hy] at hb6 PO NS
          rw [hnm] at hb6
          have HB6 := hidMk hb6
          have HPO := hidMk PO
          obtain ⟨gk, ck, ek, _⟩ := p4.k.at (fun e => by rw [e] at kx; cases kx)
          have LK : ∀ W, PcAt W w.heap.size pb P (cutsL C) H X → (Instr.loadAt 150 (.pointer (some ⟨pb, 0 + 0, none⟩))).run Tryz.prog W = .ok (.slice (some ⟨gk, 0, none⟩) (m + 1) ck) W := fun W h => by have := h.ldk; rw [ek, HM.out] at this; exact this
          have LA : ∀ W, PcAt W w.heap.size pb P (cutsL C) H X → (Instr.loadAt 3 (.pointer (some ⟨gk, i, none⟩))).run Tryz.prog W = .ok (.int .i64 x) W := fun W h => h.getk ek i x kx
          have LB : ∀ W, PcAt W w.heap.size pb P (cutsL C) H X → (Instr.loadAt 3 (.pointer (some ⟨gk, i + 1, none⟩))).run Tryz.prog W = .ok (.int .i64 y) W := fun W h => h.getk ek (i + 1) y ky
          have hE : (i : Int) + 1 = ((i + 1 : Nat) : Int) := by omega
          have hb1 : ((i + 1 : Nat) : Int) ≤ 9223372036854775807 := by omega
          have hm1 : m + 1 ≤ 9223372036854775807 := by have := HK.out; omega
          clear hbx hbl I4 hbd bdr b5 hw5 b6 hw6 hb5 hb6 hx hy kx ky ek hnm PO HI hm64 hn64
          go_upto_region 9 with fail
          refine run9 (pb := pb) (eb := wr.heap.size) (g := gk) (n := m + 1) (c := ck) (ai := i) (aj := i + 1) (x := x) (y := y) (w1 := w5) (w2 := w6) (fun W => PcAt W w.heap.size pb P (cutsL C) H X) _ w4 _ rfl rfl rfl rfl p4 (by omega) (by omega) hE hb1 hm1 LK LA LB f1 p5 f2 ?_
          intro a' w3 hw ha
          obtain rfl : w6 = w3 := hw.symm
          subst ha
          simp only [Act.put, qsA, qsB, qsC]
          clear LK LA LB f1 f2 p4 p5 hE hb1 hm1
          have LOK := hidMk (HC.out.runs i (by have := HM.out; omega))
          have LL := runsN_len C nm (cutsL C) i
          obtain ⟨L, hL⟩ : ∃ L, runsN C nm (cutsL C) i = L := ⟨_, rfl⟩
          rw [hL] at NS I6 LL LOK
          have LLp : L.length + 1 ≤ 2000000000000 := by have := HK.out; omega
          have B6 : wr.heap.size ≤ w6.heap.size := Nat.le_of_lt (Array.getElem?_eq_some_iff.1 HB6.out).1
          clear hL
          obtain ⟨la, lcap, eu, _⟩ := RowT.Own.open RSp_is I6.out.row (fun q hq => (LOK.out q hq).1)
          by_cases hl : L.length = 0
          · rw [hl] at eu
            have RS := rstep_nil (⟨x, y, nm, c.v⟩ : SpV) hl
            go_upto_region 10 with fail
            refine run10 (n := 0) (c := lcap) (m := -1) (la := la) _ w6 _ rfl eu (by decide) (by decide) ?_
            intro a' w3 hw ha
            obtain rfl : w6 = w3 := hw.symm
            subst ha
            simp only [Act.put, qsA, qsB, qsC]
            go_upto_region 11 with fail
            refine run11f (eb := wr.heap.size) (m := -1) (lv := u4) _ w6 _ rfl rfl rfl rfl (by decide) ?_
            intro a' w3 hw ha
            have bd : Below w6.heap.size w6 w3 := by rw [hw]; exact (Below.refl _ _).drew
            subst ha
            simp only [Act.put, qsA, qsB, qsC]
            have I7 := I6.out.below (Nat.le_trans bwr B6) bd
            have B7 := HB6.out.below bd
            have Z7 : wr.heap.size ≤ w3.heap.size := Nat.le_trans B6 bd.size
            clear hw bd eu
            obtain ⟨sv, y1, v2, y2, g1, g2, IP⟩ := RnI.push (I7) (Nat.le_trans bwr Z7) HPO.out.1 LLp
            have LQ := RowT.ld RSp_is HPO.out.1 (RowT.Bx.rng B7)
            have NI := hidMk (show RnS C nm w.heap.size pb P H X (i + 1) v2 w y2 by unfold RnS; rw [NS.out, RS]; exact IP)
            clear IP
            go_upto_region 13 with fail
            refine run13 (eb := wr.heap.size) (q := ⟨x, y, nm, c.v⟩) (lv := u4) (sv := sv) (v2 := v2) (w1 := y1) (w2 := y2) _ w3 _ rfl rfl rfl LQ g1 g2 ?_
            intro a' w3 hw ha
            obtain rfl : y2 = w3 := hw.symm
            subst ha
            simp only [Act.put, qsA, qsB, qsC]
            clear LQ g1 g2
            have hm64 : m ≤ 9223372036854775807 := by have := HK.out; omega
            go_wp2
            rw [show ((i : Int) + 1) = ((i + 1 : Nat) : Int) by omega]
            exact ⟨⟨i + 1, rfl, HH.out, NI⟩, HMS.out⟩
          · obtain ⟨k, hk⟩ : ∃ k, L.length = k + 1 := ⟨L.length - 1, by omega⟩
            obtain ⟨q0, _, hq0⟩ := last_at hk.symm
            have RS := rstep_more (p := (⟨x, y, nm, c.v⟩ : SpV)) hk.symm hq0
            have QO := LOK.out q0 (List.mem_of_getElem? hq0)
            obtain ⟨g, cap, eu2, hqr, hgl, hst⟩ := I6.out.grow (fun q hq => (LOK.out q hq).1) hq0 y
            rw [hk] at eu2
            clear eu
            have k64 : k + 1 ≤ 9223372036854775807 := by omega
            go_upto_region 10 with fail
            refine run10 (n := k + 1) (c := cap) (m := (k : Int)) (la := some ⟨g, 0, none⟩) _ w6 _ rfl eu2 (by omega) (by omega) ?_
            intro a' w3 hw ha
            obtain rfl : w6 = w3 := hw.symm
            subst ha
            simp only [Act.put, qsA, qsB, qsC]
            obtain ⟨t, ht⟩ : ∃ t, decide (q0.to = x ∧ q0.v = c.v) = t := ⟨_, rfl⟩
            have CC : Calls Tryz.prog 90 #[q0.a, SpV.a ⟨x, y, nm, c.v⟩] w6.drew fun e w' => e = .returned (.bool t) ∧ Below w6.heap.size w6 w' := by
              refine (goes_any QO.1 HPO.out.1 QO.2 HPO.out.2 ((HT.out w6 I6.out.bel).below (Below.refl _ _).drew)).mono ?_
              rintro e W ⟨rfl, b⟩
              exact ⟨by rw [← ht], ((Below.refl _ _).drew).trans b⟩
            have LP : ∀ W, Below w6.heap.size w6 W → (Instr.loadAt 65 (.pointer (some ⟨g, 0 + 7 * k, none⟩))).run Tryz.prog W = .ok q0.a W := fun W b => RowT.ld RSp_is QO.1 (rangeAt_keep hqr (b.block g hgl))
            have LQ : ∀ W, Below w6.heap.size w6 W → (Instr.loadAt 65 (.pointer (some ⟨wr.heap.size, 0, none⟩))).run Tryz.prog W = .ok (SpV.a ⟨x, y, nm, c.v⟩) W := fun W b => RowT.ld RSp_is HPO.out.1 (RowT.Bx.rng (HB6.out.below b))
            have hge : decide ((k : Int) ≥ 0) = true := decide_eq_true (by omega)
            clear hqr QO
            go_upto_region 11 with fail
            refine run11t (g := g) (n := k + 1) (c := cap) (m := k) (eb := wr.heap.size) (p := q0) (q := ⟨x, y, nm, c.v⟩) (r := t) (fun W => Below w6.heap.size w6 W) _ w6 _ rfl eu2 rfl rfl ((Below.refl _ _).drew) (by omega) k64 hge LP LQ CC ?_
            intro a' w7 b7 ha
            subst ha
            simp only [Act.put, qsA, qsB, qsC]
            clear LP LQ CC hge
            have I7 := I6.out.below (Nat.le_trans bwr B6) b7
            have B7 := HB6.out.below b7
            have Z7 : wr.heap.size ≤ w7.heap.size := Nat.le_trans B6 b7.size
            cases t with
            | true =>
              rw [if_pos (of_decide_eq_true ht)] at RS
              obtain ⟨w8, g1, g2⟩ := hst w7 b7
              have NI := hidMk (show RnS C nm w.heap.size pb P H X (i + 1) u4 w w8 by unfold RnS; rw [NS.out, RS]; exact g2 (Nat.le_trans bwr B6))
              have LY := sp_to B7
              clear g2 hst I7
              go_upto_region 12 with fail
              refine run12 (g := g) (n := k + 1) (c := cap) (m := k) (eb := wr.heap.size) (y := y) (w1 := w8) _ w7 _ rfl eu2 rfl rfl (by omega) k64 LY g1 ?_
              intro a' w3 hw ha
              obtain rfl : w8 = w3 := hw.symm
              subst ha
              simp only [Act.put, qsA, qsB, qsC]
              clear LY g1
              have hm64 : m ≤ 9223372036854775807 := by have := HK.out; omega
              go_wp2
              rw [show ((i : Int) + 1) = ((i + 1 : Nat) : Int) by omega]
              exact ⟨⟨i + 1, rfl, HH.out, NI⟩, HMS.out⟩
            | false =>
              rw [if_neg (of_decide_eq_false ht)] at RS
              clear hst
              obtain ⟨sv, y1, v2, y2, g1, g2, IP⟩ := RnI.push (I7) (Nat.le_trans bwr Z7) HPO.out.1 LLp
              have LQ := RowT.ld RSp_is HPO.out.1 (RowT.Bx.rng B7)
              have NI := hidMk (show RnS C nm w.heap.size pb P H X (i + 1) v2 w y2 by unfold RnS; rw [NS.out, RS]; exact IP)
              clear IP
              go_upto_region 13 with fail
              refine run13 (eb := wr.heap.size) (q := ⟨x, y, nm, c.v⟩) (lv := u4) (sv := sv) (v2 := v2) (w1 := y1) (w2 := y2) _ w7 _ rfl rfl rfl LQ g1 g2 ?_
              intro a' w3 hw ha
              obtain rfl : y2 = w3 := hw.symm
              subst ha
              simp only [Act.put, qsA, qsB, qsC]
              clear LQ g1 g2
              have hm64 : m ≤ 9223372036854775807 := by have := HK.out; omega
              go_wp2
              rw [show ((i : Int) + 1) = ((i + 1 : Nat) : Int) by omega]
              exact ⟨⟨i + 1, rfl, HH.out, NI⟩, HMS.out⟩
    · have h' : ¬ ((i : Int) < (m : Int)) := by omega
      obtain rfl : i = m := by omega
      go_wp2
      go_ret
      have hI := HI.out
      refine ⟨_, rfl, ?_, hI.bel⟩
      have := hI.row
      unfold runsL
      rw [HM.out]
      exact this
theorem cvN_snoc (E : List Elt) (L : List MkV) (x : MkV) (nm : ByteArray) : cvN E (L ++ [x]) nm = cvN E L nm ++ (if (cvE E x).fr < (cvE E x).to ∧ nm = x.nm then [cvE E x] else []) := by
  unfold cvN cvL
  rw [List.map_append, List.filter_append, List.filter_append]
  congr 1
  by_cases h : (cvE E x).fr < (cvE E x).to
  · by_cases e : nm = x.nm
    · have e2 : (cvE E x).nm = nm := e.symm
      rw [if_pos ⟨h, e⟩]
      simp [h, e2]
    · have e2 : ¬ (cvE E x).nm = nm := fun q => e q.symm
      rw [if_neg (fun q => e q.2)]
      simp [h, e2]
  · rw [if_neg (fun q => h q.1)]
    simp [h]
theorem cvN_len (E : List Elt) (L : List MkV) (nm : ByteArray) : (cvN E L nm).length ≤ L.length := by
  unfold cvN cvL
  refine Nat.le_trans (List.length_filter_le _ _) (Nat.le_trans (List.length_filter_le _ _) ?_)
  rw [List.length_map]
  exact Nat.le_refl _
theorem cvN_mem {E : List Elt} {L : List MkV} {nm : ByteArray} {c : SpV} (h : c ∈ cvN E L nm) : ∃ x ∈ L, c = cvE E x := by
  unfold cvN cvL at h
  obtain ⟨x, hx, e⟩ := List.mem_map.1 (List.mem_filter.1 (List.mem_filter.1 h).1).1
  exact ⟨x, hx, e.symm⟩
theorem cvE_ok {w : World} {s : Sx} {E : List Elt} (h : SeqAt w s E) {x : MkV} (hx : x.ok) : (cvE E x).ok := by
  have b := cv_bd h.lk.ok x
  have n : (visE E true).length ≤ E.length := List.length_filter_le _ _
  have f := h.few
  exact ⟨by omega, by omega, by omega, by omega, hx.nm, hx.v⟩
theorem zeroSl (w : World) : (zeroValue 49).run Tryz.prog w = .ok (.slice none 0 0) w := by kernel_rfl
structure CmAt (W : World) (base fm : Nat) (D : List (ByteArray × Value)) (F : ByteArray → List SpV) : Prop where
  m : M.MapAt W fm tx txOk D
  rows : ∀ k v, M.look D k = some v → RSp.Own W base v (F k) ∧ F k ≠ []
  nil : ∀ k, M.look D k = none → F k = []
  ds : ∀ k1 v1 k2 v2 j, M.look D k1 = some v1 → M.look D k2 = some v2 → k1 ≠ k2 → v1.ownBlock = some j → v2.ownBlock ≠ some j
  fb : base ≤ fm
section
variable {W W' : World} {base fm : Nat} {D : List (ByteArray × Value)} {F : ByteArray → List SpV}
theorem CmAt.below (h : CmAt W base fm D F) (b : Below W.heap.size W W') : CmAt W' base fm D F :=
  ⟨h.m.below (b.block _ h.m.lt), fun k v e => ⟨(h.rows k v e).1.below b, (h.rows k v e).2⟩, h.nil, h.ds, h.fb⟩
theorem CmAt.new (w : World) : (Instr.makeMap 117 none).run Tryz.prog w = .ok (.map (some w.heap.size)) (w.alloc (.map #[] 0)) ∧ CmAt (w.alloc (.map #[] 0)) w.heap.size w.heap.size [] (fun _ => []) ∧ Below w.heap.size w (w.alloc (.map #[] 0)) :=
  ⟨by simp [Instr.makeMap, run_underlying Tryz.underlying117], ⟨M.MapAt.new w tx txOk, fun k v e => (by cases e), fun _ _ => rfl, fun _ _ _ _ _ e => (by cases e), Nat.le_refl _⟩, (Below.refl _ _).alloc (Nat.le_refl _) _⟩
def uV (D : List (ByteArray × Value)) (k : ByteArray) : Value := (M.look D k).getD (.slice none 0 0)
theorem CmAt.lookr (h : M.MapAt W fm tx txOk D) {k : ByteArray} (hk : txOk k) : (Instr.lookup 117 (.map (some fm)) (.string k) false).run Tryz.prog W = .ok (uV D k) W := by
  have := M.run_look txKey Tryz.underlying117 h k hk (zeroSl W) false
  rw [show (Value.string k) = tx k from rfl, this]
  rfl
theorem CmAt.own (h : CmAt W base fm D F) (k : ByteArray) : RSp.Own W base (uV D k) (F k) := by
  unfold uV
  cases e : M.look D k with
  | none => rw [h.nil k e]; exact RowT.own_nil _ _ _
  | some v => exact (h.rows k v e).1
theorem CmAt.push (h : CmAt W base fm D F) (hb : base ≤ W.heap.size) {k : ByteArray} (hk : txOk k) {x : SpV} (hx : x.ok) (hl : (F k).length + 1 ≤ 2000000000000) :
    ∃ sv w1 v2 w2 w3, (Instr.buildSlice 49 1 #[(0, x.a)]).run Tryz.prog W = .ok sv w1 ∧ Below W.heap.size W w1 ∧ (Builtin.append_ #[49, 49] 49 #[uV D k, sv]).run Tryz.prog w1 = .ok v2 w2 ∧ (∀ j, j < W.heap.size → (uV D k).ownBlock ≠ some j → w2.heap[j]? = W.heap[j]?) ∧ M.MapAt w2 fm tx txOk D ∧ (Instr.mapUpdate 117 (.map (some fm)) (.string k) v2).run Tryz.prog w2 = .ok () w3 ∧ Below base W w3 ∧ CmAt w3 base fm (M.put D k v2) (fun k' => if k' = k then F k ++ [x] else F k') := by
  have ho := h.own k
  obtain ⟨u, hu⟩ : ∃ u, uV D k = u := ⟨_, rfl⟩
  rw [hu] at ho ⊢
  obtain ⟨sv, w1, v', w2, e1, e2, o, b1, z1, g, q⟩ := RowT.run_push RSp_is W base u (F k) x ho hx (by unfold maxLen; omega) (by show _ * 72 ≤ _; omega) hb
  have no : ∀ j, u.ownBlock = some j → base ≤ j ∧ ∃ c, W.heap[j]? = some (.cells c RSp.e (0, 0)) := fun j hj => ho.cells hj
  have k2 : ∀ j, j < W.heap.size → u.ownBlock ≠ some j → w2.heap[j]? = W.heap[j]? := fun j hj hn => (g.block j (Nat.lt_of_lt_of_le hj b1.size) (fun e => hn e.symm)).trans (b1.block j hj)
  obtain ⟨⟨es, ck, hfm, _⟩, _⟩ := h.m
  have nf : u.ownBlock ≠ some fm := fun e => by
    obtain ⟨_, c, hc⟩ := no fm e
    rw [hfm] at hc; cases hc
  have m2 : M.MapAt w2 fm tx txOk D := h.m.below (k2 fm h.m.lt nf)
  obtain ⟨ob, ep, mp⟩ := M.run_put (P := Tryz.prog) (w := w2) txKey Tryz.underlying117 m2 k hk v'
  have lk := M.put_look D k v' h.m.2.1
  have vf : v'.ownBlock ≠ some fm := fun e => by
    rcases q with q | q
    · rw [q] at e; exact nf e
    · rw [q] at e
      have := h.m.lt
      cases e
      have := b1.size
      omega
  have o3 : RSp.Own (M.setM w2 fm ob) base v' (F k ++ [x]) := o.keep (fun j hj => M.setM_other _ (fun e => vf (by rw [← e]; exact hj)))
  have dsu : ∀ kk v2 j, M.look D kk = some v2 → kk ≠ k → v2.ownBlock = some j → u.ownBlock ≠ some j := fun kk v2 j e hne hj hu2 => by
    unfold uV at hu
    cases el : M.look D k with
    | none => rw [el] at hu; subst hu; cases hu2
    | some v =>
      rw [el] at hu
      have hu' : v = u := by rw [Option.getD_some] at hu; exact hu
      subst hu'
      exact h.ds kk v2 k v j e el hne hj hu2
  have dsv : ∀ kk v2 j, M.look D kk = some v2 → kk ≠ k → v2.ownBlock = some j → v'.ownBlock ≠ some j := fun kk v2 j e hne hj hv => by
    rcases q with q | q
    · rw [q] at hv; exact dsu kk v2 j e hne hj hv
    · rw [q] at hv
      cases hv
      have := (h.rows kk v2 e).1.lt hj
      have := b1.size
      omega
  refine ⟨sv, w1, v', w2, M.setM w2 fm ob, e1, b1, e2, k2, m2, ep, ?_, mp, fun k' v e => ?_, fun k' e => ?_, fun k1 v1 k3 v3 j a1 a3 hne hj => ?_, h.fb⟩
  · exact M.setM_below _ ((b1.mono hb).trans ((Below.refl _ _).grown g (Nat.le_trans hb b1.size) (fun k e => (no k e).1))) h.fb
  · rw [lk k'] at e
    by_cases hc : k' = k
    · rw [if_pos hc] at e ⊢
      cases e
      exact ⟨o3, by simp⟩
    · rw [if_neg hc] at e ⊢
      obtain ⟨r1, r2⟩ := h.rows k' v e
      refine ⟨r1.keep (fun j hj => ?_), r2⟩
      have nj : j ≠ fm := fun e2 => by
        obtain ⟨_, c, hcc⟩ := r1.cells hj
        rw [e2, hfm] at hcc; cases hcc
      rw [M.setM_other _ nj]
      exact k2 j (r1.lt hj) (dsu k' v j e hc hj)
  · rw [lk k'] at e
    by_cases hc : k' = k
    · rw [if_pos hc] at e; cases e
    · rw [if_neg hc] at e ⊢
      exact h.nil k' e
  · rw [lk k1] at a1
    rw [lk k3] at a3
    by_cases h1 : k1 = k
    · rw [if_pos h1] at a1
      cases a1
      have h3 : k3 ≠ k := fun e => hne (by rw [h1, e])
      rw [if_neg h3] at a3
      exact fun e => dsv k3 v3 j a3 h3 e hj
    · rw [if_neg h1] at a1
      by_cases h3 : k3 = k
      · rw [if_pos h3] at a3
        cases a3
        exact dsv k1 v1 j a1 h1 hj
      · rw [if_neg h3] at a3
        exact h.ds k1 v1 k3 v3 j a1 a3 hne hj
end
attribute [local go_sem] Oper.semAt_some
def CvS (w : World) (fm : Nat) (E : List Elt) (L : List MkV) (W : World) : Prop := ∃ D, CmAt W w.heap.size fm D (fun nm => cvN E L nm) ∧ Below w.heap.size w W
theorem CvS.skip {w W W' : World} {fm : Nat} {E : List Elt} {L : List MkV} {x : MkV} (h : CvS w fm E L W) (b : Below W.heap.size W W') (hx : ¬ (cvE E x).fr < (cvE E x).to) : CvS w fm E (L ++ [x]) W' := by
  obtain ⟨D, c, bl⟩ := h
  refine ⟨D, ?_, bl.trans (b.mono bl.size)⟩
  rw [show (fun nm => cvN E (L ++ [x]) nm) = fun nm => cvN E L nm from funext fun nm => by rw [cvN_snoc, if_neg (fun q => hx q.1), List.append_nil]]
  exact c.below b
theorem cvN_put {E : List Elt} {L : List MkV} {x : MkV} (hx : (cvE E x).fr < (cvE E x).to) : (fun nm => cvN E (L ++ [x]) nm) = fun k' => if k' = x.nm then cvN E L x.nm ++ [cvE E x] else cvN E L k' := by
  funext nm
  rw [cvN_snoc]
  by_cases h : nm = x.nm
  · rw [if_pos ⟨hx, h⟩, if_pos h, h]
  · rw [if_neg (fun q => h q.2), if_neg h, List.append_nil]
theorem CvS.more {w W : World} {fm : Nat} {E : List Elt} {L : List MkV} {x : MkV} {p : SpV} {D : List (ByteArray × Value)} (hp : cvE E x = p) (hl : (cvE E x).fr < (cvE E x).to) (c : CmAt W w.heap.size fm D (fun k' => if k' = x.nm then cvN E L x.nm ++ [p] else cvN E L k')) (b : Below w.heap.size w W) : CvS w fm E (L ++ [x]) W := by
  subst hp
  rw [← cvN_put hl] at c
  exact ⟨D, c, b⟩
set_option maxHeartbeats 8000000 in
theorem covers_any {w : World} {s : Sx} {E : List Elt} {base : Nat} {m : Mx} (h : SeqAt w s E) (hm : MkAt w base m) :
    Calls Tryz.prog 63 #[.pointer (some ⟨m.mb, 0, none⟩), .pointer (some ⟨s.sb, 0, none⟩)] w fun e w' => ∃ fm, e = .returned (.map (some fm)) ∧ CvS w fm E m.L w' := by
  obtain ⟨E1, C1, b1⟩ := CmAt.new w
  obtain ⟨w1, hw1⟩ : ∃ w1, w.alloc (.map #[] 0) = w1 := ⟨_, rfl⟩
  rw [hw1] at E1 C1 b1
  obtain ⟨la, lc, elv, hat⟩ := hm.lvS
  have LL := (hm.below b1).ldl
  rw [elv] at LL
  have HH := hidMk (fun (W : World) (b : Below w.heap.size w W) => h.below b)
  have HOK := hidMk (fun x hx => cvE_ok (x := x) h hx)
  have RN := hidMk (fun x => reach_nat h.lk.ok x)
  have FEW := hidMk h.few
  have HAT := hidMk (fun (W : World) (b : Below w.heap.size w W) => hat.below b)
  have MOK := hidMk hm.ok
  obtain ⟨n, hn⟩ : ∃ n, m.L.length = n := ⟨_, rfl⟩
  have HN := hidMk (show m.L.length = n ∧ n ≤ 900000000000 from ⟨hn, by rw [← hn]; exact hm.n⟩)
  rw [hn] at LL
  obtain ⟨fm, hfm⟩ : ∃ fm, w.heap.size = fm := ⟨_, rfl⟩
  have I0 := hidMk (show CvS w fm E (m.L.take 0) w1 from ⟨[], by rw [← hfm]; exact C1, b1⟩)
  rw [hfm] at E1
  clear hw1 C1 b1 elv hat h hm hn hfm
  go_enter Tryz.func63, Tryz.ntmps63
  go_upto_region 1 with fail
  refine cvr1 (fm := fm) (w1 := w1) _ w _ rfl E1 ?_
  intro a' w3 hw ha
  obtain rfl : w1 = w3 := hw.symm
  subst ha
  simp only [Act.put, qsA, qsB, qsC]
  clear E1
  go_upto_region 2 with fail
  refine cvr2 (mb := m.mb) (n := n) (c := lc) (la := la) _ w1 _ rfl rfl LL ?_
  intro a' w3 hw ha
  obtain rfl : w1 = w3 := hw.symm
  subst ha
  simp only [Act.put, qsA, qsB, qsC]
  clear LL
  go_wp2
  go_loopw [17] (fun v17 wr => ∃ i : Nat, v17 = .int .i64 (i : Int) ∧ i ≤ n ∧ Hid (CvS w fm E (m.L.take i) wr)) (fun v17 _ => n - (intOf v17).toNat)
  case atStart => exact ⟨0, rfl, Nat.zero_le _, I0⟩
  case round =>
    clear I0
    obtain ⟨i, rfl, hi, HI⟩ := hrel
    by_cases h : i < n
    · have h' : (i : Int) < (n : Int) := by omega
      have hn64 : n ≤ 9223372036854775807 := by have := HN.out; omega
      obtain ⟨x, hx⟩ : ∃ x, m.L[i]? = some x := ⟨_, List.getElem?_eq_getElem (by have := HN.out; omega)⟩
      have MX := hidMk (MOK.out x (List.mem_of_getElem? hx))
      have TK := hidMk (show m.L.take (i + 1) = m.L.take i ++ [x] by rw [List.take_add_one, hx]; rfl)
      have MS := hidMk (show n - (((i + 1 : Nat) : Int)).toNat < n - ((i : Nat) : Int).toNat by simp only [Int.toNat_natCast]; omega)
      have HH1 := hidMk h
      obtain ⟨D, HC, hbl⟩ : ∃ D, Hid (CmAt wr w.heap.size fm D (fun nm => cvN E (m.L.take i) nm)) ∧ Hid (Below w.heap.size w wr) := by
        obtain ⟨D, c, b⟩ := HI.out
        exact ⟨D, hidMk c, hidMk b⟩
      obtain ⟨g, o, rfl, _, hr⟩ := (HAT.out wr hbl.out).get (i := i) (by have := HN.out; omega)
      have hr' : wr.rangeAt g (o + 105 * i) x.c := by
        have e : m.L[i]'(by have := HN.out; omega) = x := (List.getElem?_eq_some_iff.1 hx).2
        rw [e] at hr; exact hr
      have LX := RowT.ld RM_is MX.out.1 hr'
      have EA := RowT.bx_zero RM_is wr
      have ES := RowT.bx_new RM_is wr MX.out.1
      obtain ⟨hbx, hbb⟩ := RowT.bx_is RM wr x
      clear hr hr' hx
      go_upto_region 4 with fail
      refine cvr4 (g := g) (o := o) (n := n) (c := lc) (i := i) (eb := wr.heap.size) (x := x) _ wr _ rfl rfl rfl h hn64 LX EA ES ?_
      intro a' w3 hw ha
      subst ha
      rw [← hw] at hbx hbb
      obtain ⟨w4, hw4⟩ : ∃ w4, w3 = w4 := ⟨_, rfl⟩
      rw [hw4] at hbx hbb ⊢
      simp only [Act.put, qsA, qsB, qsC]
      clear LX EA ES hw hw4
      obtain ⟨f, t, hft, hf, ht⟩ := RN.out x
      have b4 := hbl.out.trans (hbb.mono hbl.out.size)
      have RC := hidMk (reach_any (HH.out w4 b4) MX.out.1 MX.out.2 hbx)
      have HFT := hidMk hft
      have HB4 := hidMk (And.intro hbx hbb)
      have hF := hidMk (show cvE E x = ⟨idxE E (f : Int), idxE E (t : Int), x.nm, x.v⟩ by unfold cvE; rw [hft])
      rw [hft] at RC
      clear hbx hbb b4 hft
      go_upto_region 5 with fail
      refine cvr5 (sb := s.sb) (eb := wr.heap.size) (f := (f : Int)) (t := (t : Int)) (fun W => Below w4.heap.size w4 W) _ w4 _ rfl rfl rfl RC.out ?_
      intro a' w5 b5 ha
      subst ha
      simp only [Act.put, qsA, qsB, qsC]
      clear RC
      have hb05 : Below wr.heap.size wr w5 := HB4.out.2.trans (b5.mono HB4.out.2.size)
      have hbx5 := HB4.out.1.below b5
      have B05 := hidMk hb05
      have BX5 := hidMk hbx5
      clear hb05 hbx5 b5 HB4
      have hfe := FEW.out
      have H5 : ∀ W, Below w5.heap.size w5 W → SeqAt W s E := fun W b => HH.out W ((hbl.out.trans (B05.out.mono hbl.out.size)).trans (b.mono (Nat.le_trans hbl.out.size B05.out.size)))
      have IX : ∀ (r : Nat), r ≤ E.length → ∀ W, Below w5.heap.size w5 W → Calls Tryz.prog 55 #[.pointer (some ⟨s.sb, 0, none⟩), .int .i64 (r : Int)] W fun e w1 => e = .returned (.int .i64 (idxE E (r : Int))) ∧ Below W.heap.size W w1 := fun r hr W b => index_at_any (H5 W b) (by omega)
      have okp := HOK.out x MX.out.1
      rw [hF.out] at okp
      have IF := IX f hf
      have IT := IX t ht
      clear IX H5 hfe
      obtain ⟨fi, hfi⟩ : ∃ fi, idxE E (f : Int) = fi := ⟨_, rfl⟩
      obtain ⟨ti, hti⟩ : ∃ ti, idxE E (t : Int) = ti := ⟨_, rfl⟩
      rw [hfi] at IF okp hF
      rw [hti] at IT okp hF
      clear hfi hti
      go_upto_region 6 with fail
      refine cvr6 (sb := s.sb) (eb := wr.heap.size) (f := (f : Int)) (t := (t : Int)) (fi := fi) (ti := ti) (x := x) (fun W => Below w5.heap.size w5 W) (fun pb W => Below w5.heap.size w5 W ∧ w5.heap.size ≤ pb ∧ RSp.Bx W pb zSp7) (fun pb W => Below w5.heap.size w5 W ∧ w5.heap.size ≤ pb ∧ RSp.Bx W pb ⟨fi, ti, x.nm, x.v⟩) _ w5 _ rfl rfl rfl rfl rfl ((Below.refl _ _).drew) (fun _ _ h => h.1) (fun _ _ h => h.1) (fun W b => mk_nm MX.out.1 (RowT.Bx.rng (BX5.out.below b))) (fun W b => mk_v MX.out.1 (RowT.Bx.rng (BX5.out.below b)))
        (fun W b => (IF W b).mono fun e W1 q => ⟨q.1, b.trans (q.2.mono b.size)⟩) (fun W b => (IT W b).mono fun e W1 q => ⟨q.1, b.trans (q.2.mono b.size)⟩)
        (fun pb W b => (IF W b.1).mono fun e W1 q => ⟨q.1, b.1.trans (q.2.mono b.1.size), b.2.1, b.2.2.below q.2⟩) (fun pb W b => (IT W b.1).mono fun e W1 q => ⟨q.1, b.1.trans (q.2.mono b.1.size), b.2.1, b.2.2.below q.2⟩)
        (fun W b => ⟨_, _, RowT.bx_zero RSp_is W, b.trans ((RowT.bx_is RSp W zSp7).2.mono b.size), b.size, (RowT.bx_is RSp W zSp7).1⟩)
        (fun pb W b => ⟨_, RowT.bx_store RSp_is zSp7_ok okp b.2.2, b.1.trans (set_below _ b.1.size b.2.1), b.2.1, setRow_heap W pb _ _ _ _ b.2.2⟩) ?_ ?_ ?_
      all_goals
        rintro pb a' w6 ⟨b6, hpb, hb6⟩ ha
        subst ha
        simp only [Act.put, qsA, qsB, qsC]
        have b06 : Below wr.heap.size wr w6 := B05.out.trans (b6.mono B05.out.size)
        have bx6 := BX5.out.below b6
        have PB := hidMk (Nat.le_trans B05.out.size hpb)
        have PL := hidMk (Array.getElem?_eq_some_iff.1 hb6).1
        obtain ⟨r, hr⟩ : ∃ r, decide (fi < ti) = r := ⟨_, rfl⟩
        have L1 := sp_fr hb6
        have L2 := sp_to hb6
        have B06 := hidMk b06
        have BX6 := hidMk bx6
        have HB6 := hidMk hb6
        clear b6 hpb hb6 b06 bx6
        go_upto_region 7 with fail
        refine cvr7 (eb := pb) (p := ⟨fi, ti, x.nm, x.v⟩) (r := r) _ w6 _ rfl rfl hr L1 L2 ?_
        intro a' w3 hw ha
        obtain rfl : w6 = w3 := hw.symm
        subst ha
        simp only [Act.put, qsA, qsB, qsC]
        clear L1 L2
        have H := HH1.out
        cases r with
        | false =>
          have NI := hidMk (show CvS w fm E (m.L.take (i + 1)) w6 by
            rw [TK.out]
            exact CvS.skip HI.out B06.out (by rw [hF.out]; exact of_decide_eq_false hr))
          clear HI HC
          go_wp2
          rw [show ((i : Int) + 1) = ((i + 1 : Nat) : Int) by omega]
          exact ⟨⟨i + 1, rfl, H, NI⟩, MS.out⟩
        | true =>
          have B6d : Below wr.heap.size wr w6.drew := B06.out.trans ((Below.refl _ _).drew)
          have C6 := HC.out.below B6d
          have ltp : (cvE E x).fr < (cvE E x).to := by rw [hF.out]; exact of_decide_eq_true hr
          have nmk : txOk x.nm := MX.out.1.nm
          have lnk : (cvN E (m.L.take i) x.nm).length + 1 ≤ 2000000000000 := by
            have := cvN_len E (m.L.take i) x.nm
            rw [List.length_take] at this
            have := HN.out
            omega
          obtain ⟨sv, y1, v2, y2, y3, g1, bb1, g2, k2, m2, g3, b3, C7⟩ := C6.push (Nat.le_trans hbl.out.size B6d.size) nmk okp lnk
          have NI := hidMk (show CvS w fm E (m.L.take (i + 1)) y3 by
            rw [TK.out]
            exact CvS.more hF.out ltp C7 ((hbl.out.trans (B6d.mono hbl.out.size)).trans b3))
          have ow : ∀ j, (uV D x.nm).ownBlock = some j → j < wr.heap.size := fun j hj => (HC.out.own x.nm).lt hj
          have ne1 : (uV D x.nm).ownBlock ≠ some wr.heap.size := fun e => Nat.lt_irrefl _ (ow _ e)
          have ne2 : (uV D x.nm).ownBlock ≠ some pb := fun e => Nat.lt_irrefl _ (Nat.lt_of_lt_of_le (ow _ e) PB.out)
          have X6 : RM.Bx w6.drew wr.heap.size x := BX6.out
          have P6 : RSp.Bx w6.drew pb ⟨fi, ti, x.nm, x.v⟩ := HB6.out
          have l1 := (Array.getElem?_eq_some_iff.1 X6).1
          have l2 := (Array.getElem?_eq_some_iff.1 P6).1
          have S2 : M.MapAt y2 fm tx txOk D ∧ RM.Bx y2 wr.heap.size x ∧ RSp.Bx y2 pb ⟨fi, ti, x.nm, x.v⟩ := ⟨m2, (k2 _ l1 ne1).trans X6, (k2 _ l2 ne2).trans P6⟩
          have S1 : M.MapAt y1 fm tx txOk D ∧ RM.Bx y1 wr.heap.size x ∧ RSp.Bx y1 pb ⟨fi, ti, x.nm, x.v⟩ := ⟨C6.m.below (bb1.block _ C6.m.lt), X6.below bb1, P6.below bb1⟩
          have S0 : M.MapAt w6.drew fm tx txOk D ∧ RM.Bx w6.drew wr.heap.size x ∧ RSp.Bx w6.drew pb ⟨fi, ti, x.nm, x.v⟩ := ⟨C6.m, X6, P6⟩
          clear HI HC B6d C6 ltp lnk bb1 k2 m2 b3 C7 ow ne1 ne2 X6 P6 l1 l2 B06 BX6 HB6
          go_upto_region 8 with fail
          refine cvr8 (fm := fm) (eb := wr.heap.size) (sb := pb) (p := ⟨fi, ti, x.nm, x.v⟩) (x := x) (u := uV D x.nm) (sv := sv) (v2 := v2) (w1 := y1) (w2 := y2) (w3 := y3) (fun W => M.MapAt W fm tx txOk D ∧ RM.Bx W wr.heap.size x ∧ RSp.Bx W pb ⟨fi, ti, x.nm, x.v⟩) _ w6 _ rfl rfl rfl rfl S0 (fun W q => mk_nm MX.out.1 (RowT.Bx.rng q.2.1)) (fun W q => RowT.ld RSp_is okp (RowT.Bx.rng q.2.2)) (fun W q => CmAt.lookr q.1 nmk) g1 S1 g2 S2 g3 ?_
          intro a' w3 hw ha
          obtain rfl : y3 = w3 := hw.symm
          subst ha
          simp only [Act.put, qsA, qsB, qsC]
          clear g1 g2 g3 S0 S1 S2
          go_wp2
          rw [show ((i : Int) + 1) = ((i + 1 : Nat) : Int) by omega]
          exact ⟨⟨i + 1, rfl, H, NI⟩, MS.out⟩
    · have h' : ¬ ((i : Int) < (n : Int)) := by omega
      obtain rfl : i = n := by omega
      go_wp2
      go_ret
      refine ⟨_, rfl, ?_⟩
      have := HI.out
      rw [List.take_of_length_le (by have := HN.out; omega)] at this
      exact this
end Go.Proofs.YtifendlpeebofaaGreatDoor
namespace Go.Proofs.YtifendlpeebofaaGreatDoor
open Go.RowKit
def spn5f_ops : Array Oper := (⟨_, rfl⟩ : {o // some o = rgB Tryz.f25 5}).1
theorem spn5f {rb : Nat} (a : Act) (w : World) (Q : Exit → Act → World → Prop) (zz : a.tmps.size = 25)
    (t13 : a.tmps.getD 13 undef = .pointer (some ⟨rb, 0, none⟩))
    (EN : (Instr.next (.pointer (some ⟨rb, 0, none⟩)) false 0).run Tryz.prog w = .ok (.tuple #[.bool false]) w)
    (h : ∀ a' w', w' = w → a' = (a.put (some 14) (.tuple #[.bool false])).put (some 15) (.bool false) → Q .normal a' w') :
    (Code.region 5 spn5f_ops false).wp Tryz.prog Q a w := by
  refine z0 rfl ?_
  refine zv (v := .tuple #[.bool false]) rfl (exec_nextM rfl (zi t13 rfl) EN) ?_
  refine zv rfl (exec_extract rfl (zg zz rfl) rfl) ?_
  exact ze rfl (h _ _ (rfl) rfl)
theorem spn5t {rb : Nat} {kx vx : Value} {w1 : World} (a : Act) (w : World) (Q : Exit → Act → World → Prop) (zz : a.tmps.size = 25)
    (t13 : a.tmps.getD 13 undef = .pointer (some ⟨rb, 0, none⟩))
    (EN : (Instr.next (.pointer (some ⟨rb, 0, none⟩)) false 0).run Tryz.prog w = .ok (.tuple #[.bool true, kx, vx]) w1)
    (h : ∀ a' w', w' = w1 → a' = (a.put (some 14) (.tuple #[.bool true, kx, vx])).put (some 15) (.bool true) → Q .normal a' w') :
    (Code.region 5 spn5f_ops false).wp Tryz.prog Q a w := by
  refine z0 rfl ?_
  refine zv (v := .tuple #[.bool true, kx, vx]) rfl (exec_nextM rfl (zi t13 rfl) EN) ?_
  refine zv rfl (exec_extract rfl (zg zz rfl) rfl) ?_
  exact ze rfl (h _ _ (rfl) rfl)
def spn6_ops : Array Oper := (⟨_, rfl⟩ : {o // some o = rgB Tryz.f25 6}).1
theorem spn6 {rb : Nat} {kx vx : Value} (a : Act) (w : World) (Q : Exit → Act → World → Prop) (zz : a.tmps.size = 25)
    (t13 : a.tmps.getD 13 undef = .pointer (some ⟨rb, 0, none⟩))
    (EE : (Instr.entry (.pointer (some ⟨rb, 0, none⟩))).run Tryz.prog w = .ok (.tuple #[kx, vx]) w)
    (h : ∀ a' w', w' = w → a' = ((a.put (some 16) (.tuple #[kx, vx])).put (some 17) (vx)).put (some 7) (vx) → Q .normal a' w') :
    (Code.region 6 spn6_ops false).wp Tryz.prog Q a w := by
  refine z0 rfl ?_
  refine zv (v := .tuple #[kx, vx]) rfl (exec_entryM rfl (zi t13 rfl) EE) ?_
  refine zv rfl (exec_extract rfl (zg zz rfl) rfl) ?_
  refine zv rfl (xas rfl (zg zz rfl)) ?_
  exact ze rfl (h _ _ (rfl) rfl)
def spn8_ops : Array Oper := (⟨_, rfl⟩ : {o // some o = rgB Tryz.f25 8}).1
theorem spn8 {lv : Value} (Fin : World → Prop) (a : Act) (w : World) (Q : Exit → Act → World → Prop) (zz : a.tmps.size = 25)
    (t5 : a.tmps.getD 5 undef = lv)
    (CC : Calls Tryz.prog 57 #[lv] w fun e w' => e = .returned (.tuple #[]) ∧ Fin w')
    (h : ∀ a' w', Fin w' → a' = (a.put (some 22) (lv)).put (some 23) (.tuple #[]) → Q .normal a' w') :
    (Code.region 8 spn8_ops false).wp Tryz.prog Q a w := by
  refine z0 rfl ?_
  refine zv rfl (xmv rfl (zi t5 rfl)) ?_
  refine zc rfl (exec_c1 rfl (zg zz rfl)) (CC) (fun e x1 hx => ?_)
  obtain ⟨rfl, HF⟩ := hx
  refine ⟨_, rfl, ?_⟩
  exact ze rfl (h _ _ (HF) rfl)
end Go.Proofs.YtifendlpeebofaaGreatDoor
namespace Go.Proofs.YtifendlpeebofaaGreatDoor.M
open Go.RowKit Go.ChangeMaps
section
variable {P : Program} {κ : Type}
def kv (e : MapEntry) : Value × Value := (e.key, e.val)
def Iter (w : World) (b r : Nat) (enc : κ → Value) (E T : List (κ × Value)) : Prop :=
  ∃ es clock since seen c0, w.heap[b]? = some (.map es clock) ∧ es.toList.map (fun e => (e.key, e.val)) = E.map (fun p => (enc p.1, p.2)) ∧ Stamps (es.toList.map (·.born)) clock ∧
    w.heap[r]? = some (.mapIter (some b) since seen c0) ∧ (∀ x ∈ es.toList, x.born < since) ∧ since ≤ c0 ∧ since ≤ clock ∧ (leftOf es seen).toList.map (fun e => (e.key, e.val)) = T.map (fun p => (enc p.1, p.2))
def Now (w : World) (b r : Nat) (x y : Value) : Prop :=
  ∃ (es : Array MapEntry) (clock since : Nat) (seen : Array Nat) (e : MapEntry), w.heap[r]? = some (.mapIter (some b) since (seen.push e.born) clock) ∧ w.heap[b]? = some (.map es clock) ∧ e ∈ es.toList ∧ (es.toList.map (·.born)).Nodup ∧ e.key = x ∧ e.val = y
theorem Iter.same {w w' : World} {b r : Nat} {enc : κ → Value} {E T : List (κ × Value)} (h : Iter w b r enc E T) (hb : w'.heap[b]? = w.heap[b]?) (hr : w'.heap[r]? = w.heap[r]?) : Iter w' b r enc E T := by
  obtain ⟨es, c, s, n, c0, h1, h2, h3, h4, h5⟩ := h
  exact ⟨es, c, s, n, c0, hb.trans h1, h2, h3, hr.trans h4, h5⟩
theorem Now.run {w : World} {b r : Nat} {x y : Value} (h : Now w b r x y) : (Instr.entry (.pointer (some ⟨r, 0, none⟩))).run P w = .ok (.tuple #[x, y]) w := by
  obtain ⟨es, c, s, n, e, h1, h2, h3, h4, rfl, rfl⟩ := h
  exact run_entry_at w r b s n es c e h1 h2 h3 h4
theorem range_any {t k e : TypeId} {w : World} {b : Nat} {enc : κ → Value} {V : κ → Prop} {E : List (κ × Value)} (ht : P.underlying t = some (.map k e)) (h : MapAt w b enc V E) :
    ∃ w', (Instr.range t (.map (some b))).run P w = .ok (.pointer (some ⟨w.heap.size, 0, none⟩)) w' ∧ Iter w' b w.heap.size enc E E ∧ w'.heap.size = w.heap.size + 1 ∧ Below w.heap.size w w' := by
  have hlt := h.lt
  obtain ⟨⟨es, c, hb, he, hs⟩, hn, hV⟩ := h
  refine ⟨_, run_range_map w t k e b es c ht hb, ⟨es, c, c, #[], c, (heap_alloc_old w _ hlt).trans hb, he, hs, heap_alloc_new _ _, fun x hx => hs.1 _ (List.mem_map.2 ⟨x, hx, rfl⟩), Nat.le_refl _, Nat.le_refl _, ?_⟩, by simp, (Below.refl _ _).alloc (Nat.le_refl _) _⟩
  rw [show leftOf es #[] = es by simp [leftOf]]
  exact he
theorem next_any {ty : TypeId} {w : World} {b r : Nat} {enc : κ → Value} {E T : List (κ × Value)} (h : Iter w b r enc E T) :
    (T = [] ∧ (Instr.next (.pointer (some ⟨r, 0, none⟩)) false ty).run P w = .ok (.tuple #[.bool false]) w) ∨
    ∃ A p B w', T = A ++ p :: B ∧ (Instr.next (.pointer (some ⟨r, 0, none⟩)) false ty).run P w = .ok (.tuple #[.bool true, enc p.1, p.2]) w' ∧ Iter w' b r enc E (A ++ B) ∧ Now w' b r (enc p.1) p.2 ∧ Tch (fun j => j = r) w w' ∧ w'.heap.size = w.heap.size := by
  obtain ⟨es, c, since, seen, c0, hb, he, hs, hr, hold, hsc, hc, hl⟩ := h
  have hrl : r < w.heap.size := (Array.getElem?_eq_some_iff.1 hr).1
  have hne : b ≠ r := by
    rintro rfl
    rw [hb] at hr
    cases hr
  rcases run_next_at (P := P) w ty r b since c0 seen es c hr hb hold hsc with ⟨h0, hrun⟩ | ⟨e, hm, w1, hw1, hrun⟩
  · left
    refine ⟨?_, hrun⟩
    have : (leftOf es seen).toList = [] := by rw [← Array.length_toList] at h0; exact List.eq_nil_of_length_eq_zero h0
    rw [this] at hl
    simpa using hl.symm
  · right
    obtain ⟨X, Y, hXY⟩ := List.append_of_mem hm
    rw [hXY, List.map_append, List.map_cons] at hl
    obtain ⟨A, T2, rfl, hA, hT2⟩ := List.map_eq_append_iff.1 hl.symm
    obtain ⟨p, B, rfl, hp, hB⟩ := List.map_eq_cons_iff.1 hT2
    have hk1 : enc p.1 = e.key := (Prod.mk.inj hp).1
    have hk2 : p.2 = e.val := (Prod.mk.inj hp).2
    have hmem : e ∈ es.toList := by
      have : e ∈ leftOf es seen := by simpa using hm
      unfold leftOf at this
      rw [Array.mem_filter] at this
      simpa using this.1
    have hsub : ((leftOf es seen).toList.map (·.born)).Nodup := by
      refine hs.2.sublist (List.Sublist.map _ ?_)
      unfold leftOf
      rw [Array.toList_filter]
      exact List.filter_sublist
    have hlf : (leftOf es (seen.push e.born)).toList = X ++ Y := by
      have e1 : leftOf es (seen.push e.born) = (leftOf es seen).filter (fun x => !(x.born == e.born)) := by
        unfold leftOf
        rw [Array.filter_filter]
        congr 1
        funext x
        cases h1 : (x.born == e.born) <;> cases h2 : seen.contains x.born <;> simp_all [Array.contains_push]
      rw [e1, Array.toList_filter, hXY, List.filter_append, List.filter_cons]
      rw [hXY, List.map_append, List.map_cons] at hsub
      have hd := List.nodup_append.1 hsub
      have hd2 := List.nodup_cons.1 hd.2.1
      rw [if_neg (by simp)]
      congr 1
      · refine List.filter_eq_self.2 fun x hx => ?_
        have := hd.2.2 x.born (List.mem_map.2 ⟨x, hx, rfl⟩) e.born (List.mem_cons_self ..)
        simpa using this
      · refine List.filter_eq_self.2 fun x hx => ?_
        have : x.born ≠ e.born := fun q => hd2.1 (by rw [← q]; exact List.mem_map.2 ⟨x, hx, rfl⟩)
        simpa using this
    have hw : ∀ j : Nat, w1.heap[j]? = w.heap[j]? := fun j => by rcases hw1 with rfl | rfl <;> rfl
    have hsz : w1.heap.size = w.heap.size := by rcases hw1 with rfl | rfl <;> rfl
    have hrr : (setBlock w1 r (.mapIter (some b) since (seen.push e.born) c)).heap[r]? = some (.mapIter (some b) since (seen.push e.born) c) := by
      simp [setBlock, hsz, hrl]
    have ho : ∀ j, j ≠ r → (setBlock w1 r (.mapIter (some b) since (seen.push e.born) c)).heap[j]? = w.heap[j]? := fun j hj => by
      rw [← hw j]
      simp [setBlock, Array.getElem?_setIfInBounds, Ne.symm hj]
    refine ⟨A, p, B, _, rfl, by rw [hk1, hk2]; exact hrun, ⟨es, c, since, _, c, (ho b hne).trans hb, he, hs, hrr, hold, hc, hc, ?_⟩, ⟨es, c, since, seen, e, hrr, (ho b hne).trans hb, hmem, hs.2, hk1.symm, hk2.symm⟩, ?_, ?_⟩
    · rw [hlf, List.map_append, List.map_append, hA, hB]
    · refine ⟨?_, ?_, ?_, by simp [setBlock, hsz], fun j hj hn => ho j hn⟩
      all_goals (rcases hw1 with rfl | rfl <;> rfl)
    · simp [setBlock, hsz]
end
end Go.Proofs.YtifendlpeebofaaGreatDoor.M
namespace Go.Proofs.YtifendlpeebofaaGreatDoor
open Go.RowKit
theorem iter_left {κ : Type} {w : World} {b r : Nat} {enc : κ → Value} {E T : List (κ × Value)} (h : M.Iter w b r enc E T) : w.rangeLeft b r = T.length := by
  obtain ⟨es, c, since, seen, c0, hb, he, hs, hr, hold, hsc, hc, hl⟩ := h
  simp only [World.rangeLeft, hb, hr]
  have := congrArg List.length hl
  simpa using this
theorem iter_r {κ : Type} {w : World} {b r : Nat} {enc : κ → Value} {E T : List (κ × Value)} (h : M.Iter w b r enc E T) : (∃ a s n c, w.heap[r]? = some (.mapIter a s n c)) ∧ ∃ es c, w.heap[b]? = some (.map es c) := by
  obtain ⟨es, c, since, seen, c0, hb, he, hs, hr, _⟩ := h
  exact ⟨⟨_, _, _, _, hr⟩, _, _, hb⟩
end Go.Proofs.YtifendlpeebofaaGreatDoor
namespace Go.Proofs.YtifendlpeebofaaGreatDoor
open Go.RowKit Go.Shelf Sq
def rnsN (E : List Elt) (L : List MkV) (nm : ByteArray) : List SpV := runsL (cvN E L nm) nm (cutsL (cvN E L nm))
structure SpI (w : World) (E : List Elt) (L : List MkV) (fm r : Nat) (D : List (ByteArray × Value)) (X : List ByteArray) (T : List (ByteArray × Value)) (lv : Value) (W : World) : Prop where
  cm : CmAt W w.heap.size fm D (fun nm => cvN E L nm)
  it : M.Iter W fm r tx D T
  row : RSp.Own W w.heap.size lv (X.flatMap (rnsN E L))
  perm : (X ++ T.map (·.1)).Perm (D.map (·.1))
  sub : ∀ p ∈ T, p ∈ D
  ds : ∀ k v j, M.look D k = some v → v.ownBlock = some j → lv.ownBlock ≠ some j
  rb : w.heap.size ≤ r
  bel : Below w.heap.size w W
section
variable {w W W' : World} {E : List Elt} {L : List MkV} {fm r : Nat} {D T : List (ByteArray × Value)} {X : List ByteArray} {lv : Value}
theorem SpI.nodup (h : SpI w E L fm r D X T lv W) : X.Nodup := by
  have := h.perm.nodup_iff.2 h.cm.m.2.1
  exact (List.nodup_append.1 this).1
theorem SpI.few (h : SpI w E L fm r D X T lv W) : (X.flatMap (rnsN E L)).length ≤ 2 * L.length := flat_few h.nodup
theorem SpI.rcell (h : SpI w E L fm r D X T lv W) {v : Value} {M : List SpV} {b : Nat} (o : RSp.Own W b v M) : v.ownBlock ≠ some r ∧ v.ownBlock ≠ some fm := by
  obtain ⟨⟨_, _, _, _, hr⟩, _, _, hb⟩ := iter_r h.it
  refine ⟨fun e => ?_, fun e => ?_⟩
  · obtain ⟨_, c, hc⟩ := o.cells e
    rw [hc] at hr; cases hr
  · obtain ⟨_, c, hc⟩ := o.cells e
    rw [hc] at hb; cases hb
theorem SpI.next (h : SpI w E L fm r D X T lv W) {A B : List (ByteArray × Value)} {p : ByteArray × Value} (hT : T = A ++ p :: B) (it : M.Iter W' fm r tx D (A ++ B)) (t : Tch (fun j => j = r) W W') :
    CmAt W' w.heap.size fm D (fun nm => cvN E L nm) ∧ RSp.Own W' w.heap.size lv (X.flatMap (rnsN E L)) ∧ Below w.heap.size w W' := by
  have kb : ∀ j, j < W.heap.size → j ≠ r → W'.heap[j]? = W.heap[j]? := fun j hj hn => t.block j hj hn
  obtain ⟨⟨_, _, _, _, hr⟩, _, _, hb⟩ := iter_r h.it
  have nfr : fm ≠ r := fun e => by rw [e, hr] at hb; cases hb
  refine ⟨⟨h.cm.m.below (kb fm h.cm.m.lt nfr), fun k v e => ⟨(h.cm.rows k v e).1.keep (fun j hj => kb j ((h.cm.rows k v e).1.lt hj) (fun q => (h.rcell (h.cm.rows k v e).1).1 (by rw [← q]; exact hj))), (h.cm.rows k v e).2⟩, h.cm.nil, h.cm.ds, h.cm.fb⟩, h.row.keep (fun j hj => kb j (h.row.lt hj) (fun q => (h.rcell h.row).1 (by rw [← q]; exact hj))), h.bel.trans (t.below h.bel.size (fun j e => by rw [e]; exact h.rb))⟩
theorem SpI.more (h : SpI w E L fm r D X T lv W) {A B : List (ByteArray × Value)} {p : ByteArray × Value} (hT : T = A ++ p :: B) {W1 W2 : World} (it1 : M.Iter W1 fm r tx D (A ++ B)) (cm1 : CmAt W1 w.heap.size fm D (fun nm => cvN E L nm)) (row1 : RSp.Own W1 w.heap.size lv (X.flatMap (rnsN E L))) (b1 : Below w.heap.size w W1)
    {u : Value} {b : Nat} (hb : w.heap.size ≤ b) (b2 : Below W1.heap.size W1 W2) (hu : RSp.Own W2 b u (rnsN E L p.1)) (oku : ∀ x ∈ rnsN E L p.1, x.ok) (hL : L.length ≤ 900000000000) :
    ∃ v2 W3, (Builtin.append_ #[49, 49] 49 #[lv, u]).run Tryz.prog W2 = .ok v2 W3 ∧ SpI w E L fm r D (X ++ [p.1]) (A ++ B) v2 W3 := by
  have pm : ((X ++ [p.1]) ++ (A ++ B).map (·.1)).Perm (D.map (·.1)) := by
    refine List.Perm.trans ?_ h.perm
    rw [hT, List.append_assoc, List.map_append, List.map_append, List.map_cons, List.singleton_append]
    exact List.Perm.append_left X List.perm_middle.symm
  have nd : (X ++ [p.1]).Nodup := (List.nodup_append.1 (pm.nodup_iff.2 h.cm.m.2.1)).1
  have fl : ((X ++ [p.1]).flatMap (rnsN E L)).length ≤ 2 * L.length := flat_few nd
  have fe : (X ++ [p.1]).flatMap (rnsN E L) = X.flatMap (rnsN E L) ++ rnsN E L p.1 := by simp
  rw [fe, List.length_append] at fl
  obtain ⟨a, c, rfl, hat, _⟩ := hu.open RSp_is oku
  have bw2 : w.heap.size ≤ W2.heap.size := Nat.le_trans b1.size b2.size
  have row2 := row1.below b2
  have cm2 := cm1.below b2
  have it2 := it1.same (b2.block fm cm1.m.lt) (b2.block r (by
    obtain ⟨⟨_, _, _, _, hr⟩, _⟩ := iter_r it1
    exact (Array.getElem?_eq_some_iff.1 hr).1))
  obtain ⟨v2, W3, e, o3, g, q⟩ := RowT.run_app RSp_is W2 w.heap.size lv _ a (rnsN E L p.1) c row2 hat oku (by unfold maxLen; omega) (by show _ * 72 ≤ _; omega) bw2
  have no : ∀ j, lv.ownBlock = some j → w.heap.size ≤ j ∧ ∃ c, W2.heap[j]? = some (.cells c RSp.e (0, 0)) := fun j hj => row2.cells hj
  have kb : ∀ j, j < W2.heap.size → lv.ownBlock ≠ some j → W3.heap[j]? = W2.heap[j]? := fun j hj hn => g.block j hj (fun e => hn e.symm)
  obtain ⟨⟨_, _, _, _, hr⟩, _, _, hbm⟩ := iter_r it2
  have nr : lv.ownBlock ≠ some r := fun e => by
    obtain ⟨_, c, hc⟩ := no r e
    rw [hc] at hr; cases hr
  have nf : lv.ownBlock ≠ some fm := fun e => by
    obtain ⟨_, c, hc⟩ := no fm e
    rw [hc] at hbm; cases hbm
  refine ⟨v2, W3, e, ⟨cm2.m.below (kb fm cm2.m.lt nf), fun k v e => ⟨(cm2.rows k v e).1.keep (fun j hj => kb j ((cm2.rows k v e).1.lt hj) (h.ds k v j e hj)), (cm2.rows k v e).2⟩, cm2.nil, cm2.ds, cm2.fb⟩, it2.same (kb fm cm2.m.lt nf) (kb r (Array.getElem?_eq_some_iff.1 hr).1 nr), by rw [fe]; exact o3, pm, fun x hx => h.sub x (by
    rw [hT]
    rcases List.mem_append.1 hx with hx | hx
    · simp [hx]
    · simp [hx]), fun k v j e hj hv => ?_, h.rb, (b1.trans (b2.mono b1.size)).trans ((Below.refl _ _).grown g bw2 (fun k e => (no k e).1))⟩
  rcases q with q | q
  · rw [q] at hv; exact h.ds k v j e hj hv
  · rw [q] at hv
    cases hv
    exact Nat.lt_irrefl _ ((cm2.rows k v e).1.lt hj)
end
theorem cvN_ok {w : World} {s : Sx} {E : List Elt} (h : SeqAt w s E) {L : List MkV} (ok : ∀ x ∈ L, x.ok) (rt : ∀ x ∈ L, x.v.right = true) (hn : L.length ≤ 900000000000) {nm : ByteArray} (hne : cvN E L nm ≠ []) : CvOk (cvN E L nm) nm where
  ok := fun c hc => by
    obtain ⟨x, hx, rfl⟩ := cvN_mem hc
    exact cvE_ok h (ok x hx)
  rt := fun c hc => by
    obtain ⟨x, hx, rfl⟩ := cvN_mem hc
    exact rt x hx
  nm := cvN_nm
  lt := cvN_lt
  ne := hne
  len := Nat.le_trans (cvN_len E L nm) hn
theorem CvOk.all {C : List SpV} {nm : ByteArray} (h : CvOk C nm) : ∀ q ∈ runsL C nm (cutsL C), PkOk q := by
  obtain ⟨c, hc⟩ := List.exists_mem_of_ne_nil C h.ne
  have := cuts_two hc (h.lt c hc)
  exact h.runs _ (by omega)
attribute [local go_sem] Oper.semAt_some
def SpR (w : World) (E : List Elt) (L : List MkV) (v : Value) (w' : World) : Prop := ∃ S, RSp.Lo w' w.heap.size v S ∧ SpansIs (hE E L) S ∧ (∀ p ∈ S, PkOk p) ∧ S.length ≤ 2 * L.length ∧ Below w.heap.size w w'
theorem SpI.done {w W : World} {E : List Elt} {L : List MkV} {fm r : Nat} {D : List (ByteArray × Value)} {X : List ByteArray} {lv : Value} (h : SpI w E L fm r D X [] lv W) (ck : ∀ nm, cvN E L nm ≠ [] → CvOk (cvN E L nm) nm) {S : List SpV} (hp : S.Perm (X.flatMap (rnsN E L))) (hs : SdS S) : SpansIs (hE E L) S ∧ (∀ p ∈ S, PkOk p) ∧ S.length ≤ 2 * L.length := by
  have pm : X.Perm (D.map (·.1)) := by simpa using h.perm
  have hn : ∀ nm, nm ∈ X ↔ cvN E L nm ≠ [] := fun nm => by
    rw [pm.mem_iff]
    constructor
    · intro hm
      obtain ⟨⟨k, v⟩, hkv, rfl⟩ := List.mem_map.1 hm
      exact (h.cm.rows k v (M.look_of_mem h.cm.m.2.1 hkv)).2
    · intro hne
      cases e : M.look D nm with
      | none => exact absurd (h.cm.nil nm e) hne
      | some v => exact List.mem_map.2 ⟨_, M.look_mem e, rfl⟩
  refine ⟨spans_all h.nodup hn hp hs, fun p hpm => ?_, ?_⟩
  · obtain ⟨nm, h1, h2⟩ := List.mem_flatMap.1 (hp.mem_iff.1 hpm)
    exact (ck nm ((hn nm).1 h1)).all p h2
  · rw [hp.length_eq]
    exact h.few
theorem SpI.rok {w W : World} {E : List Elt} {L : List MkV} {fm r : Nat} {D T : List (ByteArray × Value)} {X : List ByteArray} {lv : Value} (h : SpI w E L fm r D X T lv W) (ck : ∀ nm, cvN E L nm ≠ [] → CvOk (cvN E L nm) nm) : ∀ x ∈ X.flatMap (rnsN E L), x.ok := fun p hp => by
  obtain ⟨nm, h1, h2⟩ := List.mem_flatMap.1 hp
  have : nm ∈ D.map (·.1) := h.perm.mem_iff.1 (List.mem_append_left _ h1)
  obtain ⟨⟨k, v⟩, hkv, rfl⟩ := List.mem_map.1 this
  exact ((ck k (h.cm.rows k v (M.look_of_mem h.cm.m.2.1 hkv)).2).all p h2).1
set_option maxHeartbeats 8000000 in
theorem Spans_any {w : World} {s : Sx} {E : List Elt} {base : Nat} {m : Mx} (h : SeqAt w s E) (hm : MkAt w base m) (rt : ∀ x ∈ m.L, x.v.right = true) (hT : K.V.Tabs w) :
    Calls Tryz.prog 25 #[.pointer (some ⟨m.mb, 0, none⟩), .pointer (some ⟨s.sb, 0, none⟩)] w fun e w' => ∃ v, e = .returned v ∧ SpR w E m.L v w' := by
  have CK := hidMk (fun nm (q : cvN E m.L nm ≠ []) => cvN_ok h (L := m.L) (fun x hx => (hm.ok x hx).1) rt hm.n (nm := nm) q)
  have HN := hidMk hm.n
  have HT := hidMk (fun (W : World) (b : Below w.heap.size w W) => hT.below b)
  have CC := hidMk ((covers_any h hm).mono (R' := fun e w1 => ∃ fm, e = .returned (.map (some fm)) ∧ ∃ rb w2, (Instr.range 117 (.map (some fm))).run Tryz.prog w1 = .ok (.pointer (some ⟨rb, 0, none⟩)) w2 ∧ ∃ D, SpI w E m.L fm rb D [] D (.slice none 0 0) w2) (fun e w1 q => by
    obtain ⟨fm, rfl, D, c, b⟩ := q
    obtain ⟨w2, er, it, z, b2⟩ := M.range_any (P := Tryz.prog) Tryz.underlying117 c.m
    exact ⟨fm, rfl, _, w2, er, D, c.below b2, it, RowT.own_nil _ _ _, by simp, fun _ q => q, fun _ _ _ _ _ q => (by cases q), b.size, b.trans (b2.mono b.size)⟩))
  clear h hm rt hT
  go_enter Tryz.func25, Tryz.ntmps25
  go_upto_region 4 with fail
  refine spn4 (mb := m.mb) (sb := s.sb) (fun fm rb w2 => ∃ D, SpI w E m.L fm rb D [] D (.slice none 0 0) w2) _ w _ rfl rfl rfl CC.out ?_
  rintro fm rb a' w2 ⟨D, hI⟩ ha
  subst ha
  simp only [Act.put, qsA, qsB, qsC]
  clear CC
  have I0 := hidMk hI
  clear hI
  go_wp2
  go_loopw [5] (fun v5 wr => ∃ (X : List ByteArray) (T : List (ByteArray × Value)), Hid (SpI w E m.L fm rb D X T v5 wr)) (fun _ wr => wr.rangeLeft fm rb)
  case atStart => exact ⟨[], D, I0⟩
  case round =>
    clear I0
    obtain ⟨X, T, HI⟩ := hrel
    rcases M.next_any (P := Tryz.prog) (ty := 0) HI.out.it with ⟨rfl, hnx⟩ | ⟨A, p, B, w5, hTe, hnx, it5, now5, t5, z5⟩
    · go_upto_region 5 with fail
      refine spn5f (rb := rb) _ wr _ rfl rfl hnx ?_
      intro a' w3 hw ha
      obtain rfl : wr = w3 := hw.symm
      subst ha
      simp only [Act.put, qsA, qsB, qsC]
      clear hnx
      have CS := hidMk (sortSp_any wr w.heap.size u5 _ HI.out.row.lo (HI.out.rok CK.out) (Nat.le_trans HI.out.few (by have := HN.out; omega)))
      go_upto_region 8 with fail
      refine spn8 (lv := u5) (fun W => SpR w E m.L u5 W) _ wr _ rfl rfl (CS.out.mono ?_) ?_
      · rintro e W ⟨rfl, S, hp, hs, lo, t⟩
        obtain ⟨q1, q2, q3⟩ := HI.out.done CK.out hp hs
        exact ⟨rfl, S, lo, q1, q2, q3, HI.out.bel.trans (t.below HI.out.bel.size (fun j hj => (HI.out.row.cells hj).1))⟩
      rintro a' w4 hf ha
      have HF := hidMk hf
      subst ha
      simp only [Act.put, qsA, qsB, qsC]
      clear CS hf
      go_wp2
      go_ret
      exact ⟨_, rfl, HF.out⟩
    · obtain ⟨cm5, row5, b5⟩ := HI.out.next hTe it5 t5
      have hml := iter_left HI.out.it
      have hpD : p ∈ D := HI.out.sub p (by rw [hTe]; simp)
      have hlk := M.look_of_mem cm5.m.2.1 (k := p.1) (v := p.2) hpD
      obtain ⟨rw5, ne5⟩ := cm5.rows p.1 p.2 hlk
      have ck := CK.out p.1 ne5
      obtain ⟨pa, pc, ep, hat, _⟩ := rw5.open RSp_is ck.ok
      have RA := runs_any (lc := pc) hat ck (HT.out w5 b5)
      have CR : Calls Tryz.prog 64 #[p.2] w5 fun e w1 => ∃ u, e = .returned u ∧ ∃ v2 w2, (Builtin.append_ #[49, 49] 49 #[u5, u]).run Tryz.prog w1 = .ok v2 w2 ∧ SpI w E m.L fm rb D (X ++ [p.1]) (A ++ B) v2 w2 := by
        rw [ep]
        refine RA.mono ?_
        rintro e W ⟨u, rfl, o, b⟩
        obtain ⟨v2, W3, ea, nx⟩ := HI.out.more hTe it5 cm5 row5 b5 b5.size b o (fun q hq => (ck.all q hq).1) HN.out
        exact ⟨u, rfl, v2, W3, ea, nx⟩
      have HC := hidMk CR
      have EE := now5.run (P := Tryz.prog)
      have HML := hidMk (show wr.rangeLeft fm rb = A.length + B.length + 1 by rw [hml, hTe]; simp; omega)
      clear cm5 row5 b5 hml hpD hlk rw5 ne5 ck ep hat RA CR it5 now5 t5 z5 hTe HI
      go_upto_region 5 with fail
      refine spn5t (rb := rb) (kx := tx p.1) (vx := p.2) (w1 := w5) _ wr _ rfl rfl hnx ?_
      intro a' w3 hw ha
      obtain rfl : w5 = w3 := hw.symm
      subst ha
      simp only [Act.put, qsA, qsB, qsC]
      clear hnx
      go_upto_region 6 with fail
      refine spn6 (rb := rb) (kx := tx p.1) (vx := p.2) _ w5 _ rfl rfl EE ?_
      intro a' w3 hw ha
      obtain rfl : w5 = w3 := hw.symm
      subst ha
      simp only [Act.put, qsA, qsB, qsC]
      clear EE
      go_upto_region 7 with fail
      refine spn7 (lv := u5) (cv := p.2) (fun u v2 W => SpI w E m.L fm rb D (X ++ [p.1]) (A ++ B) v2 W) _ w5 _ rfl rfl rfl HC.out ?_
      rintro u v2 a' w6 hf ha
      have NI := hidMk hf
      have ML : w6.rangeLeft fm rb < wr.rangeLeft fm rb := by
        rw [iter_left hf.it, HML.out]
        simp
      have HM := hidMk ML
      subst ha
      simp only [Act.put, qsA, qsB, qsC]
      clear HC hf ML
      go_wp2
      exact ⟨⟨_, _, NI⟩, HM.out⟩
end Go.Proofs.YtifendlpeebofaaGreatDoor
namespace Go.Proofs.YtifendlpeebofaaGreatDoor
open Go.ChangeShapes Go.WideShapes Go.ChangeAt Go.RowKit
def RowAt {κ : Type} (k : Nat) (encd : κ → List Value) (w : World) (a : Option Addr) (L : List κ) : Prop := L = [] ∨ ∃ b off, a = some ⟨b, off, none⟩ ∧ b < w.heap.size ∧ ∀ i x, L[i]? = some x → w.rangeAt b (off + i * k) (encd x)
section
variable {H : Type} {enc : TypeId × Value → H} {W : World}
theorem view_rows {κ : Type} {T e k : Nat} {encd : κ → List Value} {ok : κ → Prop} (hT : Tryz.prog.underlying T = some (.slice e)) (hce : Tryz.prog.cellsOf e = k) (hk : 0 < k) (hlen : ∀ x, ok x → (encd x).length = k)
    (hcells : ∀ (fuel : Nat) (cs : List Value) (y : DataW H × List MemPlace), DataW.trod enc Tryz.prog W 0 (fun _ => true) true fuel e cs = some y → ∃ x, ok x ∧ cs = encd x)
    {a : Option Addr} {len cap : Nat} {d : DataW H} {p : List MemPlace} (h : DataW.Trod enc Tryz.prog W 0 (fun _ => true) true T (.slice a len cap) d p) :
    ∃ L : List κ, L.length = len ∧ (∀ x ∈ L, ok x) ∧ RowAt k encd W a L ∧ (d = .nil ∧ len = 0 ∨ ∃ el sp, d = .slice el sp ∧ el.length = len) := by
  obtain ⟨fuel, hf⟩ := h
  rcases DataW.trod_slice hT hf with ⟨hcs', hx⟩ | ⟨ad, l, c, elems, rest, n, _, hcs', hx, _, hl, hm, hel, hcell, _, _⟩
  · simp [Value.cells] at hcs'
    obtain ⟨rfl, rfl, rfl⟩ := hcs'
    simp only [Prod.mk.injEq] at hx
    exact ⟨[], rfl, fun v hv => (by cases hv), .inl rfl, .inl ⟨hx.1, rfl⟩⟩
  · simp [Value.cells] at hcs'
    obtain ⟨rfl, rfl, rfl⟩ := hcs'
    simp only [Prod.mk.injEq] at hx
    obtain ⟨b, off, spot⟩ := ad
    have raw : ∀ i, i < len → ∃ v : κ, ok v ∧ ∀ j u, (encd v)[j]? = some u → W.cell? (((⟨b, off, spot⟩ : Addr).add (i * k)).add j) = some u := fun i hi => by
      have hi2 := hcell i hi
      rw [List.getElem?_eq_getElem (by omega), hce, Option.bind_eq_some_iff] at hi2
      obtain ⟨cs, hc1, hc2⟩ := hi2
      obtain ⟨v, hv, rfl⟩ := hcells _ _ _ hc2
      obtain ⟨_, _, hc3⟩ := World.cells?_some hc1
      refine ⟨v, hv, fun j u hu => ?_⟩
      have hj := (List.getElem?_eq_some_iff.1 hu).1
      rw [hlen v hv] at hj
      rw [hc3 j hj]
      exact hu
    have hspot : 0 < len → spot = none ∧ b < W.heap.size := fun h0 => by
      obtain ⟨v, hv, hc⟩ := raw 0 h0
      have q := hc 0 _ (List.getElem?_eq_getElem (by rw [hlen v hv]; omega))
      have q1 := World.cell?_spot q
      have q2 : spot = none := by simpa [Addr.add] using q1
      subst q2
      refine ⟨rfl, ?_⟩
      rw [Addr.add_mid, Addr.add_mid] at q
      exact block_lt_of_cell q
    by_cases h0 : 0 < len
    · obtain ⟨hs, hb⟩ := hspot h0
      subst hs
      obtain ⟨v0, _⟩ := raw 0 h0
      let F : Nat → κ := fun i => if h : i < len then Classical.choose (raw i h) else v0
      have hF : ∀ i (h : i < len), F i = Classical.choose (raw i h) := fun i h => dif_pos h
      refine ⟨(List.range len).map F, by simp, fun v hv => ?_, ?_, .inr ⟨_, _, hx.1, by simp [hel]⟩⟩
      · rw [List.mem_map] at hv
        obtain ⟨i, hi, rfl⟩ := hv
        rw [List.mem_range] at hi
        rw [hF i hi]
        exact (Classical.choose_spec (raw i hi)).1
      · refine .inr ⟨b, off, rfl, hb, fun i v hv => ?_⟩
        have hi : i < len := by
          have := (List.getElem?_eq_some_iff.1 hv).1
          simpa using this
        rw [List.getElem?_map, List.getElem?_range hi] at hv
        simp only [Option.map_some, Option.some.injEq] at hv
        subst hv
        rw [hF i hi]
        intro j u hu
        have := (Classical.choose_spec (raw i hi)).2 j u hu
        rwa [Addr.add_mid, Addr.add_mid] at this
    · obtain rfl : len = 0 := by omega
      exact ⟨[], rfl, fun v hv => (by cases hv), .inl rfl, .inr ⟨_, _, hx.1, by simp [hel]⟩⟩
theorem i64_wf {z : Int} (h : (Lit.int .i64 z).wf = true) : -9223372036854775808 ≤ z ∧ z ≤ 9223372036854775807 := by
  simp [Lit.wf, IntKind.min, IntKind.max, IntKind.signed, IntKind.bits] at h
  omega
theorem u8_wf {z : Int} (h : (Lit.int .u8 z).wf = true) : 0 ≤ z ∧ z ≤ 255 := by
  simp [Lit.wf, IntKind.min, IntKind.max, IntKind.signed, IntKind.bits] at h
  omega
def intV : Value → Int
  | .int _ z => z
  | _ => 0
theorem cells_int : Tryz.prog.cellsOf 3 = 1 := by kernel_rfl
theorem cells_str : Tryz.prog.cellsOf 9 = 1 := by kernel_rfl
theorem cells_hash : Tryz.prog.cellsOf 34 = 32 := by kernel_rfl
theorem cells_id : Tryz.prog.cellsOf 36 = 33 := by kernel_rfl
theorem hash_cells {fuel : Nat} {cs : List Value} {y : DataW H × List MemPlace} (h : DataW.trod enc Tryz.prog W 0 (fun _ => true) true fuel 34 cs = some y) : ∃ l : List UInt8, l.length = 32 ∧ cs = hcs l := by
  obtain ⟨xs, m, _, _, hlen, hxs, hall⟩ := DataW.trod_array Tryz.underlying34 h
  rw [cells_hash] at hlen
  have hce : Tryz.prog.cellsOf 5 = 1 := by kernel_rfl
  have key : ∀ i (hi : i < cs.length), ∃ z : Int, cs[i] = .int .u8 z ∧ 0 ≤ z ∧ z ≤ 255 := by
    intro i hi
    have h1 := hall i (by omega)
    rw [hce, Nat.mul_one, List.getElem?_eq_getElem (by omega)] at h1
    obtain ⟨z, e0, _, w0⟩ := DataW.trod_int Tryz.underlying5 h1
    have hb := u8_wf w0
    refine ⟨z, ?_, hb.1, hb.2⟩
    rw [List.drop_eq_getElem_cons hi, List.take_succ_cons, List.take_zero] at e0
    exact (List.cons.inj e0).1
  refine ⟨cs.map (fun v => UInt8.ofNat (intV v).toNat), by simpa using hlen, ?_⟩
  apply List.ext_getElem
  · simp [hcs, bs]
  · intro i h1 h2
    obtain ⟨z, hz, z0, z1⟩ := key i h1
    simp only [hcs, bs, List.map_map, List.getElem_map, Function.comp_apply]
    rw [hz]
    simp only [intV, Value.int.injEq, true_and]
    rw [UInt8.toNat_ofNat']
    omega
theorem list_split {α : Type} {l : List α} {n m : Nat} (h : l.length = n + m) : ∃ a b, l = a ++ b ∧ a.length = n ∧ b.length = m := ⟨l.take n, l.drop n, (List.take_append_drop n l).symm, by simp; omega, by simp; omega⟩
theorem id_cells {fuel : Nat} {cs : List Value} {y : DataW H × List MemPlace} (h : DataW.trod enc Tryz.prog W 0 (fun _ => true) true fuel 36 cs = some y) : ∃ x : IdK, x.ok ∧ cs = x.c := by
  obtain ⟨y0, y1, n, _, hcl, h0, h1⟩ := trod_struct2 Tryz.underlying36 h
  rw [cells_id] at hcl
  obtain ⟨A, B, rfl, hA, hB⟩ := list_split (n := 32) (m := 1) hcl
  simp only [cells_hash, cells_int, List.drop_zero] at h0 h1
  rw [← hA, List.take_left] at h0
  rw [← hA, List.drop_left, List.take_of_length_le (by omega)] at h1
  obtain ⟨k, hk, rfl⟩ := hash_cells h0
  obtain ⟨z, e0, _, w0⟩ := DataW.trod_int Tryz.underlying3 h1
  subst e0
  have b := i64_wf w0
  exact ⟨⟨k, z⟩, ⟨hk, b.1, b.2⟩, rfl⟩
end
theorem trod_float {H : Type} {enc : TypeId × Value → H} {P : Program} {w : World} {base : Nat} {spare : Nat → Bool} {held : Bool} {fuel : Nat} {t : TypeId} {cs : List Value} {x : DataW H × List MemPlace} {k : FloatKind} (ht : P.underlying t = some (.float k)) (h : DataW.trod enc P w base spare held fuel t cs = some x) :
    ∃ b, cs = [.float k b] ∧ (Lit.float k b).wf = true := by
  cases fuel with
  | zero => simp [DataW.trod] at h
  | succ n =>
    unfold DataW.trod at h
    rw [ht] at h
    split at h <;> simp_all
theorem cells_u8k : Tryz.prog.cellsOf 37 = 1 := by kernel_rfl
theorem cells_i64 : Tryz.prog.cellsOf 2 = 1 := by kernel_rfl
theorem cells_flt : Tryz.prog.cellsOf 38 = 1 := by kernel_rfl
theorem cells_va : Tryz.prog.cellsOf 40 = 4 := by kernel_rfl
section
variable {H : Type} {enc : TypeId × Value → H} {W : World}
theorem va_cells (fuel : Nat) (cs : List Value) (y : DataW H × List MemPlace) (h : DataW.trod enc Tryz.prog W 0 (fun _ => true) true fuel 40 cs = some y) : ∃ x : VaV, x.ok ∧ cs = x.c := by
  obtain ⟨xs, n, _, hx, hcl, hlen, hfs⟩ := DataW.trod_struct Tryz.underlying40 h
  rw [cells_va] at hcl
  have hlen : xs.length = 4 := hlen
  obtain ⟨a, b, c, d, rfl⟩ : ∃ a b c d, cs = [a, b, c, d] := by
    match cs, hcl with
    | [a, b, c, d], _ => exact ⟨a, b, c, d, rfl⟩
  match xs, hlen with
  | [y0, y1, y2, y3], _ =>
    have t0 : DataW.trod enc Tryz.prog W 0 (fun _ => true) true n 37 (([a, b, c, d].drop 0).take (Tryz.prog.cellsOf 37)) = some y0 := hfs 0 _ rfl
    have t1 : DataW.trod enc Tryz.prog W 0 (fun _ => true) true n 2 (([a, b, c, d].drop 1).take (Tryz.prog.cellsOf 2)) = some y1 := hfs 1 _ rfl
    have t2 : DataW.trod enc Tryz.prog W 0 (fun _ => true) true n 38 (([a, b, c, d].drop 2).take (Tryz.prog.cellsOf 38)) = some y2 := hfs 2 _ rfl
    have t3 : DataW.trod enc Tryz.prog W 0 (fun _ => true) true n 9 (([a, b, c, d].drop 3).take (Tryz.prog.cellsOf 9)) = some y3 := hfs 3 _ rfl
    rw [cells_u8k] at t0
    rw [cells_i64] at t1
    rw [cells_flt] at t2
    rw [cells_str] at t3
    obtain ⟨z0, q0, _, w0⟩ := DataW.trod_int Tryz.underlying37 t0
    obtain ⟨z1, q1, _, w1⟩ := DataW.trod_int Tryz.underlying2 t1
    obtain ⟨z2, q2, w2⟩ := trod_float Tryz.underlying38 t2
    obtain ⟨z3, q3, _, w3⟩ := DataW.trod_string Tryz.underlying9 t3
    simp at q0 q1 q2 q3
    subst q0 q1 q2 q3
    have u0 := u8_wf w0
    have u1 := i64_wf w1
    exact ⟨⟨z0, z1, z2, z3⟩, ⟨u0.1, u0.2, u1.1, u1.2, by simpa [Lit.wf] using w2, w3⟩, rfl⟩
end
structure OpM where
  kind : Int
  id : IdK
  fr : IdK
  ti : IdK
  nm : ByteArray
  v : VaV
  sd : Int
def OpM.c (o : OpM) : List Value := [.int .i64 o.kind] ++ (o.id.c ++ (o.fr.c ++ (o.ti.c ++ ([.string o.nm] ++ (o.v.c ++ [.int .i64 o.sd])))))
structure OpM.ok (o : OpM) : Prop where
  id : o.id.ok
  fr : o.fr.ok
  ti : o.ti.ok
  kind : -9223372036854775808 ≤ o.kind ∧ o.kind ≤ 9223372036854775807
  nm : o.nm.size ≤ maxLen
  v : o.v.ok
  sd : -9223372036854775808 ≤ o.sd ∧ o.sd ≤ 9223372036854775807
def OpM.mk' (o : OpM) : MkV := ⟨o.id, o.nm, o.v, o.fr, o.ti, o.sd⟩
theorem OpM.mkok {o : OpM} (h : o.ok) : o.mk'.ok := ⟨h.id, h.nm, h.v, h.fr, h.ti, h.sd.1, h.sd.2⟩
theorem OpM.len {o : OpM} (h : o.ok) : o.c.length = 106 := by
  have h1 := IdK.len h.id
  have h2 := IdK.len h.fr
  have h3 := IdK.len h.ti
  simp [OpM.c, h1, h2, h3, VaV.len]
theorem OpM.one (o : OpM) : ∀ v ∈ o.c, v.oneCell' = true := by
  intro v hv
  simp only [OpM.c, List.mem_append, List.mem_singleton] at hv
  rcases hv with rfl | h | h | h | rfl | h | rfl
  · rfl
  · exact IdK.one _ v h
  · exact IdK.one _ v h
  · exact IdK.one _ v h
  · rfl
  · exact VaV.one _ v h
  · rfl
def zOpM : OpM := ⟨0, zId, zId, zId, ⟨#[]⟩, zVa, 0⟩
theorem zOpM_ok : zOpM.ok := ⟨zId_ok, zId_ok, zId_ok, by decide, by decide, zVa_ok, by decide⟩
theorem bytes_opM : Tryz.prog.bytesOf 42 = 192 := by kernel_rfl
def RO : RowT OpM := ⟨OpM.c, OpM.ok, 106, 192, 42, 22, zOpM⟩
theorem RO_is : RO.Is := ⟨zOpM_ok, fun _ h => OpM.len h, OpM.one, Tryz.underlying22, by kernel_rfl, ⟨_, Tryz.underlying42, rfl⟩, by decide, by decide⟩
theorem cells_opM : Tryz.prog.cellsOf 42 = 106 := by kernel_rfl
section
variable {H : Type} {enc : TypeId × Value → H} {W : World}
theorem opM_cells (fuel : Nat) (cs : List Value) (y : DataW H × List MemPlace) (h : DataW.trod enc Tryz.prog W 0 (fun _ => true) true fuel 42 cs = some y) : ∃ x : OpM, x.ok ∧ cs = x.c := by
  obtain ⟨xs, n, _, hx, hcl, hlen, hfs⟩ := DataW.trod_struct Tryz.underlying42 h
  rw [cells_opM] at hcl
  have hlen : xs.length = 7 := hlen
  obtain ⟨A, R, rfl, hA, hR⟩ := list_split (n := 1) (m := 105) hcl
  obtain ⟨B, R, rfl, hB, hR⟩ := list_split (n := 33) (m := 72) hR
  obtain ⟨C, R, rfl, hC, hR⟩ := list_split (n := 33) (m := 39) hR
  obtain ⟨D, R, rfl, hD, hR⟩ := list_split (n := 33) (m := 6) hR
  obtain ⟨E, R, rfl, hE, hR⟩ := list_split (n := 1) (m := 5) hR
  obtain ⟨F, G, rfl, hF, hG⟩ := list_split (n := 4) (m := 1) hR
  match xs, hlen with
  | [y0, y1, y2, y3, y4, y5, y6], _ =>
    have t0 : DataW.trod enc Tryz.prog W 0 (fun _ => true) true n 3 (((A ++ (B ++ (C ++ (D ++ (E ++ (F ++ G)))))).drop 0).take (Tryz.prog.cellsOf 3)) = some y0 := hfs 0 _ rfl
    have t1 : DataW.trod enc Tryz.prog W 0 (fun _ => true) true n 36 (((A ++ (B ++ (C ++ (D ++ (E ++ (F ++ G)))))).drop 1).take (Tryz.prog.cellsOf 36)) = some y1 := hfs 1 _ rfl
    have t2 : DataW.trod enc Tryz.prog W 0 (fun _ => true) true n 36 (((A ++ (B ++ (C ++ (D ++ (E ++ (F ++ G)))))).drop 34).take (Tryz.prog.cellsOf 36)) = some y2 := hfs 2 _ rfl
    have t3 : DataW.trod enc Tryz.prog W 0 (fun _ => true) true n 36 (((A ++ (B ++ (C ++ (D ++ (E ++ (F ++ G)))))).drop 67).take (Tryz.prog.cellsOf 36)) = some y3 := hfs 3 _ rfl
    have t4 : DataW.trod enc Tryz.prog W 0 (fun _ => true) true n 9 (((A ++ (B ++ (C ++ (D ++ (E ++ (F ++ G)))))).drop 100).take (Tryz.prog.cellsOf 9)) = some y4 := hfs 4 _ rfl
    have t5 : DataW.trod enc Tryz.prog W 0 (fun _ => true) true n 40 (((A ++ (B ++ (C ++ (D ++ (E ++ (F ++ G)))))).drop 101).take (Tryz.prog.cellsOf 40)) = some y5 := hfs 5 _ rfl
    have t6 : DataW.trod enc Tryz.prog W 0 (fun _ => true) true n 3 (((A ++ (B ++ (C ++ (D ++ (E ++ (F ++ G)))))).drop 105).take (Tryz.prog.cellsOf 3)) = some y6 := hfs 6 _ rfl
    rw [cells_int] at t0
    rw [List.drop_zero, ← hA, List.take_left] at t0
    rw [cells_id] at t1
    rw [show 1 = A.length by omega, List.drop_left, ← hB, List.take_left] at t1
    rw [cells_id] at t2
    rw [show 34 = A.length + B.length by omega, ← List.drop_drop, List.drop_left, List.drop_left, ← hC, List.take_left] at t2
    rw [cells_id] at t3
    rw [show 67 = A.length + B.length + C.length by omega, ← List.drop_drop, ← List.drop_drop, List.drop_left, List.drop_left, List.drop_left, ← hD, List.take_left] at t3
    rw [cells_str] at t4
    rw [show 100 = A.length + B.length + C.length + D.length by omega, ← List.drop_drop, ← List.drop_drop, ← List.drop_drop, List.drop_left, List.drop_left, List.drop_left, List.drop_left, ← hE, List.take_left] at t4
    rw [cells_va] at t5
    rw [show 101 = A.length + B.length + C.length + D.length + E.length by omega, ← List.drop_drop, ← List.drop_drop, ← List.drop_drop, ← List.drop_drop, List.drop_left, List.drop_left, List.drop_left, List.drop_left, List.drop_left, ← hF, List.take_left] at t5
    rw [cells_int] at t6
    rw [show 105 = A.length + B.length + C.length + D.length + E.length + F.length by omega, ← List.drop_drop, ← List.drop_drop, ← List.drop_drop, ← List.drop_drop, ← List.drop_drop, List.drop_left, List.drop_left, List.drop_left, List.drop_left, List.drop_left, List.drop_left, List.take_of_length_le (by omega)] at t6
    obtain ⟨z0, q0, _, w0⟩ := DataW.trod_int Tryz.underlying3 t0
    obtain ⟨x1, o1, q1⟩ := id_cells t1
    obtain ⟨x2, o2, q2⟩ := id_cells t2
    obtain ⟨x3, o3, q3⟩ := id_cells t3
    obtain ⟨z4, q4, _, w4⟩ := DataW.trod_string Tryz.underlying9 t4
    obtain ⟨x5, o5, q5⟩ := va_cells _ _ _ t5
    obtain ⟨z6, q6, _, w6⟩ := DataW.trod_int Tryz.underlying3 t6
    subst q0 q1 q2 q3 q4 q5 q6
    exact ⟨⟨z0, x1, x2, x3, z4, x5, z6⟩, ⟨o1, o2, o3, i64_wf w0, w4, o5, i64_wf w6⟩, rfl⟩
theorem view_opsM {a : Option Addr} {len cap : Nat} {d : DataW H} {p : List MemPlace} (h : DataW.Trod enc Tryz.prog W 0 (fun _ => true) true 22 (.slice a len cap) d p) :
    ∃ L : List OpM, L.length = len ∧ (∀ x ∈ L, x.ok) ∧ RO.At W a L ∧ (d = .nil ∧ len = 0 ∨ ∃ el sp, d = .slice el sp ∧ el.length = len) := by
  obtain ⟨L, h1, h2, h3, h4⟩ := view_rows Tryz.underlying22 cells_opM (by omega) (fun x hx => OpM.len hx) opM_cells h
  refine ⟨L, h1, h2, ?_, h4⟩
  rcases h3 with h3 | ⟨b, off, e, hl, hr⟩
  · exact .inl h3
  · exact .inr ⟨b, off, e, hl, fun i x hx => by have := hr i x hx; rw [Nat.mul_comm] at this; exact this⟩
end
end Go.Proofs.YtifendlpeebofaaGreatDoor
namespace Go.Proofs.YtifendlpeebofaaGreatDoor
open Go.RowKit
def idN (n : Int) : IdK := ⟨zId.h, n⟩
theorem build_idN (n : Int) (w : World) : (Instr.build 36 #[(1, .int .i64 n)]).run Tryz.prog w = .ok (idN n).v w := by kernel_rfl
section
variable {w : World} {a : Act} {o : Oper} {x y : Operand}
theorem exec_build1 {P : Program} {t : TypeId} {v0 v : Value} (ho : o.op = .build t #[(1, x)]) (h0 : a.eval x = v0) (hl : (Instr.build t #[(1, v0)]).run P w = .ok v w) : (execOp a.eval o).run P w = .ok (.value v) w := by
  unfold execOp; simp only [ho, List.map_toArray, List.map_cons, List.map_nil, h0, Sem.run_bind, hl, Result.andThen_ok, Sem.run_pure]
theorem exec_c7 {P : Program} {F : Nat} {ts : Array TypeId} {x1 x2 x3 x4 x5 x6 x7 : Operand} {v1 v2 v3 v4 v5 v6 v7 : Value} (ho : o.op = .call { callee := .value (.func F), args := #[x1, x2, x3, x4, x5, x6, x7], argTypes := ts }) (h1 : a.eval x1 = v1) (h2 : a.eval x2 = v2) (h3 : a.eval x3 = v3) (h4 : a.eval x4 = v4) (h5 : a.eval x5 = v5) (h6 : a.eval x6 = v6) (h7 : a.eval x7 = v7) (hf : (callFunc F #[v1, v2, v3, v4, v5, v6, v7]).run P w = .ok (.enter F #[v1, v2, v3, v4, v5, v6, v7]) w := by go_simp) : (execOp a.eval o).run P w = .ok (.enter F #[v1, v2, v3, v4, v5, v6, v7]) w := by
  have e0 : a.eval (.func F) = .func (.func F) #[] #[] := rfl
  unfold execOp; simp [ho, resolve, invoke, h1, h2, h3, h4, h5, h6, h7, e0, Deferred.ofValue, Result.andThen, hf]
theorem ex_rem {n r : Int} {m : Nat} (h0 : 0 < m) (hr : Int.tmod n (m : Int) = r) (ho : o.op = .binOp .rem 3 x y 3) (hx : a.eval x = .int .i64 n) (hy : a.eval y = .int .i64 (m : Int)) : (execOp a.eval o).run Tryz.prog w = .ok (.value (.int .i64 r)) w := by
  have l1 : -(m : Int) < Int.tmod n (m : Int) := by have := Int.lt_tmod_of_pos n (show (0 : Int) < (m : Int) by omega); omega
  have l2 : Int.tmod n (m : Int) < (m : Int) := Int.tmod_lt_of_pos n (by omega)
  subst hr
  refine exec_binOp ho hx hy ?_ ?_
  · kernel_rfl
  · have hne : ¬ (m = 0) := by omega
    go_simp
end
def lai4_ops : Array Oper := (⟨_, rfl⟩ : {o // some o = rgB Tryz.f32 4}).1
theorem lai4 {lb : Nat} {w1 w2 : World} (a : Act) (w : World) (Q : Exit → Act → World → Prop) (zz : a.tmps.size = 79)
    (EA : (Instr.alloc 36 true (.tuple #[])).run Tryz.prog w = .ok (.pointer (some ⟨lb, 0, none⟩)) w1) (ES : (Instr.storeAt 36 (.pointer (some ⟨lb, 0, none⟩)) zId.v).run Tryz.prog w1 = .ok () w2)
    (h : ∀ a' w', w' = w2 → a' = (a.put (some 23) (zId.v)).put (some 9) (.pointer (some ⟨lb, 0, none⟩)) → Q .normal a' w') :
    (Code.region 4 lai4_ops false).wp Tryz.prog Q a w := by
  refine z0 rfl ?_
  refine zv rfl (exec_build0 rfl (build_id _)) ?_
  refine zv (v := .pointer (some ⟨lb, 0, none⟩)) rfl (exec_alloc rfl EA) ?_
  refine zs rfl (exec_store rfl (zg zz rfl) (zg zz rfl) ES) ?_
  exact ze rfl (h _ _ (rfl) rfl)
def lai8_ops : Array Oper := (⟨_, rfl⟩ : {o // some o = rgB Tryz.f32 8}).1
theorem lai8 {ib : Nat} {i : Int} {w1 w2 : World} (a : Act) (w : World) (Q : Exit → Act → World → Prop) (zz : a.tmps.size = 79)
    (t10 : a.tmps.getD 10 undef = .int .i64 i)
    (EA : (Instr.alloc 36 true (.tuple #[])).run Tryz.prog w = .ok (.pointer (some ⟨ib, 0, none⟩)) w1) (ES : (Instr.storeAt 36 (.pointer (some ⟨ib, 0, none⟩)) (idN i).v).run Tryz.prog w1 = .ok () w2)
    (h : ∀ a' w', w' = w2 → a' = ((a.put (some 29) (.int .i64 i)).put (some 30) ((idN i).v)).put (some 11) (.pointer (some ⟨ib, 0, none⟩)) → Q .normal a' w') :
    (Code.region 8 lai8_ops false).wp Tryz.prog Q a w := by
  refine z0 rfl ?_
  refine zv rfl (xmv rfl (zi t10 rfl)) ?_
  refine zv rfl (exec_build1 rfl (zg zz rfl) (build_idN _ _)) ?_
  refine zv (v := .pointer (some ⟨ib, 0, none⟩)) rfl (exec_alloc rfl EA) ?_
  refine zs rfl (exec_store rfl (zg zz rfl) (zg zz rfl) ES) ?_
  exact ze rfl (h _ _ (rfl) rfl)
def lai9_ops : Array Oper := (⟨_, rfl⟩ : {o // some o = rgB Tryz.f32 9}).1
theorem lai9 {sb lb ib : Nat} {k q : IdK} {z : Int} {r : Bool} (Fin : World → Prop) (a : Act) (w : World) (Q : Exit → Act → World → Prop) (zz : a.tmps.size = 79)
    (t7 : a.tmps.getD 7 undef = .pointer (some ⟨sb, 0, none⟩))
    (t9 : a.tmps.getD 9 undef = .pointer (some ⟨lb, 0, none⟩))
    (t11 : a.tmps.getD 11 undef = .pointer (some ⟨ib, 0, none⟩))
    (hz : decide (z ≠ 0) = r) (L0 : ∀ W, W = w → (Instr.loadAt 36 (.pointer (some ⟨lb, 0, none⟩))).run Tryz.prog W = .ok (q.v) W) (L1 : ∀ W, W = w → (Instr.loadAt 36 (.pointer (some ⟨ib, 0, none⟩))).run Tryz.prog W = .ok (k.v) W) (CI : Calls Tryz.prog 16 #[.pointer (some ⟨sb, 0, none⟩), k.v, q.v] w fun e w' => e = .returned (.int .i64 z) ∧ Fin w')
    (h : ∀ a' w', Fin w' → a' = ((((a.put (some 31) (.pointer (some ⟨sb, 0, none⟩))).put (some 32) (k.v)).put (some 33) (q.v)).put (some 34) (.int .i64 z)).put (some 35) (.bool r) → Q .normal a' w') :
    (Code.region 9 lai9_ops false).wp Tryz.prog Q a w := by
  refine z0 rfl ?_
  refine zv rfl (xmv rfl (zi t7 rfl)) ?_
  refine zv rfl (xld rfl (zi t11 rfl) (L1 _ rfl)) ?_
  refine zv rfl (xld rfl (zi t9 rfl) (L0 _ rfl)) ?_
  refine zc rfl (exec_c3 rfl (zg zz rfl) (zg zz rfl) (zg zz rfl)) (CI) (fun e x3 hx => ?_)
  obtain ⟨rfl, HF⟩ := hx
  refine ⟨_, rfl, ?_⟩
  refine zv (v := .bool r) rfl (ex_neqE rfl (zg zz rfl) rfl hz) ?_
  exact ze rfl (h _ _ (HF) rfl)
def lai11_ops : Array Oper := (⟨_, rfl⟩ : {o // some o = rgB Tryz.f32 11}).1
theorem lai11 {lb ib : Nat} {k : IdK} {w1 : World} (a : Act) (w : World) (Q : Exit → Act → World → Prop) (zz : a.tmps.size = 79)
    (t9 : a.tmps.getD 9 undef = .pointer (some ⟨lb, 0, none⟩))
    (t11 : a.tmps.getD 11 undef = .pointer (some ⟨ib, 0, none⟩))
    (L1 : ∀ W, W = w → (Instr.loadAt 36 (.pointer (some ⟨ib, 0, none⟩))).run Tryz.prog W = .ok (k.v) W) (ES : (Instr.storeAt 36 (.pointer (some ⟨lb, 0, none⟩)) k.v).run Tryz.prog w = .ok () w1)
    (h : ∀ a' w', w' = w1 → a' = a.put (some 36) (k.v) → Q .normal a' w') :
    (Code.region 11 lai11_ops false).wp Tryz.prog Q a w := by
  refine z0 rfl ?_
  refine zv rfl (xld rfl (zi t11 rfl) (L1 _ rfl)) ?_
  refine zs rfl (exec_store rfl (zi t9 rfl) (zg zz rfl) ES) ?_
  exact ze rfl (h _ _ (rfl) rfl)
theorem fg_99_0 (b o : Nat) (w : World) : (Instr.fieldAt 99 (.pointer (some ⟨b, o, none⟩)) 0).run Tryz.prog w = .ok (.pointer (some ⟨b, o + 0, none⟩)) w := by go_simp
theorem fg_90_0 (b o : Nat) (w : World) : (Instr.fieldAt 90 (.pointer (some ⟨b, o, none⟩)) 0).run Tryz.prog w = .ok (.pointer (some ⟨b, o + 0, none⟩)) w := by go_simp
theorem fg_42_1 (b o : Nat) (w : World) : (Instr.fieldAt 42 (.pointer (some ⟨b, o, none⟩)) 1).run Tryz.prog w = .ok (.pointer (some ⟨b, o + 1, none⟩)) w := by go_simp
theorem fg_42_2 (b o : Nat) (w : World) : (Instr.fieldAt 42 (.pointer (some ⟨b, o, none⟩)) 2).run Tryz.prog w = .ok (.pointer (some ⟨b, o + 34, none⟩)) w := by go_simp
theorem fg_42_3 (b o : Nat) (w : World) : (Instr.fieldAt 42 (.pointer (some ⟨b, o, none⟩)) 3).run Tryz.prog w = .ok (.pointer (some ⟨b, o + 67, none⟩)) w := by go_simp
theorem fg_42_4 (b o : Nat) (w : World) : (Instr.fieldAt 42 (.pointer (some ⟨b, o, none⟩)) 4).run Tryz.prog w = .ok (.pointer (some ⟨b, o + 100, none⟩)) w := by go_simp
theorem fg_42_5 (b o : Nat) (w : World) : (Instr.fieldAt 42 (.pointer (some ⟨b, o, none⟩)) 5).run Tryz.prog w = .ok (.pointer (some ⟨b, o + 101, none⟩)) w := by go_simp
theorem fg_42_6 (b o : Nat) (w : World) : (Instr.fieldAt 42 (.pointer (some ⟨b, o, none⟩)) 6).run Tryz.prog w = .ok (.pointer (some ⟨b, o + 105, none⟩)) w := by go_simp
theorem len_rm (a : Option Addr) (m c : Nat) (w : World) : (Builtin.len_ #[88] 3 #[.slice a m c]).run Tryz.prog w = .ok (.int .i64 (m : Int)) w := by go_simp
theorem ix_rm {b o n c i : Nat} (hi : i < n) (hm : n ≤ 9223372036854775807) (W : World) : (Instr.indexAt 88 (.slice (some ⟨b, o, none⟩) n c) (.int .i64 (i : Int))).run Tryz.prog W = .ok (.pointer (some ⟨b, o + 105 * i, none⟩)) W := by
  rw [Nat.mul_comm]
  go_simp
theorem ix_op {b o n c i : Nat} (hi : i < n) (hm : n ≤ 9223372036854775807) (W : World) : (Instr.indexAt 22 (.slice (some ⟨b, o, none⟩) n c) (.int .i64 (i : Int))).run Tryz.prog W = .ok (.pointer (some ⟨b, o + 106 * i, none⟩)) W := by
  rw [Nat.mul_comm]
  go_simp
def rfd0_ops : Array Oper := (⟨_, rfl⟩ : {o // some o = rgB Tryz.f43 0}).1
theorem rfd0 {k : IdK} {b3 : Nat} {w1 : World} (a : Act) (w : World) (Q : Exit → Act → World → Prop) (zz : a.tmps.size = 26)
    (t1 : a.tmps.getD 1 undef = k.v)
    (E1 : (Instr.box 36 k.v).run Tryz.prog w = .ok (.pointer (some ⟨b3, 0, none⟩)) w1)
    (h : ∀ a' w', w' = w1 → a' = (a.put (some 3) (.pointer (some ⟨b3, 0, none⟩))).put (some 4) (.int .i64 0) → Q .normal a' w') :
    (Code.region 0 rfd0_ops false).wp Tryz.prog Q a w := by
  refine z0 rfl ?_
  refine zv (v := .pointer (some ⟨b3, 0, none⟩)) rfl (exec_boxM rfl (zi t1 rfl) E1) ?_
  refine zv rfl (xas rfl rfl) ?_
  exact ze rfl (h _ _ (rfl) rfl)
def rfd2_ops : Array Oper := (⟨_, rfl⟩ : {o // some o = rgB Tryz.f43 2}).1
theorem rfd2 {rb n c i : Nat} {la : Option Addr} {r : Bool} (a : Act) (w : World) (Q : Exit → Act → World → Prop) (zz : a.tmps.size = 26)
    (t0 : a.tmps.getD 0 undef = .pointer (some ⟨rb, 0, none⟩))
    (t5 : a.tmps.getD 5 undef = .int .i64 (i : Int))
    (hr : decide ((i : Int) < (n : Int)) = r) (LL : (Instr.loadAt 88 (.pointer (some ⟨rb, 0 + 0, none⟩))).run Tryz.prog w = .ok (.slice la n c) w)
    (h : ∀ a' w', w' = w → a' = ((((((a.put (some 6) (.int .i64 (i : Int))).put (some 7) (.pointer (some ⟨rb, 0, none⟩))).put (some 8) (.pointer (some ⟨rb, 0, none⟩))).put (some 9) (.pointer (some ⟨rb, 0 + 0, none⟩))).put (some 10) (.slice la n c)).put (some 11) (.int .i64 (n : Int))).put (some 12) (.bool r) → Q .normal a' w') :
    (Code.region 2 rfd2_ops false).wp Tryz.prog Q a w := by
  refine z0 rfl ?_
  refine zv rfl (xmv rfl (zi t5 rfl)) ?_
  refine zv rfl (xmv rfl (zi t0 rfl)) ?_
  refine zv rfl (xnc rfl (zg zz rfl)) ?_
  refine zv rfl (xfa rfl (zg zz rfl) (fg_90_0 _ _ _)) ?_
  refine zv rfl (xld rfl (zg zz rfl) LL) ?_
  refine zv rfl (exec_len rfl (zg zz rfl) (len_rm _ _ _ _)) ?_
  refine zv (v := .bool r) rfl (ex_lss rfl (zg zz rfl) (zg zz rfl) hr) ?_
  exact ze rfl (h _ _ (rfl) rfl)
def rfd4_ops : Array Oper := (⟨_, rfl⟩ : {o // some o = rgB Tryz.f43 4}).1
theorem rfd4 {rb b3 g o n c i : Nat} {q k : IdK} {r : Bool} (S : World → Prop) (a : Act) (w : World) (Q : Exit → Act → World → Prop) (zz : a.tmps.size = 26)
    (t0 : a.tmps.getD 0 undef = .pointer (some ⟨rb, 0, none⟩))
    (t3 : a.tmps.getD 3 undef = .pointer (some ⟨b3, 0, none⟩))
    (t5 : a.tmps.getD 5 undef = .int .i64 (i : Int))
    (h0 : S w.drew) (hi : i < n) (hm : n ≤ 9223372036854775807) (hq : q.ok) (hk : k.ok) (hz : decide (q = k) = r) (LL : ∀ W, S W → (Instr.loadAt 88 (.pointer (some ⟨rb, 0 + 0, none⟩))).run Tryz.prog W = .ok (.slice (some ⟨g, o, none⟩) n c) W) (LX : ∀ W, S W → (Instr.loadAt 36 (.pointer (some ⟨g, o + 105 * i + 0, none⟩))).run Tryz.prog W = .ok (q.v) W) (LK : ∀ W, S W → (Instr.loadAt 36 (.pointer (some ⟨b3, 0, none⟩))).run Tryz.prog W = .ok (k.v) W)
    (h : ∀ a' w', S w' → a' = (((((((((a.put (some 15) (.pointer (some ⟨rb, 0, none⟩))).put (some 16) (.pointer (some ⟨rb, 0, none⟩))).put (some 17) (.pointer (some ⟨rb, 0 + 0, none⟩))).put (some 18) (.slice (some ⟨g, o, none⟩) n c)).put (some 19) (.int .i64 (i : Int))).put (some 20) (.pointer (some ⟨g, o + 105 * i, none⟩))).put (some 21) (.pointer (some ⟨g, o + 105 * i + 0, none⟩))).put (some 22) (q.v)).put (some 23) (k.v)).put (some 24) (.bool r) → Q .normal a' w') :
    (Code.region 4 rfd4_ops true).wp Tryz.prog Q a w := by
  refine y0 (fun w' => S w') (h0) (fun hHeld => ?_)
  refine yv 0 rfl rfl (fun w1 hw => xmv rfl (zi t0 rfl)) hHeld ?_
  refine yv 1 rfl rfl (fun w1 hw => xnc rfl (zg zz rfl)) hHeld ?_
  refine yv 2 rfl rfl (fun w1 hw => xfa rfl (zg zz rfl) (fg_90_0 _ _ _)) hHeld ?_
  refine yv 3 rfl rfl (fun w1 hw => xld rfl (zg zz rfl) (LL _ hw)) hHeld ?_
  refine yv 4 rfl rfl (fun w1 hw => xmv rfl (zi t5 rfl)) hHeld ?_
  refine yv 5 rfl rfl (fun w1 hw => xia rfl (zg zz rfl) (zg zz rfl) (ix_rm hi hm _)) hHeld ?_
  refine yv 6 rfl rfl (fun w1 hw => xfa rfl (zg zz rfl) (fg_99_0 _ _ _)) hHeld ?_
  refine yv 7 rfl rfl (fun w1 hw => xld rfl (zg zz rfl) (LX _ hw)) hHeld ?_
  refine yv 8 rfl rfl (fun w1 hw => xld rfl (zi t3 rfl) (LK _ hw)) hHeld ?_
  refine yv (v := .bool r) 9 rfl rfl (fun w1 hw => ex_eqlI rfl (zg zz rfl) (zg zz rfl) hq hk hz) hHeld ?_
  exact ye rfl (h _ _ (hHeld) rfl)
def rad3a_ops : Array Oper := (⟨_, rfl⟩ : {o // some o = rgB Tryz.f13 3}).1
theorem rad3a {b1 : Nat} {k : IdK} (a : Act) (w : World) (Q : Exit → Act → World → Prop) (zz : a.tmps.size = 65)
    (t8 : a.tmps.getD 8 undef = .pointer (some ⟨b1, 0, none⟩))
    (hn : decide (k.n < 1) = true) (LN : ∀ W, W = w → (Instr.loadAt 3 (.pointer (some ⟨b1, 0 + 32, none⟩))).run Tryz.prog W = .ok (.int .i64 k.n) W)
    (h : ∀ a' w', w' = w → a' = (((((((((((a.put (some 19) (.pointer (some ⟨b1, 0 + 32, none⟩))).put (some 20) (.int .i64 k.n)).put (some 21) (.bool true)).put (some 22) (.bool true)).put (some 23) (undef)).put (some 24) (undef)).put (some 25) (.bool true)).put (some 26) (.bool true)).put (some 27) (undef)).put (some 28) (undef)).put (some 29) (.bool true)).put (some 18) (.bool true) → Q .normal a' w') :
    (Code.region 3 rad3a_ops false).wp Tryz.prog Q a w := by
  refine z0 rfl ?_
  refine zv rfl (xfa rfl (zi t8 rfl) (fg_36_1 _ _ _)) ?_
  refine zv rfl (xld rfl (zg zz rfl) (LN _ rfl)) ?_
  refine zv (v := .bool true) rfl (ex_lss rfl (zg zz rfl) rfl hn) ?_
  refine zv rfl (xmv rfl (zg zz rfl)) ?_
  iterate 2 refine zn (zx zz rfl rfl rfl (zg zz rfl)) ?_
  refine zv rfl (exec_pickT rfl (zg zz rfl) rfl) ?_
  refine zv rfl (xmv rfl (zg zz rfl)) ?_
  iterate 2 refine zn (zx zz rfl rfl rfl (zg zz rfl)) ?_
  refine zv rfl (exec_pickT rfl (zg zz rfl) rfl) ?_
  refine zv rfl (xas rfl (zg zz rfl)) ?_
  exact ze rfl (h _ _ (rfl) rfl)
theorem rad3b {b1 : Nat} {k : IdK} {sd : Int} (a : Act) (w : World) (Q : Exit → Act → World → Prop) (zz : a.tmps.size = 65)
    (t8 : a.tmps.getD 8 undef = .pointer (some ⟨b1, 0, none⟩))
    (t6 : a.tmps.getD 6 undef = .int .i64 sd)
    (hn : decide (k.n < 1) = false) (h1 : decide (sd < 0) = true) (LN : ∀ W, W = w → (Instr.loadAt 3 (.pointer (some ⟨b1, 0 + 32, none⟩))).run Tryz.prog W = .ok (.int .i64 k.n) W)
    (h : ∀ a' w', w' = w → a' = (((((((((((a.put (some 19) (.pointer (some ⟨b1, 0 + 32, none⟩))).put (some 20) (.int .i64 k.n)).put (some 21) (.bool false)).put (some 22) (.bool false)).put (some 23) (.int .i64 sd)).put (some 24) (.bool true)).put (some 25) (.bool true)).put (some 26) (.bool true)).put (some 27) (undef)).put (some 28) (undef)).put (some 29) (.bool true)).put (some 18) (.bool true) → Q .normal a' w') :
    (Code.region 3 rad3a_ops false).wp Tryz.prog Q a w := by
  refine z0 rfl ?_
  refine zv rfl (xfa rfl (zi t8 rfl) (fg_36_1 _ _ _)) ?_
  refine zv rfl (xld rfl (zg zz rfl) (LN _ rfl)) ?_
  refine zv (v := .bool false) rfl (ex_lss rfl (zg zz rfl) rfl hn) ?_
  refine zv rfl (xmv rfl (zg zz rfl)) ?_
  refine zv (zw zz rfl rfl rfl (zg zz rfl)) (xmv rfl (zi t6 rfl)) ?_
  refine zv (v := .bool true) (zw zz rfl rfl rfl (zg zz rfl)) (ex_lss rfl (zg zz rfl) rfl h1) ?_
  refine zv rfl (exec_pickF rfl (zg zz rfl) (zg zz rfl)) ?_
  refine zv rfl (xmv rfl (zg zz rfl)) ?_
  iterate 2 refine zn (zx zz rfl rfl rfl (zg zz rfl)) ?_
  refine zv rfl (exec_pickT rfl (zg zz rfl) rfl) ?_
  refine zv rfl (xas rfl (zg zz rfl)) ?_
  exact ze rfl (h _ _ (rfl) rfl)
theorem rad3c {b1 : Nat} {k : IdK} {sd : Int} {r : Bool} (a : Act) (w : World) (Q : Exit → Act → World → Prop) (zz : a.tmps.size = 65)
    (t8 : a.tmps.getD 8 undef = .pointer (some ⟨b1, 0, none⟩))
    (t6 : a.tmps.getD 6 undef = .int .i64 sd)
    (hn : decide (k.n < 1) = false) (h1 : decide (sd < 0) = false) (h2 : decide (sd > 3) = r) (LN : ∀ W, W = w → (Instr.loadAt 3 (.pointer (some ⟨b1, 0 + 32, none⟩))).run Tryz.prog W = .ok (.int .i64 k.n) W)
    (h : ∀ a' w', w' = w → a' = (((((((((((a.put (some 19) (.pointer (some ⟨b1, 0 + 32, none⟩))).put (some 20) (.int .i64 k.n)).put (some 21) (.bool false)).put (some 22) (.bool false)).put (some 23) (.int .i64 sd)).put (some 24) (.bool false)).put (some 25) (.bool false)).put (some 26) (.bool false)).put (some 27) (.int .i64 sd)).put (some 28) (.bool r)).put (some 29) (.bool r)).put (some 18) (.bool r) → Q .normal a' w') :
    (Code.region 3 rad3a_ops false).wp Tryz.prog Q a w := by
  refine z0 rfl ?_
  refine zv rfl (xfa rfl (zi t8 rfl) (fg_36_1 _ _ _)) ?_
  refine zv rfl (xld rfl (zg zz rfl) (LN _ rfl)) ?_
  refine zv (v := .bool false) rfl (ex_lss rfl (zg zz rfl) rfl hn) ?_
  refine zv rfl (xmv rfl (zg zz rfl)) ?_
  refine zv (zw zz rfl rfl rfl (zg zz rfl)) (xmv rfl (zi t6 rfl)) ?_
  refine zv (v := .bool false) (zw zz rfl rfl rfl (zg zz rfl)) (ex_lss rfl (zg zz rfl) rfl h1) ?_
  refine zv rfl (exec_pickF rfl (zg zz rfl) (zg zz rfl)) ?_
  refine zv rfl (xmv rfl (zg zz rfl)) ?_
  refine zv (zw zz rfl rfl rfl (zg zz rfl)) (xmv rfl (zi t6 rfl)) ?_
  refine zv (v := .bool r) (zw zz rfl rfl rfl (zg zz rfl)) (ex_gtr rfl (zg zz rfl) rfl h2) ?_
  refine zv rfl (exec_pickF rfl (zg zz rfl) (zg zz rfl)) ?_
  refine zv rfl (xas rfl (zg zz rfl)) ?_
  exact ze rfl (h _ _ (rfl) rfl)
def rad5_ops : Array Oper := (⟨_, rfl⟩ : {o // some o = rgB Tryz.f13 5}).1
theorem rad5 {rb b1 : Nat} {k : IdK} {r : Bool} (Fin : World → Prop) (a : Act) (w : World) (Q : Exit → Act → World → Prop) (zz : a.tmps.size = 65)
    (t0 : a.tmps.getD 0 undef = .pointer (some ⟨rb, 0, none⟩))
    (t8 : a.tmps.getD 8 undef = .pointer (some ⟨b1, 0, none⟩))
    (LK : ∀ W, W = w → (Instr.loadAt 36 (.pointer (some ⟨b1, 0, none⟩))).run Tryz.prog W = .ok (k.v) W) (CH : Calls Tryz.prog 43 #[.pointer (some ⟨rb, 0, none⟩), k.v] w fun e w' => ∃ z, e = .returned (.int .i64 z) ∧ decide (z ≥ 0) = r ∧ Fin w')
    (h : ∀ (z : Int) a' w', Fin w' → a' = ((((a.put (some 31) (.pointer (some ⟨rb, 0, none⟩))).put (some 32) (k.v)).put (some 33) (.int .i64 z)).put (some 34) (.bool r)).put (some 30) (.bool r) → Q .normal a' w') :
    (Code.region 5 rad5_ops false).wp Tryz.prog Q a w := by
  refine z0 rfl ?_
  refine zv rfl (xmv rfl (zi t0 rfl)) ?_
  refine zv rfl (xld rfl (zi t8 rfl) (LK _ rfl)) ?_
  refine zc rfl (exec_c2 rfl (zg zz rfl) (zg zz rfl)) (CH) (fun e x2 hx => ?_)
  obtain ⟨z, rfl, hr, HF⟩ := hx
  replace h := h z
  refine ⟨_, rfl, ?_⟩
  refine zv (v := .bool r) rfl (ex_geq rfl (zg zz rfl) rfl hr) ?_
  refine zv rfl (xas rfl (zg zz rfl)) ?_
  exact ze rfl (h _ _ (HF) rfl)
def rad7_ops : Array Oper := (⟨_, rfl⟩ : {o // some o = rgB Tryz.f13 7}).1
theorem rad7 {nm : ByteArray} {r : Bool} (Fin : World → Prop) (a : Act) (w : World) (Q : Exit → Act → World → Prop) (zz : a.tmps.size = 65)
    (t2 : a.tmps.getD 2 undef = .string nm)
    (CK : Calls Tryz.prog 37 #[.string nm] w fun e w' => e = .returned (.bool r) ∧ Fin w')
    (h : ∀ a' w', Fin w' → a' = (((a.put (some 36) (.string nm)).put (some 37) (.bool r)).put (some 38) (.bool (!r))).put (some 35) (.bool (!r)) → Q .normal a' w') :
    (Code.region 7 rad7_ops false).wp Tryz.prog Q a w := by
  refine z0 rfl ?_
  refine zv rfl (xmv rfl (zi t2 rfl)) ?_
  refine zc rfl (exec_c1 rfl (zg zz rfl)) (CK) (fun e x1 hx => ?_)
  obtain ⟨rfl, HF⟩ := hx
  refine ⟨_, rfl, ?_⟩
  refine zv rfl (exec_not rfl (zg zz rfl)) ?_
  refine zv rfl (xas rfl (zg zz rfl)) ?_
  exact ze rfl (h _ _ (HF) rfl)
def rad9a_ops : Array Oper := (⟨_, rfl⟩ : {o // some o = rgB Tryz.f13 9}).1
theorem rad9a {b2 : Nat} {x : VaV} {z : Int} (Fin : World → Prop) (a : Act) (w : World) (Q : Exit → Act → World → Prop) (zz : a.tmps.size = 65)
    (t10 : a.tmps.getD 10 undef = .pointer (some ⟨b2, 0, none⟩))
    (hz : decide (z ≠ 0) = true) (LV : ∀ W, W = w → (Instr.loadAt 40 (.pointer (some ⟨b2, 0, none⟩))).run Tryz.prog W = .ok (x.v) W) (CR : Calls Tryz.prog 44 #[x.v] w fun e w' => e = .returned (.int .i64 z) ∧ Fin w')
    (h : ∀ a' w', Fin w' → a' = (((((((((a.put (some 40) (x.v)).put (some 41) (.int .i64 z)).put (some 42) (.bool true)).put (some 43) (.bool true)).put (some 44) (undef)).put (some 45) (undef)).put (some 46) (undef)).put (some 47) (undef)).put (some 48) (.bool true)).put (some 39) (.bool true) → Q .normal a' w') :
    (Code.region 9 rad9a_ops false).wp Tryz.prog Q a w := by
  refine z0 rfl ?_
  refine zv rfl (xld rfl (zi t10 rfl) (LV _ rfl)) ?_
  refine zc rfl (exec_c1 rfl (zg zz rfl)) (CR) (fun e x1 hx => ?_)
  obtain ⟨rfl, HF⟩ := hx
  refine ⟨_, rfl, ?_⟩
  refine zv (v := .bool true) rfl (ex_neqE rfl (zg zz rfl) rfl hz) ?_
  refine zv rfl (xmv rfl (zg zz rfl)) ?_
  iterate 4 refine zn (zx zz rfl rfl rfl (zg zz rfl)) ?_
  refine zv rfl (exec_pickT rfl (zg zz rfl) rfl) ?_
  refine zv rfl (xas rfl (zg zz rfl)) ?_
  exact ze rfl (h _ _ (HF) rfl)
theorem rad9b {b2 : Nat} {x : VaV} {z : Int} {r : Bool} (Fin : World → Prop) (a : Act) (w : World) (Q : Exit → Act → World → Prop) (zz : a.tmps.size = 65)
    (t10 : a.tmps.getD 10 undef = .pointer (some ⟨b2, 0, none⟩))
    (hz : decide (z ≠ 0) = false) (LV : ∀ W, W = w → (Instr.loadAt 40 (.pointer (some ⟨b2, 0, none⟩))).run Tryz.prog W = .ok (x.v) W) (CR : Calls Tryz.prog 44 #[x.v] w fun e w' => e = .returned (.int .i64 z) ∧ (Instr.loadAt 37 (.pointer (some ⟨b2, 0 + 0, none⟩))).run Tryz.prog w' = .ok (.int .u8 x.k) w' ∧ Calls Tryz.prog 45 #[.int .u8 x.k] w' fun e w2 => e = .returned (.bool r) ∧ Fin w2)
    (h : ∀ a' w', Fin w' → a' = (((((((((a.put (some 40) (x.v)).put (some 41) (.int .i64 z)).put (some 42) (.bool false)).put (some 43) (.bool false)).put (some 44) (.pointer (some ⟨b2, 0 + 0, none⟩))).put (some 45) (.int .u8 x.k)).put (some 46) (.bool r)).put (some 47) (.bool (!r))).put (some 48) (.bool (!r))).put (some 39) (.bool (!r)) → Q .normal a' w') :
    (Code.region 9 rad9a_ops false).wp Tryz.prog Q a w := by
  refine z0 rfl ?_
  refine zv rfl (xld rfl (zi t10 rfl) (LV _ rfl)) ?_
  refine zc rfl (exec_c1 rfl (zg zz rfl)) (CR) (fun e x1 hx => ?_)
  obtain ⟨rfl, LKD, CS⟩ := hx
  refine ⟨_, rfl, ?_⟩
  refine zv (v := .bool false) rfl (ex_neqE rfl (zg zz rfl) rfl hz) ?_
  refine zv rfl (xmv rfl (zg zz rfl)) ?_
  refine zv (zw zz rfl rfl rfl (zg zz rfl)) (xfa rfl (zi t10 rfl) (fg_40_0 _ _ _)) ?_
  refine zv (zw zz rfl rfl rfl (zg zz rfl)) (xld rfl (zg zz rfl) LKD) ?_
  refine zc (zw zz rfl rfl rfl (zg zz rfl)) (exec_c1 rfl (zg zz rfl)) (CS) (fun e x6 hx => ?_)
  obtain ⟨rfl, HF⟩ := hx
  refine ⟨_, rfl, ?_⟩
  refine zv (zw zz rfl rfl rfl (zg zz rfl)) (exec_not rfl (zg zz rfl)) ?_
  refine zv rfl (exec_pickF rfl (zg zz rfl) (zg zz rfl)) ?_
  refine zv rfl (xas rfl (zg zz rfl)) ?_
  exact ze rfl (h _ _ (HF) rfl)
def rad11_ops : Array Oper := (⟨_, rfl⟩ : {o // some o = rgB Tryz.f13 11}).1
theorem rad11 {rb b1 b2 b3 b4 : Nat} {x : MkV} {lv sv v2 : Value} {w1 w2 w3 : World} (S : World → Prop) (a : Act) (w : World) (Q : Exit → Act → World → Prop) (zz : a.tmps.size = 65)
    (t0 : a.tmps.getD 0 undef = .pointer (some ⟨rb, 0, none⟩))
    (t2 : a.tmps.getD 2 undef = .string x.nm)
    (t6 : a.tmps.getD 6 undef = .int .i64 x.sd)
    (t8 : a.tmps.getD 8 undef = .pointer (some ⟨b1, 0, none⟩))
    (t10 : a.tmps.getD 10 undef = .pointer (some ⟨b2, 0, none⟩))
    (t11 : a.tmps.getD 11 undef = .pointer (some ⟨b3, 0, none⟩))
    (t12 : a.tmps.getD 12 undef = .pointer (some ⟨b4, 0, none⟩))
    (h0 : S w.drew) (L0 : ∀ W, S W → (Instr.loadAt 88 (.pointer (some ⟨rb, 0 + 0, none⟩))).run Tryz.prog W = .ok (lv) W) (L1 : ∀ W, S W → (Instr.loadAt 36 (.pointer (some ⟨b1, 0, none⟩))).run Tryz.prog W = .ok (x.id.v) W) (L2 : ∀ W, S W → (Instr.loadAt 40 (.pointer (some ⟨b2, 0, none⟩))).run Tryz.prog W = .ok (x.v.v) W) (L3 : ∀ W, S W → (Instr.loadAt 36 (.pointer (some ⟨b3, 0, none⟩))).run Tryz.prog W = .ok (x.fr.v) W) (L4 : ∀ W, S W → (Instr.loadAt 36 (.pointer (some ⟨b4, 0, none⟩))).run Tryz.prog W = .ok (x.to.v) W) (HB : ∀ W, (Instr.build 99 #[(0, x.id.v), (1, .string x.nm), (2, x.v.v), (3, x.fr.v), (4, x.to.v), (5, .int .i64 x.sd)]).run Tryz.prog W = .ok x.a W) (E1 : (Instr.buildSlice 88 1 #[(0, x.a)]).run Tryz.prog w.drew = .ok sv w1) (S1 : S w1) (E2 : (Builtin.append_ #[88, 88] 88 #[lv, sv]).run Tryz.prog w1 = .ok v2 w2) (S2 : S w2) (E3 : (Instr.storeAt 88 (.pointer (some ⟨rb, 0 + 0, none⟩)) v2).run Tryz.prog w2 = .ok () w3)
    (h : ∀ a' w', w' = w3 → a' = (((((((((((((((a.put (some 49) (.pointer (some ⟨rb, 0, none⟩))).put (some 50) (.pointer (some ⟨rb, 0, none⟩))).put (some 51) (.pointer (some ⟨rb, 0, none⟩))).put (some 52) (.pointer (some ⟨rb, 0 + 0, none⟩))).put (some 53) (lv)).put (some 54) (x.id.v)).put (some 55) (.string x.nm)).put (some 56) (x.v.v)).put (some 57) (x.fr.v)).put (some 58) (x.to.v)).put (some 59) (.int .i64 x.sd)).put (some 60) (x.a)).put (some 61) (sv)).put (some 62) (v2)).put (some 63) (.pointer (some ⟨rb, 0, none⟩))).put (some 64) (.pointer (some ⟨rb, 0 + 0, none⟩)) → Q .normal a' w') :
    (Code.region 11 rad11_ops true).wp Tryz.prog Q a w := by
  refine x0 16 (fun w' => S w') (h0) (fun hHeld => ?_)
  refine xv 0 rfl rfl (fun w1 hw => xmv rfl (zi t0 rfl)) hHeld ?_
  refine xv 1 rfl rfl (fun w1 hw => xmv rfl (zi t0 rfl)) hHeld ?_
  refine xv 2 rfl rfl (fun w1 hw => xnc rfl (zg zz rfl)) hHeld ?_
  refine xv 3 rfl rfl (fun w1 hw => xfa rfl (zg zz rfl) (fg_90_0 _ _ _)) hHeld ?_
  refine xv 4 rfl rfl (fun w1 hw => xld rfl (zg zz rfl) (L0 _ hw)) hHeld ?_
  refine xv 5 rfl rfl (fun w1 hw => xld rfl (zi t8 rfl) (L1 _ hw)) hHeld ?_
  refine xv 6 rfl rfl (fun w1 hw => xmv rfl (zi t2 rfl)) hHeld ?_
  refine xv 7 rfl rfl (fun w1 hw => xld rfl (zi t10 rfl) (L2 _ hw)) hHeld ?_
  refine xv 8 rfl rfl (fun w1 hw => xld rfl (zi t11 rfl) (L3 _ hw)) hHeld ?_
  refine xv 9 rfl rfl (fun w1 hw => xld rfl (zi t12 rfl) (L4 _ hw)) hHeld ?_
  refine xv 10 rfl rfl (fun w1 hw => xmv rfl (zi t6 rfl)) hHeld ?_
  refine xv 11 rfl rfl (fun w1 hw => exec_build6 rfl (zg zz rfl) (zg zz rfl) (zg zz rfl) (zg zz rfl) (zg zz rfl) (zg zz rfl) (HB _)) hHeld ?_
  refine xr (v := sv) 12 rfl rfl (exec_buildSlice rfl (zg zz rfl) E1) (fun _ => S1) (fun hHeld => ?_)
  replace hHeld := hHeld (by decide)
  refine xr (v := v2) 13 rfl rfl (exec_append rfl (zg zz rfl) (zg zz rfl) E2) (fun _ => S2) (fun hHeld => ?_)
  replace hHeld := hHeld (by decide)
  refine xv 14 rfl rfl (fun w1 hw => xnc rfl (zg zz rfl)) hHeld ?_
  refine xv 15 rfl rfl (fun w1 hw => xfa rfl (zg zz rfl) (fg_90_0 _ _ _)) hHeld ?_
  refine xs 16 rfl rfl (exec_store rfl (zg zz rfl) (zg zz rfl) E3) (fun hne => absurd rfl hne) (fun _ => ?_)
  exact xe rfl (h _ _ (rfl) rfl)
def lai16_ops : Array Oper := (⟨_, rfl⟩ : {o // some o = rgB Tryz.f32 16}).1
theorem lai16 {g o n c i ob : Nat} {x : OpM} {w1 w2 : World} (a : Act) (w : World) (Q : Exit → Act → World → Prop) (zz : a.tmps.size = 79)
    (t1 : a.tmps.getD 1 undef = .slice (some ⟨g, o, none⟩) n c)
    (t13 : a.tmps.getD 13 undef = .int .i64 (i : Int))
    (hi : i < n) (hm : n ≤ 9223372036854775807) (LX : (Instr.loadAt 42 (.pointer (some ⟨g, o + 106 * i, none⟩))).run Tryz.prog w = .ok (.agg x.c.toArray) w) (EA : (Instr.alloc 42 true (.tuple #[])).run Tryz.prog w = .ok (.pointer (some ⟨ob, 0, none⟩)) w1) (ES : (Instr.storeAt 42 (.pointer (some ⟨ob, 0, none⟩)) (.agg x.c.toArray)).run Tryz.prog w1 = .ok () w2)
    (h : ∀ a' w', w' = w2 → a' = ((((a.put (some 44) (.slice (some ⟨g, o, none⟩) n c)).put (some 45) (.int .i64 (i : Int))).put (some 46) (.pointer (some ⟨g, o + 106 * i, none⟩))).put (some 47) ((.agg x.c.toArray))).put (some 14) (.pointer (some ⟨ob, 0, none⟩)) → Q .normal a' w') :
    (Code.region 16 lai16_ops false).wp Tryz.prog Q a w := by
  refine z0 rfl ?_
  refine zv rfl (xmv rfl (zi t1 rfl)) ?_
  refine zv rfl (xmv rfl (zi t13 rfl)) ?_
  refine zv rfl (xia rfl (zg zz rfl) (zg zz rfl) (ix_op hi hm _)) ?_
  refine zv rfl (xld rfl (zg zz rfl) LX) ?_
  refine zv (v := .pointer (some ⟨ob, 0, none⟩)) rfl (exec_alloc rfl EA) ?_
  refine zs rfl (exec_store rfl (zg zz rfl) (zg zz rfl) ES) ?_
  exact ze rfl (h _ _ (rfl) rfl)
def lai17_ops : Array Oper := (⟨_, rfl⟩ : {o // some o = rgB Tryz.f32 17}).1
theorem lai17 {mb rb ob : Nat} {x : MkV} {c1 c2 : Int} {r : Bool} (S Fin : World → Prop) (a : Act) (w : World) (Q : Exit → Act → World → Prop) (zz : a.tmps.size = 79)
    (t8 : a.tmps.getD 8 undef = .pointer (some ⟨mb, 0, none⟩))
    (t12 : a.tmps.getD 12 undef = .pointer (some ⟨rb, 0, none⟩))
    (t14 : a.tmps.getD 14 undef = .pointer (some ⟨ob, 0, none⟩))
    (h0 : S w.drew) (hz : decide (c1 ≠ c2) = r) (L0 : ∀ W, S W → (Instr.loadAt 36 (.pointer (some ⟨ob, 0 + 1, none⟩))).run Tryz.prog W = .ok (x.id.v) W) (L1 : ∀ W, S W → (Instr.loadAt 9 (.pointer (some ⟨ob, 0 + 100, none⟩))).run Tryz.prog W = .ok (.string x.nm) W) (L2 : ∀ W, S W → (Instr.loadAt 40 (.pointer (some ⟨ob, 0 + 101, none⟩))).run Tryz.prog W = .ok (x.v.v) W) (L3 : ∀ W, S W → (Instr.loadAt 36 (.pointer (some ⟨ob, 0 + 34, none⟩))).run Tryz.prog W = .ok (x.fr.v) W) (L4 : ∀ W, S W → (Instr.loadAt 36 (.pointer (some ⟨ob, 0 + 67, none⟩))).run Tryz.prog W = .ok (x.to.v) W) (L5 : ∀ W, S W → (Instr.loadAt 3 (.pointer (some ⟨ob, 0 + 105, none⟩))).run Tryz.prog W = .ok (.int .i64 x.sd) W) (CA : Calls Tryz.prog 12 #[.pointer (some ⟨mb, 0, none⟩), x.id.v, .string x.nm, x.v.v, x.fr.v, x.to.v, .int .i64 x.sd] w.drew fun e w1 => e = .returned (.int .i64 c1) ∧ S w1 ∧ Calls Tryz.prog 13 #[.pointer (some ⟨rb, 0, none⟩), x.id.v, .string x.nm, x.v.v, x.fr.v, x.to.v, .int .i64 x.sd] w1 fun e w2 => e = .returned (.int .i64 c2) ∧ S w2 ∧ Fin w2)
    (h : ∀ a' w', Fin w' → a' = ((((((((((((((((((((((((((((a.put (some 48) (.pointer (some ⟨mb, 0, none⟩))).put (some 49) (.pointer (some ⟨ob, 0 + 1, none⟩))).put (some 50) (x.id.v)).put (some 51) (.pointer (some ⟨ob, 0 + 100, none⟩))).put (some 52) (.string x.nm)).put (some 53) (.pointer (some ⟨ob, 0 + 101, none⟩))).put (some 54) (x.v.v)).put (some 55) (.pointer (some ⟨ob, 0 + 34, none⟩))).put (some 56) (x.fr.v)).put (some 57) (.pointer (some ⟨ob, 0 + 67, none⟩))).put (some 58) (x.to.v)).put (some 59) (.pointer (some ⟨ob, 0 + 105, none⟩))).put (some 60) (.int .i64 x.sd)).put (some 62) (.pointer (some ⟨rb, 0, none⟩))).put (some 63) (.pointer (some ⟨ob, 0 + 1, none⟩))).put (some 64) (x.id.v)).put (some 65) (.pointer (some ⟨ob, 0 + 100, none⟩))).put (some 66) (.string x.nm)).put (some 67) (.pointer (some ⟨ob, 0 + 101, none⟩))).put (some 68) (x.v.v)).put (some 69) (.pointer (some ⟨ob, 0 + 34, none⟩))).put (some 70) (x.fr.v)).put (some 71) (.pointer (some ⟨ob, 0 + 67, none⟩))).put (some 72) (x.to.v)).put (some 73) (.pointer (some ⟨ob, 0 + 105, none⟩))).put (some 74) (.int .i64 x.sd)).put (some 61) (.int .i64 c1)).put (some 75) (.int .i64 c2)).put (some 76) (.bool r) → Q .normal a' w') :
    (Code.region 17 lai17_ops true).wp Tryz.prog Q a w := by
  refine y0 (fun w' => S w') (h0) (fun hHeld => ?_)
  refine yv 0 rfl rfl (fun w1 hw => xmv rfl (zi t8 rfl)) hHeld ?_
  refine yv 1 rfl rfl (fun w1 hw => xfa rfl (zi t14 rfl) (fg_42_1 _ _ _)) hHeld ?_
  refine yv 2 rfl rfl (fun w1 hw => xld rfl (zg zz rfl) (L0 _ hw)) hHeld ?_
  refine yv 3 rfl rfl (fun w1 hw => xfa rfl (zi t14 rfl) (fg_42_4 _ _ _)) hHeld ?_
  refine yv 4 rfl rfl (fun w1 hw => xld rfl (zg zz rfl) (L1 _ hw)) hHeld ?_
  refine yv 5 rfl rfl (fun w1 hw => xfa rfl (zi t14 rfl) (fg_42_5 _ _ _)) hHeld ?_
  refine yv 6 rfl rfl (fun w1 hw => xld rfl (zg zz rfl) (L2 _ hw)) hHeld ?_
  refine yv 7 rfl rfl (fun w1 hw => xfa rfl (zi t14 rfl) (fg_42_2 _ _ _)) hHeld ?_
  refine yv 8 rfl rfl (fun w1 hw => xld rfl (zg zz rfl) (L3 _ hw)) hHeld ?_
  refine yv 9 rfl rfl (fun w1 hw => xfa rfl (zi t14 rfl) (fg_42_3 _ _ _)) hHeld ?_
  refine yv 10 rfl rfl (fun w1 hw => xld rfl (zg zz rfl) (L4 _ hw)) hHeld ?_
  refine yv 11 rfl rfl (fun w1 hw => xfa rfl (zi t14 rfl) (fg_42_6 _ _ _)) hHeld ?_
  refine yv 12 rfl rfl (fun w1 hw => xld rfl (zg zz rfl) (L5 _ hw)) hHeld ?_
  refine yv 14 rfl rfl (fun w1 hw => xmv rfl (zi t12 rfl)) hHeld ?_
  refine yv 15 rfl rfl (fun w1 hw => xfa rfl (zi t14 rfl) (fg_42_1 _ _ _)) hHeld ?_
  refine yv 16 rfl rfl (fun w1 hw => xld rfl (zg zz rfl) (L0 _ hw)) hHeld ?_
  refine yv 17 rfl rfl (fun w1 hw => xfa rfl (zi t14 rfl) (fg_42_4 _ _ _)) hHeld ?_
  refine yv 18 rfl rfl (fun w1 hw => xld rfl (zg zz rfl) (L1 _ hw)) hHeld ?_
  refine yv 19 rfl rfl (fun w1 hw => xfa rfl (zi t14 rfl) (fg_42_5 _ _ _)) hHeld ?_
  refine yv 20 rfl rfl (fun w1 hw => xld rfl (zg zz rfl) (L2 _ hw)) hHeld ?_
  refine yv 21 rfl rfl (fun w1 hw => xfa rfl (zi t14 rfl) (fg_42_2 _ _ _)) hHeld ?_
  refine yv 22 rfl rfl (fun w1 hw => xld rfl (zg zz rfl) (L3 _ hw)) hHeld ?_
  refine yv 23 rfl rfl (fun w1 hw => xfa rfl (zi t14 rfl) (fg_42_3 _ _ _)) hHeld ?_
  refine yv 24 rfl rfl (fun w1 hw => xld rfl (zg zz rfl) (L4 _ hw)) hHeld ?_
  refine yv 25 rfl rfl (fun w1 hw => xfa rfl (zi t14 rfl) (fg_42_6 _ _ _)) hHeld ?_
  refine yv 26 rfl rfl (fun w1 hw => xld rfl (zg zz rfl) (L5 _ hw)) hHeld ?_
  refine yc 13 rfl rfl (exec_c7 rfl (zg zz rfl) (zg zz rfl) (zg zz rfl) (zg zz rfl) (zg zz rfl) (zg zz rfl) (zg zz rfl)) (CA) (fun e x13 hx => ?_)
  obtain ⟨rfl, S0, CB⟩ := hx
  refine ⟨_, rfl, S0, fun hHeld => ?_⟩
  refine yc 27 rfl rfl (exec_c7 rfl (zg zz rfl) (zg zz rfl) (zg zz rfl) (zg zz rfl) (zg zz rfl) (zg zz rfl) (zg zz rfl)) (CB) (fun e x27 hx => ?_)
  obtain ⟨rfl, S1, HF⟩ := hx
  refine ⟨_, rfl, S1, fun hHeld => ?_⟩
  refine yv (v := .bool r) 28 rfl rfl (fun w1 hw => ex_neqE rfl (zg zz rfl) (zg zz rfl) hz) hHeld ?_
  exact ye rfl (h _ _ (HF) rfl)
end Go.Proofs.YtifendlpeebofaaGreatDoor
