import Derived.Test.YtldlljobofnmmaaDoorP0
import Derived.Test.YtldlljobofnmmaaDoorP1
import Derived.Shelf.Abstract
import Derived.LaidEqlPtr
set_option maxRecDepth 100000
set_option maxHeartbeats 4000000
namespace Go.Proofs.YtldlljobofnmmaaDoor
open Go.RowKit
set_option linter.unusedVariables false
set_option linter.unusedSimpArgs false
theorem build_en0 (w : World) (k n f s : Value) (a0 a1 a2 a3 a4 a5 a6 a7 a8 a9 a10 a11 a12 a13 a14 a15 a16 a17 a18 a19 a20 a21 a22 a23 a24 a25 a26 a27 a28 a29 a30 a31 a32 : Value) : (Instr.build 63 #[(0, .agg [a0, a1, a2, a3, a4, a5, a6, a7, a8, a9, a10, a11, a12, a13, a14, a15, a16, a17, a18, a19, a20, a21, a22, a23, a24, a25, a26, a27, a28, a29, a30, a31, a32].toArray), (1, .agg [k, n, f, s].toArray)]).run Tryd.prog w = .ok (.agg ([a0, a1, a2, a3, a4, a5, a6, a7, a8, a9, a10, a11, a12, a13, a14, a15, a16, a17, a18, a19, a20, a21, a22, a23, a24, a25, a26, a27, a28, a29, a30, a31, a32] ++ [k, n, f, s]).toArray) w := by kernel_rfl
theorem build_en (w : World) {i : IdK} (hi : i.ok) (x : VaV) : (Instr.build 63 #[(0, i.v), (1, x.v)]).run Tryd.prog w = .ok (EnV.a ⟨i, x⟩) w := by
  have h := IdK.len hi
  unfold EnV.a EnV.c IdK.v VaV.v VaV.c
  simp only
  generalize i.c = l at *
  match l, h with
  | a0 :: a1 :: a2 :: a3 :: a4 :: a5 :: a6 :: a7 :: a8 :: a9 :: a10 :: a11 :: a12 :: a13 :: a14 :: a15 :: a16 :: a17 :: a18 :: a19 :: a20 :: a21 :: a22 :: a23 :: a24 :: a25 :: a26 :: a27 :: a28 :: a29 :: a30 :: a31 :: a32 :: [], _ => exact build_en0 w _ _ _ _ a0 a1 a2 a3 a4 a5 a6 a7 a8 a9 a10 a11 a12 a13 a14 a15 a16 a17 a18 a19 a20 a21 a22 a23 a24 a25 a26 a27 a28 a29 a30 a31 a32
theorem exec_ben {w : World} {a : Act} {o : Oper} {x y : Operand} {i : IdK} {v : VaV} (hi : i.ok) (ho : o.op = .build 63 #[(0, x), (1, y)]) (hx : a.eval x = i.v) (hy : a.eval y = v.v) : (execOp a.eval o).run Tryd.prog w = .ok (.value (EnV.a ⟨i, v⟩)) w :=
  exec_build ho (by simp [hx, hy]) (build_en w hi v)
theorem exec_sub1 {w : World} {a : Act} {o : Oper} {x y : Operand} {n d : Nat} (ho : o.op = .binOp .sub 3 x y 3) (hx : a.eval x = .int .i64 (n : Int)) (hy : a.eval y = .int .i64 1) (hd : d + 1 = n) (hs : n ≤ 9223372036854775800) : (execOp a.eval o).run Tryd.prog w = .ok (.value (.int .i64 (d : Int))) w := by
  refine exec_binOp ho hx hy ?_ ?_
  · kernel_rfl
  · have e : IntKind.i64.wrap ((n : Int) - 1) = (d : Int) := by rw [IntKind.wrap_i64]; omega
    have h : (binOp .sub 3 (.int .i64 (n : Int)) (.int .i64 1)).run Tryd.prog w = .ok (.int .i64 (IntKind.i64.wrap ((n : Int) - 1))) w := by kernel_rfl
    rw [h, e]
def put0_o0 : Oper := ⟨some 6, .box 52 (.tmp 1), 0, "regs.go:48", #[], none⟩
def put0_o1 : Oper := ⟨some 7, .box 38 (.tmp 2), 0, "regs.go:48", #[], none⟩
def put0_o2 : Oper := ⟨some 8, .box 42 (.tmp 3), 0, "regs.go:48", #[], none⟩
def put0_o3 : Oper := ⟨some 10, .assign (Operand.const (Value.pointer none)), 54, "regs.go:48", #[], none⟩
def put0_ops : Array Oper := #[put0_o0, put0_o1, put0_o2, put0_o3]
theorem put0 {b0 b1 b2 : Nat} {p : PlK} {id : IdK} {x : VaV} {w1 w2 w3 : World} (a : Act) (w : World) (Q : Exit → Act → World → Prop) (zz : a.tmps.size = 41)
    (t1 : a.tmps.getD 1 undef = p.v)
    (t2 : a.tmps.getD 2 undef = id.v)
    (t3 : a.tmps.getD 3 undef = x.v)
    (E0 : (Instr.box 52 p.v).run Tryd.prog w = .ok (.pointer (some ⟨b0, 0, none⟩)) w1) (E1 : (Instr.box 38 id.v).run Tryd.prog w1 = .ok (.pointer (some ⟨b1, 0, none⟩)) w2) (E2 : (Instr.box 42 x.v).run Tryd.prog w2 = .ok (.pointer (some ⟨b2, 0, none⟩)) w3)
    (h : ∀ (a' : Act) (w' : World), w' = w3 → a' = ((((a).put (some 6) (.pointer (some ⟨b0, 0, none⟩))).put (some 7) (.pointer (some ⟨b1, 0, none⟩))).put (some 8) (.pointer (some ⟨b2, 0, none⟩))).put (some 10) (.pointer none) → Q .normal a' w') :
    (Code.region 0 put0_ops false).wp Tryd.prog Q a w := by
  refine z0 rfl ?_
  refine zv (v := .pointer (some ⟨b0, 0, none⟩)) rfl (exec_boxE rfl (zi t1 rfl) E0) ?_
  refine zv (v := .pointer (some ⟨b1, 0, none⟩)) rfl (exec_boxE rfl (zi t2 rfl) E1) ?_
  refine zv (v := .pointer (some ⟨b2, 0, none⟩)) rfl (exec_boxE rfl (zi t3 rfl) E2) ?_
  refine zv rfl (exec_assign rfl rfl) ?_
  exact ze rfl (h _ _ (rfl) rfl)
def put3_o0 : Oper := ⟨some 14, .move (.tmp 0), 26, "regs.go:52", #[], none⟩
def put3_o1 : Oper := ⟨some 15, .nilCheck (.tmp 14), 0, "regs.go:52", #[⟨0, .data⟩], none⟩
def put3_o2 : Oper := ⟨some 16, .fieldAddr 84 (.tmp 15) 0, 0, "regs.go:52", #[⟨1, .data⟩], none⟩
def put3_o3 : Oper := ⟨some 17, .load 81 (.tmp 16), 81, "regs.go:52", #[⟨2, .data⟩], none⟩
def put3_o4 : Oper := ⟨some 18, .load 52 (.tmp 6), 52, "regs.go:52", #[], none⟩
def put3_o5 : Oper := ⟨some 19, .lookup 81 (.tmp 17) (.tmp 18) false, 60, "regs.go:52", #[⟨3, .data⟩, ⟨4, .data⟩], none⟩
def put3_o6 : Oper := ⟨some 20, .move (.tmp 4), 80, "regs.go:52", #[], none⟩
def put3_o7 : Oper := ⟨some 21, .call { callee := Callee.value (Operand.func 48), args := #[.tmp 19, .tmp 20], argTypes := #[60, 80] }, 101, "regs.go:52", #[⟨5, .data⟩, ⟨6, .data⟩], none⟩
def put3_o8 : Oper := ⟨some 11, .alloc 101, 0, "regs.go:52", #[], none⟩
def put3_o9 : Oper := ⟨none, .store 101 (.tmp 11) (.tmp 21), 0, "regs.go:52", #[⟨8, .data⟩, ⟨7, .data⟩, ⟨7, .chain⟩, ⟨0, .phase⟩, ⟨1, .phase⟩, ⟨2, .phase⟩, ⟨3, .phase⟩, ⟨4, .phase⟩, ⟨5, .phase⟩, ⟨6, .phase⟩, ⟨7, .phase⟩, ⟨8, .phase⟩], none⟩
def put3_ops : Array Oper := #[put3_o0, put3_o1, put3_o2, put3_o3, put3_o4, put3_o5, put3_o6, put3_o7, put3_o8, put3_o9]
theorem put3 {rb mb pb tb2 : Nat} {p : PlK} {fv lv : Value} {y1 : World} (S : World → Prop) (Fin : Nat → Value → World → Prop) (a : Act) (w : World) (Q : Exit → Act → World → Prop) (hsz : a.tmps.size = 41)
    (t0 : a.tmps.getD 0 undef = .pointer (some ⟨rb, 0, none⟩))
    (t4 : a.tmps.getD 4 undef = fv)
    (t6 : a.tmps.getD 6 undef = .pointer (some ⟨pb, 0, none⟩))
    (h0 : S w.drew) (LR : ∀ W, S W → (Instr.loadAt 81 (.pointer (some ⟨rb, 0 + 0, none⟩))).run Tryd.prog W = .ok (.map (some mb)) W) (LP : ∀ W, S W → (Instr.loadAt 52 (.pointer (some ⟨pb, 0, none⟩))).run Tryd.prog W = .ok (p.v) W) (LK : ∀ W, S W → (Instr.lookup 81 (.map (some mb)) p.v false).run Tryd.prog W = .ok lv W) (CA : Calls Tryd.prog 48 #[lv, fv] w.drew fun e w' => ∃ tv tb wa wb, e = .returned tv ∧ S w' ∧ (Instr.alloc 101 true (.tuple #[])).run Tryd.prog w' = .ok (.pointer (some ⟨tb, 0, none⟩)) wa ∧ S wa ∧ (Instr.storeAt 101 (.pointer (some ⟨tb, 0, none⟩)) tv).run Tryd.prog wa = .ok () wb ∧ S wb ∧ Fin tb tv wb) (EB : (Instr.alloc 101 true (.tuple #[])).run Tryd.prog w.drew = .ok (.pointer (some ⟨tb2, 0, none⟩)) y1) (S4 : S y1) (CB : Calls Tryd.prog 48 #[lv, fv] y1 fun e w' => ∃ tv wb, e = .returned tv ∧ S w' ∧ (Instr.storeAt 101 (.pointer (some ⟨tb2, 0, none⟩)) tv).run Tryd.prog w' = .ok () wb ∧ S wb ∧ Fin tb2 tv wb)
    (h1 : ∀ (tv : Value) (tb : Nat) (a' : Act) (w' : World), Fin tb tv w' → a' = (((((((((a).put (some 14) (.pointer (some ⟨rb, 0, none⟩))).put (some 15) (.pointer (some ⟨rb, 0, none⟩))).put (some 16) (.pointer (some ⟨rb, 0 + 0, none⟩))).put (some 17) (.map (some mb))).put (some 18) (p.v)).put (some 19) (lv)).put (some 20) (fv)).put (some 21) (tv)).put (some 11) (.pointer (some ⟨tb, 0, none⟩)) → Q .normal a' w')
    (h2 : ∀ (tv : Value) (a' : Act) (w' : World), Fin tb2 tv w' → a' = (((((((((a).put (some 14) (.pointer (some ⟨rb, 0, none⟩))).put (some 15) (.pointer (some ⟨rb, 0, none⟩))).put (some 16) (.pointer (some ⟨rb, 0 + 0, none⟩))).put (some 17) (.map (some mb))).put (some 18) (p.v)).put (some 19) (lv)).put (some 20) (fv)).put (some 11) (.pointer (some ⟨tb2, 0, none⟩))).put (some 21) (tv) → Q .normal a' w') :
    (Code.region 3 put3_ops true).wp Tryd.prog Q a w := by
  refine wp_region_noPanic ?_
  refine wp_region_held_drew (S := fun w' => S w') (by kernel_rfl) (h0) (fun hHeld => ?_)
  refine wpAnyH_take (i := 0) (oi := put3_o0) (v := .pointer (some ⟨rb, 0, none⟩)) rfl (by kernel_rfl) (by kernel_rfl) (by kernel_rfl) (fun _ _ _ h => h) (Or.inl ⟨by rfl, fun w1 hw => exec_move rfl t0⟩) hHeld ?_
  change wpAnyH _ _ _ _ _ _ _ (a.put (some 14) (.pointer (some ⟨rb, 0, none⟩))) _
  obtain ⟨a1, e1⟩ : ∃ act, act = a.put (some 14) (.pointer (some ⟨rb, 0, none⟩)) := ⟨_, rfl⟩
  rw [← e1] at h1 h2 ⊢
  have z1 := pz e1 hsz
  replace t4 := pk e1 t4
  replace t6 := pk e1 t6
  clear t0
  have t14 := pq e1 hsz
  clear e1 hsz
  refine wpAnyH_take (i := 1) (oi := put3_o1) (v := .pointer (some ⟨rb, 0, none⟩)) rfl (by kernel_rfl) (by kernel_rfl) (by kernel_rfl) (fun _ _ _ h => h) (Or.inl ⟨by rfl, fun w1 hw => exec_nilCheck rfl t14⟩) hHeld ?_
  change wpAnyH _ _ _ _ _ _ _ (a1.put (some 15) (.pointer (some ⟨rb, 0, none⟩))) _
  obtain ⟨a2, e2⟩ : ∃ act, act = a1.put (some 15) (.pointer (some ⟨rb, 0, none⟩)) := ⟨_, rfl⟩
  rw [← e2] at h1 h2 ⊢
  have z2 := pz e2 z1
  replace t4 := pk e2 t4
  replace t6 := pk e2 t6
  clear t14
  have t15 := pq e2 z1
  clear e2 z1
  refine wpAnyH_take (i := 2) (oi := put3_o2) (v := .pointer (some ⟨rb, 0 + 0, none⟩)) rfl (by kernel_rfl) (by kernel_rfl) (by kernel_rfl) (fun _ _ _ h => h) (Or.inl ⟨by rfl, fun w1 hw => exec_fieldAt rfl t15 (fg_84_0 _ _ _)⟩) hHeld ?_
  change wpAnyH _ _ _ _ _ _ _ (a2.put (some 16) (.pointer (some ⟨rb, 0 + 0, none⟩))) _
  obtain ⟨a3, e3⟩ : ∃ act, act = a2.put (some 16) (.pointer (some ⟨rb, 0 + 0, none⟩)) := ⟨_, rfl⟩
  rw [← e3] at h1 h2 ⊢
  have z3 := pz e3 z2
  replace t4 := pk e3 t4
  replace t6 := pk e3 t6
  clear t15
  have t16 := pq e3 z2
  clear e3 z2
  refine wpAnyH_take (i := 3) (oi := put3_o3) (v := .map (some mb)) rfl (by kernel_rfl) (by kernel_rfl) (by kernel_rfl) (fun _ _ _ h => h) (Or.inl ⟨by rfl, fun w1 hw => exec_load rfl t16 (LR _ hw)⟩) hHeld ?_
  change wpAnyH _ _ _ _ _ _ _ (a3.put (some 17) (.map (some mb))) _
  obtain ⟨a4, e4⟩ : ∃ act, act = a3.put (some 17) (.map (some mb)) := ⟨_, rfl⟩
  rw [← e4] at h1 h2 ⊢
  have z4 := pz e4 z3
  replace t4 := pk e4 t4
  replace t6 := pk e4 t6
  clear t16
  have t17 := pq e4 z3
  clear e4 z3
  refine wpAnyH_take (i := 4) (oi := put3_o4) (v := p.v) rfl (by kernel_rfl) (by kernel_rfl) (by kernel_rfl) (fun _ _ _ h => h) (Or.inl ⟨by rfl, fun w1 hw => exec_load rfl t6 (LP _ hw)⟩) hHeld ?_
  change wpAnyH _ _ _ _ _ _ _ (a4.put (some 18) (p.v)) _
  obtain ⟨a5, e5⟩ : ∃ act, act = a4.put (some 18) (p.v) := ⟨_, rfl⟩
  rw [← e5] at h1 h2 ⊢
  have z5 := pz e5 z4
  replace t4 := pk e5 t4
  replace t17 := pk e5 t17
  clear t6
  have t18 := pq e5 z4
  clear e5 z4
  refine wpAnyH_take (i := 5) (oi := put3_o5) (v := lv) rfl (by kernel_rfl) (by kernel_rfl) (by kernel_rfl) (fun _ _ _ h => h) (Or.inl ⟨by rfl, fun w1 hw => exec_lookup rfl t17 t18 (LK _ hw)⟩) hHeld ?_
  change wpAnyH _ _ _ _ _ _ _ (a5.put (some 19) (lv)) _
  obtain ⟨a6, e6⟩ : ∃ act, act = a5.put (some 19) (lv) := ⟨_, rfl⟩
  rw [← e6] at h1 h2 ⊢
  have z6 := pz e6 z5
  replace t4 := pk e6 t4
  clear t17 t18
  have t19 := pq e6 z5
  clear e6 z5
  refine wpAnyH_take (i := 6) (oi := put3_o6) (v := fv) rfl (by kernel_rfl) (by kernel_rfl) (by kernel_rfl) (fun _ _ _ h => h) (Or.inl ⟨by rfl, fun w1 hw => exec_move rfl t4⟩) hHeld ?_
  change wpAnyH _ _ _ _ _ _ _ (a6.put (some 20) (fv)) _
  obtain ⟨a7, e7⟩ : ∃ act, act = a6.put (some 20) (fv) := ⟨_, rfl⟩
  rw [← e7] at h1 h2 ⊢
  have z7 := pz e7 z6
  replace t19 := pk e7 t19
  clear t4
  have t20 := pq e7 z6
  clear e7 z6
  refine wpAnyH_ready (rs := [7, 8]) (by kernel_rfl) (by simp) ?_
  refine AllReadyH.cons (o := put3_o7) rfl (fun K hK => ?_) (AllReadyH.cons (o := put3_o8) rfl (fun K hK => ?_) (AllReadyH.nil))
  · clear h2
    rw [if_pos (by rfl)]
    unfold put3_o7 at hK ⊢
    go_simp
    refine (CA).mono ?_
    rintro e x8 ⟨tv, tb, wa, wb, rfl, S1, EA, S2, ES, S3, HF⟩
    try go_wp2_with fail
    replace h1 := h1 tv tb
    refine hK.out _ _ (S1) (fun hHeld => ?_)
    clear hK K
    change wpAnyH _ _ _ _ _ _ _ (a7.put (some 21) (tv)) _
    obtain ⟨a8, e8⟩ : ∃ act, act = a7.put (some 21) (tv) := ⟨_, rfl⟩
    rw [← e8] at h1 ⊢
    have z8 := pz e8 z7
    clear t19 t20
    have t21 := pq e8 z7
    clear e8 z7
    refine wpAnyH_ready (rs := [8]) (by kernel_rfl) (by simp) ?_
    refine AllReadyH.cons (o := put3_o8) rfl (fun K hK => ?_) AllReadyH.nil
    have X := exec_alloc (P := Tryd.prog) (a := a8) (o := put3_o8) rfl EA
    rw [if_pos (by rfl), Oper.wp, X]
    show K _ _
    clear X
    refine hK.out _ _ (S2) (fun hHeld => ?_)
    clear hK K
    change wpAnyH _ _ _ _ _ _ _ (a8.put (some 11) (.pointer (some ⟨tb, 0, none⟩))) _
    obtain ⟨a9, e9⟩ : ∃ act, act = a8.put (some 11) (.pointer (some ⟨tb, 0, none⟩)) := ⟨_, rfl⟩
    rw [← e9] at h1 ⊢
    have z9 := pz e9 z8
    replace t21 := pk e9 t21
    have t11 := pq e9 z8
    clear e9 z8
    refine wpAnyH_ready (rs := [9]) (by kernel_rfl) (by simp) ?_
    refine AllReadyH.cons (o := put3_o9) rfl (fun K hK => ?_) AllReadyH.nil
    have X := exec_store (P := Tryd.prog) (a := a9) (o := put3_o9) rfl t11 t21 ES
    rw [if_pos (by rfl), Oper.wp, X]
    show K _ _
    clear X
    refine hK.out _ _ (S3) (fun hHeld => ?_)
    clear hK K
    exact wpAnyH_done (by kernel_rfl) (NoPanic.normal (h1 _ _ (HF) rfl)) _
  · clear h1
    have X := exec_alloc (P := Tryd.prog) (a := a7) (o := put3_o8) rfl EB
    rw [if_pos (by rfl), Oper.wp, X]
    show K _ _
    clear X
    refine hK.out _ _ (S4) (fun hHeld => ?_)
    clear hK K
    change wpAnyH _ _ _ _ _ _ _ (a7.put (some 11) (.pointer (some ⟨tb2, 0, none⟩))) _
    obtain ⟨a11, e11⟩ : ∃ act, act = a7.put (some 11) (.pointer (some ⟨tb2, 0, none⟩)) := ⟨_, rfl⟩
    rw [← e11] at h2 ⊢
    have z11 := pz e11 z7
    replace t19 := pk e11 t19
    replace t20 := pk e11 t20
    have t11 := pq e11 z7
    clear e11 z7
    refine wpAnyH_ready (rs := [7]) (by kernel_rfl) (by simp) ?_
    refine AllReadyH.cons (o := put3_o7) rfl (fun K hK => ?_) AllReadyH.nil
    rw [if_pos (by rfl)]
    unfold put3_o7 at hK ⊢
    go_simp
    refine (CB).mono ?_
    rintro e x12 ⟨tv, wb, rfl, S5, ES, S6, HF⟩
    try go_wp2_with fail
    replace h2 := h2 tv
    refine hK.out _ _ (S5) (fun hHeld => ?_)
    clear hK K
    change wpAnyH _ _ _ _ _ _ _ (a11.put (some 21) (tv)) _
    obtain ⟨a12, e12⟩ : ∃ act, act = a11.put (some 21) (tv) := ⟨_, rfl⟩
    rw [← e12] at h2 ⊢
    have z12 := pz e12 z11
    replace t11 := pk e12 t11
    clear t19 t20
    have t21 := pq e12 z11
    clear e12 z11
    refine wpAnyH_ready (rs := [9]) (by kernel_rfl) (by simp) ?_
    refine AllReadyH.cons (o := put3_o9) rfl (fun K hK => ?_) AllReadyH.nil
    have X := exec_store (P := Tryd.prog) (a := a12) (o := put3_o9) rfl t11 t21 ES
    rw [if_pos (by rfl), Oper.wp, X]
    show K _ _
    clear X
    refine hK.out _ _ (S6) (fun hHeld => ?_)
    clear hK K
    exact wpAnyH_done (by kernel_rfl) (NoPanic.normal (h2 _ _ (HF) rfl)) _
def put4_o0 : Oper := ⟨some 22, .move (.tmp 0), 26, "regs.go:53", #[], none⟩
def put4_o1 : Oper := ⟨some 23, .load 52 (.tmp 6), 52, "regs.go:53", #[], none⟩
def put4_o2 : Oper := ⟨some 24, .move (.tmp 0), 26, "regs.go:53", #[], none⟩
def put4_o3 : Oper := ⟨some 25, .nilCheck (.tmp 24), 0, "regs.go:53", #[⟨2, .data⟩], none⟩
def put4_o4 : Oper := ⟨some 26, .fieldAddr 84 (.tmp 25) 0, 0, "regs.go:53", #[⟨3, .data⟩], none⟩
def put4_o5 : Oper := ⟨some 27, .load 81 (.tmp 26), 81, "regs.go:53", #[⟨4, .data⟩], none⟩
def put4_o6 : Oper := ⟨some 28, .load 52 (.tmp 6), 52, "regs.go:53", #[], none⟩
def put4_o7 : Oper := ⟨some 29, .lookup 81 (.tmp 27) (.tmp 28) false, 60, "regs.go:53", #[⟨5, .data⟩, ⟨6, .data⟩], none⟩
def put4_o8 : Oper := ⟨some 30, .load 101 (.tmp 11), 101, "regs.go:53", #[], none⟩
def put4_o9 : Oper := ⟨some 31, .call { callee := Callee.value (Operand.func 50), args := #[.tmp 29, .tmp 30], argTypes := #[60, 101] }, 60, "regs.go:53", #[⟨7, .data⟩, ⟨8, .data⟩], none⟩
def put4_o10 : Oper := ⟨some 32, .load 38 (.tmp 7), 38, "regs.go:53", #[], none⟩
def put4_o11 : Oper := ⟨some 33, .load 42 (.tmp 8), 42, "regs.go:53", #[], none⟩
def put4_o12 : Oper := ⟨some 34, .build 63 #[(0, .tmp 32), (1, .tmp 33)], 63, "regs.go:53", #[⟨10, .data⟩, ⟨11, .data⟩], none⟩
def put4_o13 : Oper := ⟨some 35, .buildSlice 60 1 #[(0, .tmp 34)], 60, "regs.go:53", #[⟨12, .data⟩], none⟩
def put4_o14 : Oper := ⟨some 36, .call { callee := Callee.builtin Builtin.append, args := #[.tmp 31, .tmp 35], argTypes := #[60, 60] }, 60, "regs.go:53", #[⟨9, .data⟩, ⟨13, .data⟩, ⟨9, .chain⟩], none⟩
def put4_o15 : Oper := ⟨some 37, .call { callee := Callee.value (Operand.func 49), args := #[.tmp 22, .tmp 23, .tmp 36], argTypes := #[26, 52, 60] }, 0, "regs.go:53", #[⟨0, .data⟩, ⟨1, .data⟩, ⟨14, .data⟩, ⟨14, .chain⟩], none⟩
def put4_ops : Array Oper := #[put4_o0, put4_o1, put4_o2, put4_o3, put4_o4, put4_o5, put4_o6, put4_o7, put4_o8, put4_o9, put4_o10, put4_o11, put4_o12, put4_o13, put4_o14, put4_o15]
theorem put4 {rb mb pb ib vb tb : Nat} {p : PlK} {id : IdK} {x : VaV} {lv tv sv2 : Value} {y1 : World} (S Fin : World → Prop) (a : Act) (w : World) (Q : Exit → Act → World → Prop) (hsz : a.tmps.size = 41)
    (t0 : a.tmps.getD 0 undef = .pointer (some ⟨rb, 0, none⟩))
    (t6 : a.tmps.getD 6 undef = .pointer (some ⟨pb, 0, none⟩))
    (t7 : a.tmps.getD 7 undef = .pointer (some ⟨ib, 0, none⟩))
    (t8 : a.tmps.getD 8 undef = .pointer (some ⟨vb, 0, none⟩))
    (t11 : a.tmps.getD 11 undef = .pointer (some ⟨tb, 0, none⟩))
    (hid : id.ok) (h0 : S w.drew) (LR : ∀ W, S W → (Instr.loadAt 81 (.pointer (some ⟨rb, 0 + 0, none⟩))).run Tryd.prog W = .ok (.map (some mb)) W) (LP : ∀ W, S W → (Instr.loadAt 52 (.pointer (some ⟨pb, 0, none⟩))).run Tryd.prog W = .ok (p.v) W) (LI : ∀ W, S W → (Instr.loadAt 38 (.pointer (some ⟨ib, 0, none⟩))).run Tryd.prog W = .ok (id.v) W) (LV : ∀ W, S W → (Instr.loadAt 42 (.pointer (some ⟨vb, 0, none⟩))).run Tryd.prog W = .ok (x.v) W) (LT : ∀ W, S W → (Instr.loadAt 101 (.pointer (some ⟨tb, 0, none⟩))).run Tryd.prog W = .ok (tv) W) (L1 : (Instr.lookup 81 (.map (some mb)) p.v false).run Tryd.prog w.drew = .ok lv w.drew) (CA : Calls Tryd.prog 50 #[lv, tv] w.drew fun e w' => ∃ v1 sv w2 u w3, e = .returned v1 ∧ S w' ∧ (Instr.buildSlice 60 1 #[(0, EnV.a ⟨id, x⟩)]).run Tryd.prog w' = .ok sv w2 ∧ S w2 ∧ (Builtin.append_ #[60, 60] 60 #[v1, sv]).run Tryd.prog w2 = .ok u w3 ∧ S w3 ∧ Calls Tryd.prog 49 #[.pointer (some ⟨rb, 0, none⟩), p.v, u] w3 fun e w4 => e = .returned (.tuple #[]) ∧ S w4 ∧ Fin w4) (EB2 : (Instr.buildSlice 60 1 #[(0, EnV.a ⟨id, x⟩)]).run Tryd.prog w.drew = .ok sv2 y1) (SB : S y1) (L2 : (Instr.lookup 81 (.map (some mb)) p.v false).run Tryd.prog y1 = .ok lv y1) (CB : Calls Tryd.prog 50 #[lv, tv] y1 fun e w' => ∃ v1 u y3, e = .returned v1 ∧ S w' ∧ (Builtin.append_ #[60, 60] 60 #[v1, sv2]).run Tryd.prog w' = .ok u y3 ∧ S y3 ∧ Calls Tryd.prog 49 #[.pointer (some ⟨rb, 0, none⟩), p.v, u] y3 fun e w4 => e = .returned (.tuple #[]) ∧ S w4 ∧ Fin w4)
    (h1 : ∀ (v1 sv u : Value) (a' : Act) (w' : World), Fin w' → a' = ((((((((((((((((a).put (some 22) (.pointer (some ⟨rb, 0, none⟩))).put (some 23) (p.v)).put (some 24) (.pointer (some ⟨rb, 0, none⟩))).put (some 25) (.pointer (some ⟨rb, 0, none⟩))).put (some 26) (.pointer (some ⟨rb, 0 + 0, none⟩))).put (some 27) (.map (some mb))).put (some 28) (p.v)).put (some 30) (tv)).put (some 32) (id.v)).put (some 33) (x.v)).put (some 34) (EnV.a ⟨id, x⟩)).put (some 29) (lv)).put (some 31) (v1)).put (some 35) (sv)).put (some 36) (u)).put (some 37) (.tuple #[]) → Q .normal a' w')
    (h2 : ∀ (v1 u : Value) (a' : Act) (w' : World), Fin w' → a' = ((((((((((((((((a).put (some 22) (.pointer (some ⟨rb, 0, none⟩))).put (some 23) (p.v)).put (some 24) (.pointer (some ⟨rb, 0, none⟩))).put (some 25) (.pointer (some ⟨rb, 0, none⟩))).put (some 26) (.pointer (some ⟨rb, 0 + 0, none⟩))).put (some 27) (.map (some mb))).put (some 28) (p.v)).put (some 30) (tv)).put (some 32) (id.v)).put (some 33) (x.v)).put (some 34) (EnV.a ⟨id, x⟩)).put (some 29) (lv)).put (some 35) (sv2)).put (some 31) (v1)).put (some 36) (u)).put (some 37) (.tuple #[]) → Q .normal a' w')
    (h3 : ∀ (v1 u : Value) (a' : Act) (w' : World), Fin w' → a' = ((((((((((((((((a).put (some 22) (.pointer (some ⟨rb, 0, none⟩))).put (some 23) (p.v)).put (some 24) (.pointer (some ⟨rb, 0, none⟩))).put (some 25) (.pointer (some ⟨rb, 0, none⟩))).put (some 26) (.pointer (some ⟨rb, 0 + 0, none⟩))).put (some 27) (.map (some mb))).put (some 28) (p.v)).put (some 30) (tv)).put (some 32) (id.v)).put (some 33) (x.v)).put (some 34) (EnV.a ⟨id, x⟩)).put (some 35) (sv2)).put (some 29) (lv)).put (some 31) (v1)).put (some 36) (u)).put (some 37) (.tuple #[]) → Q .normal a' w') :
    (Code.region 4 put4_ops true).wp Tryd.prog Q a w := by
  refine wp_region_noPanic ?_
  refine wp_region_held_drew (S := fun w' => S w') (by kernel_rfl) (h0) (fun hHeld => ?_)
  refine wpAnyH_take (i := 0) (oi := put4_o0) (v := .pointer (some ⟨rb, 0, none⟩)) rfl (by kernel_rfl) (by kernel_rfl) (by kernel_rfl) (fun _ _ _ h => h) (Or.inl ⟨by rfl, fun w1 hw => exec_move rfl t0⟩) hHeld ?_
  change wpAnyH _ _ _ _ _ _ _ (a.put (some 22) (.pointer (some ⟨rb, 0, none⟩))) _
  obtain ⟨a1, e1⟩ : ∃ act, act = a.put (some 22) (.pointer (some ⟨rb, 0, none⟩)) := ⟨_, rfl⟩
  rw [← e1] at h1 h2 h3 ⊢
  have z1 := pz e1 hsz
  replace t0 := pk e1 t0
  replace t6 := pk e1 t6
  replace t7 := pk e1 t7
  replace t8 := pk e1 t8
  replace t11 := pk e1 t11
  have t22 := pq e1 hsz
  clear e1 hsz
  refine wpAnyH_take (i := 1) (oi := put4_o1) (v := p.v) rfl (by kernel_rfl) (by kernel_rfl) (by kernel_rfl) (fun _ _ _ h => h) (Or.inl ⟨by rfl, fun w1 hw => exec_load rfl t6 (LP _ hw)⟩) hHeld ?_
  change wpAnyH _ _ _ _ _ _ _ (a1.put (some 23) (p.v)) _
  obtain ⟨a2, e2⟩ : ∃ act, act = a1.put (some 23) (p.v) := ⟨_, rfl⟩
  rw [← e2] at h1 h2 h3 ⊢
  have z2 := pz e2 z1
  replace t0 := pk e2 t0
  replace t6 := pk e2 t6
  replace t7 := pk e2 t7
  replace t8 := pk e2 t8
  replace t11 := pk e2 t11
  replace t22 := pk e2 t22
  have t23 := pq e2 z1
  clear e2 z1
  refine wpAnyH_take (i := 2) (oi := put4_o2) (v := .pointer (some ⟨rb, 0, none⟩)) rfl (by kernel_rfl) (by kernel_rfl) (by kernel_rfl) (fun _ _ _ h => h) (Or.inl ⟨by rfl, fun w1 hw => exec_move rfl t0⟩) hHeld ?_
  change wpAnyH _ _ _ _ _ _ _ (a2.put (some 24) (.pointer (some ⟨rb, 0, none⟩))) _
  obtain ⟨a3, e3⟩ : ∃ act, act = a2.put (some 24) (.pointer (some ⟨rb, 0, none⟩)) := ⟨_, rfl⟩
  rw [← e3] at h1 h2 h3 ⊢
  have z3 := pz e3 z2
  replace t6 := pk e3 t6
  replace t7 := pk e3 t7
  replace t8 := pk e3 t8
  replace t11 := pk e3 t11
  replace t22 := pk e3 t22
  replace t23 := pk e3 t23
  clear t0
  have t24 := pq e3 z2
  clear e3 z2
  refine wpAnyH_take (i := 3) (oi := put4_o3) (v := .pointer (some ⟨rb, 0, none⟩)) rfl (by kernel_rfl) (by kernel_rfl) (by kernel_rfl) (fun _ _ _ h => h) (Or.inl ⟨by rfl, fun w1 hw => exec_nilCheck rfl t24⟩) hHeld ?_
  change wpAnyH _ _ _ _ _ _ _ (a3.put (some 25) (.pointer (some ⟨rb, 0, none⟩))) _
  obtain ⟨a4, e4⟩ : ∃ act, act = a3.put (some 25) (.pointer (some ⟨rb, 0, none⟩)) := ⟨_, rfl⟩
  rw [← e4] at h1 h2 h3 ⊢
  have z4 := pz e4 z3
  replace t6 := pk e4 t6
  replace t7 := pk e4 t7
  replace t8 := pk e4 t8
  replace t11 := pk e4 t11
  replace t22 := pk e4 t22
  replace t23 := pk e4 t23
  clear t24
  have t25 := pq e4 z3
  clear e4 z3
  refine wpAnyH_take (i := 4) (oi := put4_o4) (v := .pointer (some ⟨rb, 0 + 0, none⟩)) rfl (by kernel_rfl) (by kernel_rfl) (by kernel_rfl) (fun _ _ _ h => h) (Or.inl ⟨by rfl, fun w1 hw => exec_fieldAt rfl t25 (fg_84_0 _ _ _)⟩) hHeld ?_
  change wpAnyH _ _ _ _ _ _ _ (a4.put (some 26) (.pointer (some ⟨rb, 0 + 0, none⟩))) _
  obtain ⟨a5, e5⟩ : ∃ act, act = a4.put (some 26) (.pointer (some ⟨rb, 0 + 0, none⟩)) := ⟨_, rfl⟩
  rw [← e5] at h1 h2 h3 ⊢
  have z5 := pz e5 z4
  replace t6 := pk e5 t6
  replace t7 := pk e5 t7
  replace t8 := pk e5 t8
  replace t11 := pk e5 t11
  replace t22 := pk e5 t22
  replace t23 := pk e5 t23
  clear t25
  have t26 := pq e5 z4
  clear e5 z4
  refine wpAnyH_take (i := 5) (oi := put4_o5) (v := .map (some mb)) rfl (by kernel_rfl) (by kernel_rfl) (by kernel_rfl) (fun _ _ _ h => h) (Or.inl ⟨by rfl, fun w1 hw => exec_load rfl t26 (LR _ hw)⟩) hHeld ?_
  change wpAnyH _ _ _ _ _ _ _ (a5.put (some 27) (.map (some mb))) _
  obtain ⟨a6, e6⟩ : ∃ act, act = a5.put (some 27) (.map (some mb)) := ⟨_, rfl⟩
  rw [← e6] at h1 h2 h3 ⊢
  have z6 := pz e6 z5
  replace t6 := pk e6 t6
  replace t7 := pk e6 t7
  replace t8 := pk e6 t8
  replace t11 := pk e6 t11
  replace t22 := pk e6 t22
  replace t23 := pk e6 t23
  clear t26
  have t27 := pq e6 z5
  clear e6 z5
  refine wpAnyH_take (i := 6) (oi := put4_o6) (v := p.v) rfl (by kernel_rfl) (by kernel_rfl) (by kernel_rfl) (fun _ _ _ h => h) (Or.inl ⟨by rfl, fun w1 hw => exec_load rfl t6 (LP _ hw)⟩) hHeld ?_
  change wpAnyH _ _ _ _ _ _ _ (a6.put (some 28) (p.v)) _
  obtain ⟨a7, e7⟩ : ∃ act, act = a6.put (some 28) (p.v) := ⟨_, rfl⟩
  rw [← e7] at h1 h2 h3 ⊢
  have z7 := pz e7 z6
  replace t7 := pk e7 t7
  replace t8 := pk e7 t8
  replace t11 := pk e7 t11
  replace t22 := pk e7 t22
  replace t23 := pk e7 t23
  replace t27 := pk e7 t27
  clear t6
  have t28 := pq e7 z6
  clear e7 z6
  refine wpAnyH_take (i := 8) (oi := put4_o8) (v := tv) rfl (by kernel_rfl) (by kernel_rfl) (by kernel_rfl) (fun _ _ _ h => h) (Or.inl ⟨by rfl, fun w1 hw => exec_load rfl t11 (LT _ hw)⟩) hHeld ?_
  change wpAnyH _ _ _ _ _ _ _ (a7.put (some 30) (tv)) _
  obtain ⟨a8, e8⟩ : ∃ act, act = a7.put (some 30) (tv) := ⟨_, rfl⟩
  rw [← e8] at h1 h2 h3 ⊢
  have z8 := pz e8 z7
  replace t7 := pk e8 t7
  replace t8 := pk e8 t8
  replace t22 := pk e8 t22
  replace t23 := pk e8 t23
  replace t27 := pk e8 t27
  replace t28 := pk e8 t28
  clear t11
  have t30 := pq e8 z7
  clear e8 z7
  refine wpAnyH_take (i := 10) (oi := put4_o10) (v := id.v) rfl (by kernel_rfl) (by kernel_rfl) (by kernel_rfl) (fun _ _ _ h => h) (Or.inl ⟨by rfl, fun w1 hw => exec_load rfl t7 (LI _ hw)⟩) hHeld ?_
  change wpAnyH _ _ _ _ _ _ _ (a8.put (some 32) (id.v)) _
  obtain ⟨a9, e9⟩ : ∃ act, act = a8.put (some 32) (id.v) := ⟨_, rfl⟩
  rw [← e9] at h1 h2 h3 ⊢
  have z9 := pz e9 z8
  replace t8 := pk e9 t8
  replace t22 := pk e9 t22
  replace t23 := pk e9 t23
  replace t27 := pk e9 t27
  replace t28 := pk e9 t28
  replace t30 := pk e9 t30
  clear t7
  have t32 := pq e9 z8
  clear e9 z8
  refine wpAnyH_take (i := 11) (oi := put4_o11) (v := x.v) rfl (by kernel_rfl) (by kernel_rfl) (by kernel_rfl) (fun _ _ _ h => h) (Or.inl ⟨by rfl, fun w1 hw => exec_load rfl t8 (LV _ hw)⟩) hHeld ?_
  change wpAnyH _ _ _ _ _ _ _ (a9.put (some 33) (x.v)) _
  obtain ⟨a10, e10⟩ : ∃ act, act = a9.put (some 33) (x.v) := ⟨_, rfl⟩
  rw [← e10] at h1 h2 h3 ⊢
  have z10 := pz e10 z9
  replace t22 := pk e10 t22
  replace t23 := pk e10 t23
  replace t27 := pk e10 t27
  replace t28 := pk e10 t28
  replace t30 := pk e10 t30
  replace t32 := pk e10 t32
  clear t8
  have t33 := pq e10 z9
  clear e10 z9
  refine wpAnyH_take (i := 12) (oi := put4_o12) (v := EnV.a ⟨id, x⟩) rfl (by kernel_rfl) (by kernel_rfl) (by kernel_rfl) (fun _ _ _ h => h) (Or.inl ⟨by rfl, fun w1 hw => exec_ben hid rfl t32 t33⟩) hHeld ?_
  change wpAnyH _ _ _ _ _ _ _ (a10.put (some 34) (EnV.a ⟨id, x⟩)) _
  obtain ⟨a11, e11⟩ : ∃ act, act = a10.put (some 34) (EnV.a ⟨id, x⟩) := ⟨_, rfl⟩
  rw [← e11] at h1 h2 h3 ⊢
  have z11 := pz e11 z10
  replace t22 := pk e11 t22
  replace t23 := pk e11 t23
  replace t27 := pk e11 t27
  replace t28 := pk e11 t28
  replace t30 := pk e11 t30
  clear t32 t33
  have t34 := pq e11 z10
  clear e11 z10
  refine wpAnyH_ready (rs := [7, 13]) (by kernel_rfl) (by simp) ?_
  refine AllReadyH.cons (o := put4_o7) rfl (fun K hK => ?_) (AllReadyH.cons (o := put4_o13) rfl (fun K hK => ?_) (AllReadyH.nil))
  · clear h3
    have X := exec_lookup (P := Tryd.prog) (a := a11) (o := put4_o7) rfl t27 t28 L1
    rw [if_pos (by rfl), Oper.wp, X]
    show K _ _
    clear X
    refine hK.out _ _ (h0) (fun hHeld => ?_)
    clear hK K
    change wpAnyH _ _ _ _ _ _ _ (a11.put (some 29) (lv)) _
    obtain ⟨a12, e12⟩ : ∃ act, act = a11.put (some 29) (lv) := ⟨_, rfl⟩
    rw [← e12] at h1 h2 ⊢
    have z12 := pz e12 z11
    replace t22 := pk e12 t22
    replace t23 := pk e12 t23
    replace t30 := pk e12 t30
    replace t34 := pk e12 t34
    clear t27 t28
    have t29 := pq e12 z11
    clear e12 z11
    refine wpAnyH_ready (rs := [9, 13]) (by kernel_rfl) (by simp) ?_
    refine AllReadyH.cons (o := put4_o9) rfl (fun K hK => ?_) (AllReadyH.cons (o := put4_o13) rfl (fun K hK => ?_) (AllReadyH.nil))
    · clear h2
      rw [if_pos (by rfl)]
      unfold put4_o9 at hK ⊢
      go_simp
      refine (CA).mono ?_
      rintro e x13 ⟨v1, sv, w2, u, w3, rfl, S1, EB, S2, EA, S3, CL⟩
      try go_wp2_with fail
      replace h1 := h1 v1 sv u
      refine hK.out _ _ (S1) (fun hHeld => ?_)
      clear hK K
      change wpAnyH _ _ _ _ _ _ _ (a12.put (some 31) (v1)) _
      obtain ⟨a13, e13⟩ : ∃ act, act = a12.put (some 31) (v1) := ⟨_, rfl⟩
      rw [← e13] at h1 ⊢
      have z13 := pz e13 z12
      replace t22 := pk e13 t22
      replace t23 := pk e13 t23
      replace t34 := pk e13 t34
      clear t30 t29
      have t31 := pq e13 z12
      clear e13 z12
      refine wpAnyH_ready (rs := [13]) (by kernel_rfl) (by simp) ?_
      refine AllReadyH.cons (o := put4_o13) rfl (fun K hK => ?_) AllReadyH.nil
      have X := exec_buildSlice (P := Tryd.prog) (a := a13) (o := put4_o13) rfl t34 EB
      rw [if_pos (by rfl), Oper.wp, X]
      show K _ _
      clear X
      refine hK.out _ _ (S2) (fun hHeld => ?_)
      clear hK K
      change wpAnyH _ _ _ _ _ _ _ (a13.put (some 35) (sv)) _
      obtain ⟨a14, e14⟩ : ∃ act, act = a13.put (some 35) (sv) := ⟨_, rfl⟩
      rw [← e14] at h1 ⊢
      have z14 := pz e14 z13
      replace t22 := pk e14 t22
      replace t23 := pk e14 t23
      replace t31 := pk e14 t31
      clear t34
      have t35 := pq e14 z13
      clear e14 z13
      refine wpAnyH_ready (rs := [14]) (by kernel_rfl) (by simp) ?_
      refine AllReadyH.cons (o := put4_o14) rfl (fun K hK => ?_) AllReadyH.nil
      have X := exec_append (P := Tryd.prog) (a := a14) (o := put4_o14) rfl t31 t35 EA
      rw [if_pos (by rfl), Oper.wp, X]
      show K _ _
      clear X
      refine hK.out _ _ (S3) (fun hHeld => ?_)
      clear hK K
      change wpAnyH _ _ _ _ _ _ _ (a14.put (some 36) (u)) _
      obtain ⟨a15, e15⟩ : ∃ act, act = a14.put (some 36) (u) := ⟨_, rfl⟩
      rw [← e15] at h1 ⊢
      have z15 := pz e15 z14
      replace t22 := pk e15 t22
      replace t23 := pk e15 t23
      clear t31 t35
      have t36 := pq e15 z14
      clear e15 z14
      refine wpAnyH_ready (rs := [15]) (by kernel_rfl) (by simp) ?_
      refine AllReadyH.cons (o := put4_o15) rfl (fun K hK => ?_) AllReadyH.nil
      rw [if_pos (by rfl)]
      unfold put4_o15 at hK ⊢
      go_simp
      refine (CL).mono ?_
      rintro e x16 ⟨rfl, S4, HF⟩
      try go_wp2_with fail
      skip
      refine hK.out _ _ (S4) (fun hHeld => ?_)
      clear hK K
      change wpAnyH _ _ _ _ _ _ _ (a15.put (some 37) (.tuple #[])) _
      obtain ⟨a16, e16⟩ : ∃ act, act = a15.put (some 37) (.tuple #[]) := ⟨_, rfl⟩
      rw [← e16] at h1 ⊢
      have z16 := pz e16 z15
      clear t22 t23 t36
      clear e16 z15
      exact wpAnyH_done (by kernel_rfl) (NoPanic.normal (h1 _ _ (HF) rfl)) _
    · clear h1
      have X := exec_buildSlice (P := Tryd.prog) (a := a12) (o := put4_o13) rfl t34 EB2
      rw [if_pos (by rfl), Oper.wp, X]
      show K _ _
      clear X
      refine hK.out _ _ (SB) (fun hHeld => ?_)
      clear hK K
      change wpAnyH _ _ _ _ _ _ _ (a12.put (some 35) (sv2)) _
      obtain ⟨a17, e17⟩ : ∃ act, act = a12.put (some 35) (sv2) := ⟨_, rfl⟩
      rw [← e17] at h2 ⊢
      have z17 := pz e17 z12
      replace t22 := pk e17 t22
      replace t23 := pk e17 t23
      replace t30 := pk e17 t30
      replace t29 := pk e17 t29
      clear t34
      have t35 := pq e17 z12
      clear e17 z12
      refine wpAnyH_ready (rs := [9]) (by kernel_rfl) (by simp) ?_
      refine AllReadyH.cons (o := put4_o9) rfl (fun K hK => ?_) AllReadyH.nil
      rw [if_pos (by rfl)]
      unfold put4_o9 at hK ⊢
      go_simp
      refine (CB).mono ?_
      rintro e x18 ⟨v1, u, y3, rfl, S2, EA, S3, CL⟩
      try go_wp2_with fail
      replace h2 := h2 v1 u
      refine hK.out _ _ (S2) (fun hHeld => ?_)
      clear hK K
      change wpAnyH _ _ _ _ _ _ _ (a17.put (some 31) (v1)) _
      obtain ⟨a18, e18⟩ : ∃ act, act = a17.put (some 31) (v1) := ⟨_, rfl⟩
      rw [← e18] at h2 ⊢
      have z18 := pz e18 z17
      replace t22 := pk e18 t22
      replace t23 := pk e18 t23
      replace t35 := pk e18 t35
      clear t30 t29
      have t31 := pq e18 z17
      clear e18 z17
      refine wpAnyH_ready (rs := [14]) (by kernel_rfl) (by simp) ?_
      refine AllReadyH.cons (o := put4_o14) rfl (fun K hK => ?_) AllReadyH.nil
      have X := exec_append (P := Tryd.prog) (a := a18) (o := put4_o14) rfl t31 t35 EA
      rw [if_pos (by rfl), Oper.wp, X]
      show K _ _
      clear X
      refine hK.out _ _ (S3) (fun hHeld => ?_)
      clear hK K
      change wpAnyH _ _ _ _ _ _ _ (a18.put (some 36) (u)) _
      obtain ⟨a19, e19⟩ : ∃ act, act = a18.put (some 36) (u) := ⟨_, rfl⟩
      rw [← e19] at h2 ⊢
      have z19 := pz e19 z18
      replace t22 := pk e19 t22
      replace t23 := pk e19 t23
      clear t35 t31
      have t36 := pq e19 z18
      clear e19 z18
      refine wpAnyH_ready (rs := [15]) (by kernel_rfl) (by simp) ?_
      refine AllReadyH.cons (o := put4_o15) rfl (fun K hK => ?_) AllReadyH.nil
      rw [if_pos (by rfl)]
      unfold put4_o15 at hK ⊢
      go_simp
      refine (CL).mono ?_
      rintro e x20 ⟨rfl, S4, HF⟩
      try go_wp2_with fail
      skip
      refine hK.out _ _ (S4) (fun hHeld => ?_)
      clear hK K
      change wpAnyH _ _ _ _ _ _ _ (a19.put (some 37) (.tuple #[])) _
      obtain ⟨a20, e20⟩ : ∃ act, act = a19.put (some 37) (.tuple #[]) := ⟨_, rfl⟩
      rw [← e20] at h2 ⊢
      have z20 := pz e20 z19
      clear t22 t23 t36
      clear e20 z19
      exact wpAnyH_done (by kernel_rfl) (NoPanic.normal (h2 _ _ (HF) rfl)) _
  · clear h1 h2
    have X := exec_buildSlice (P := Tryd.prog) (a := a11) (o := put4_o13) rfl t34 EB2
    rw [if_pos (by rfl), Oper.wp, X]
    show K _ _
    clear X
    refine hK.out _ _ (SB) (fun hHeld => ?_)
    clear hK K
    change wpAnyH _ _ _ _ _ _ _ (a11.put (some 35) (sv2)) _
    obtain ⟨a21, e21⟩ : ∃ act, act = a11.put (some 35) (sv2) := ⟨_, rfl⟩
    rw [← e21] at h3 ⊢
    have z21 := pz e21 z11
    replace t22 := pk e21 t22
    replace t23 := pk e21 t23
    replace t27 := pk e21 t27
    replace t28 := pk e21 t28
    replace t30 := pk e21 t30
    clear t34
    have t35 := pq e21 z11
    clear e21 z11
    refine wpAnyH_ready (rs := [7]) (by kernel_rfl) (by simp) ?_
    refine AllReadyH.cons (o := put4_o7) rfl (fun K hK => ?_) AllReadyH.nil
    have X := exec_lookup (P := Tryd.prog) (a := a21) (o := put4_o7) rfl t27 t28 L2
    rw [if_pos (by rfl), Oper.wp, X]
    show K _ _
    clear X
    refine hK.out _ _ (SB) (fun hHeld => ?_)
    clear hK K
    change wpAnyH _ _ _ _ _ _ _ (a21.put (some 29) (lv)) _
    obtain ⟨a22, e22⟩ : ∃ act, act = a21.put (some 29) (lv) := ⟨_, rfl⟩
    rw [← e22] at h3 ⊢
    have z22 := pz e22 z21
    replace t22 := pk e22 t22
    replace t23 := pk e22 t23
    replace t30 := pk e22 t30
    replace t35 := pk e22 t35
    clear t27 t28
    have t29 := pq e22 z21
    clear e22 z21
    refine wpAnyH_ready (rs := [9]) (by kernel_rfl) (by simp) ?_
    refine AllReadyH.cons (o := put4_o9) rfl (fun K hK => ?_) AllReadyH.nil
    rw [if_pos (by rfl)]
    unfold put4_o9 at hK ⊢
    go_simp
    refine (CB).mono ?_
    rintro e x23 ⟨v1, u, y3, rfl, S2, EA, S3, CL⟩
    try go_wp2_with fail
    replace h3 := h3 v1 u
    refine hK.out _ _ (S2) (fun hHeld => ?_)
    clear hK K
    change wpAnyH _ _ _ _ _ _ _ (a22.put (some 31) (v1)) _
    obtain ⟨a23, e23⟩ : ∃ act, act = a22.put (some 31) (v1) := ⟨_, rfl⟩
    rw [← e23] at h3 ⊢
    have z23 := pz e23 z22
    replace t22 := pk e23 t22
    replace t23 := pk e23 t23
    replace t35 := pk e23 t35
    clear t30 t29
    have t31 := pq e23 z22
    clear e23 z22
    refine wpAnyH_ready (rs := [14]) (by kernel_rfl) (by simp) ?_
    refine AllReadyH.cons (o := put4_o14) rfl (fun K hK => ?_) AllReadyH.nil
    have X := exec_append (P := Tryd.prog) (a := a23) (o := put4_o14) rfl t31 t35 EA
    rw [if_pos (by rfl), Oper.wp, X]
    show K _ _
    clear X
    refine hK.out _ _ (S3) (fun hHeld => ?_)
    clear hK K
    change wpAnyH _ _ _ _ _ _ _ (a23.put (some 36) (u)) _
    obtain ⟨a24, e24⟩ : ∃ act, act = a23.put (some 36) (u) := ⟨_, rfl⟩
    rw [← e24] at h3 ⊢
    have z24 := pz e24 z23
    replace t22 := pk e24 t22
    replace t23 := pk e24 t23
    clear t35 t31
    have t36 := pq e24 z23
    clear e24 z23
    refine wpAnyH_ready (rs := [15]) (by kernel_rfl) (by simp) ?_
    refine AllReadyH.cons (o := put4_o15) rfl (fun K hK => ?_) AllReadyH.nil
    rw [if_pos (by rfl)]
    unfold put4_o15 at hK ⊢
    go_simp
    refine (CL).mono ?_
    rintro e x25 ⟨rfl, S4, HF⟩
    try go_wp2_with fail
    skip
    refine hK.out _ _ (S4) (fun hHeld => ?_)
    clear hK K
    change wpAnyH _ _ _ _ _ _ _ (a24.put (some 37) (.tuple #[])) _
    obtain ⟨a25, e25⟩ : ∃ act, act = a24.put (some 37) (.tuple #[]) := ⟨_, rfl⟩
    rw [← e25] at h3 ⊢
    have z25 := pz e25 z24
    clear t22 t23 t36
    clear e25 z24
    exact wpAnyH_done (by kernel_rfl) (NoPanic.normal (h3 _ _ (HF) rfl)) _
def put5_o0 : Oper := ⟨some 38, .move (.tmp 0), 26, "regs.go:54", #[], none⟩
def put5_o1 : Oper := ⟨some 39, .makeFunc (Fn.func 52) #[] #[.tmp 6, .tmp 11], 106, "regs.go:54", #[], none⟩
def put5_o2 : Oper := ⟨some 40, .call { callee := Callee.value (Operand.func 51), args := #[.tmp 38, .tmp 39], argTypes := #[26, 106] }, 54, "regs.go:54", #[⟨0, .data⟩, ⟨1, .data⟩], none⟩
def put5_o3 : Oper := ⟨some 10, .assign (.tmp 40), 54, "regs.go:54", #[⟨2, .data⟩, ⟨2, .chain⟩, ⟨0, .phase⟩, ⟨1, .phase⟩, ⟨2, .phase⟩], none⟩
def put5_ops : Array Oper := #[put5_o0, put5_o1, put5_o2, put5_o3]
theorem put5 {rb pb tb : Nat} (Fin : Nat → World → Prop) (a : Act) (w : World) (Q : Exit → Act → World → Prop) (zz : a.tmps.size = 41)
    (t0 : a.tmps.getD 0 undef = .pointer (some ⟨rb, 0, none⟩))
    (t6 : a.tmps.getD 6 undef = .pointer (some ⟨pb, 0, none⟩))
    (t11 : a.tmps.getD 11 undef = .pointer (some ⟨tb, 0, none⟩))
    (CS : Calls Tryd.prog 51 #[.pointer (some ⟨rb, 0, none⟩), .func (.func 52) #[] #[.pointer (some ⟨pb, 0, none⟩), .pointer (some ⟨tb, 0, none⟩)]] w fun e w' => ∃ bk, e = .returned (.pointer (some ⟨bk, 0, none⟩)) ∧ Fin bk w')
    (h : ∀ (bk : Nat) (a' : Act) (w' : World), Fin bk w' → a' = ((((a).put (some 38) (.pointer (some ⟨rb, 0, none⟩))).put (some 39) (.func (.func 52) #[] #[.pointer (some ⟨pb, 0, none⟩), .pointer (some ⟨tb, 0, none⟩)])).put (some 40) (.pointer (some ⟨bk, 0, none⟩))).put (some 10) (.pointer (some ⟨bk, 0, none⟩)) → Q .normal a' w') :
    (Code.region 5 put5_ops false).wp Tryd.prog Q a w := by
  refine z0 rfl ?_
  refine zv rfl (exec_move rfl (zi t0 rfl)) ?_
  refine zv (v := .func (.func 52) #[] #[.pointer (some ⟨pb, 0, none⟩), .pointer (some ⟨tb, 0, none⟩)]) rfl (exec_mkf2 rfl (zi t6 rfl) (zi t11 rfl)) ?_
  refine zc rfl (exec_c2 rfl (zg zz rfl) (zg zz rfl)) (CS) (fun e x2 hx => ?_)
  obtain ⟨bk, rfl, HF⟩ := hx
  replace h := h bk
  refine ⟨_, rfl, ?_⟩
  refine zv rfl (exec_assign rfl (zg zz rfl)) ?_
  exact ze rfl (h _ _ (HF) rfl)
def del3_o0 : Oper := ⟨some 10, .move (.tmp 0), 26, "regs.go:65", #[], none⟩
def del3_o1 : Oper := ⟨some 11, .nilCheck (.tmp 10), 0, "regs.go:65", #[⟨0, .data⟩], none⟩
def del3_o2 : Oper := ⟨some 12, .fieldAddr 84 (.tmp 11) 0, 0, "regs.go:65", #[⟨1, .data⟩], none⟩
def del3_o3 : Oper := ⟨some 13, .load 81 (.tmp 12), 81, "regs.go:65", #[⟨2, .data⟩], none⟩
def del3_o4 : Oper := ⟨some 14, .load 52 (.tmp 4), 52, "regs.go:65", #[], none⟩
def del3_o5 : Oper := ⟨some 15, .lookup 81 (.tmp 13) (.tmp 14) false, 60, "regs.go:65", #[⟨3, .data⟩, ⟨4, .data⟩], none⟩
def del3_o6 : Oper := ⟨some 16, .move (.tmp 2), 80, "regs.go:65", #[], none⟩
def del3_o7 : Oper := ⟨some 17, .call { callee := Callee.value (Operand.func 48), args := #[.tmp 15, .tmp 16], argTypes := #[60, 80] }, 101, "regs.go:65", #[⟨5, .data⟩, ⟨6, .data⟩], none⟩
def del3_o8 : Oper := ⟨some 7, .alloc 101, 0, "regs.go:65", #[], none⟩
def del3_o9 : Oper := ⟨none, .store 101 (.tmp 7) (.tmp 17), 0, "regs.go:65", #[⟨8, .data⟩, ⟨7, .data⟩, ⟨7, .chain⟩, ⟨0, .phase⟩, ⟨1, .phase⟩, ⟨2, .phase⟩, ⟨3, .phase⟩, ⟨4, .phase⟩, ⟨5, .phase⟩, ⟨6, .phase⟩, ⟨7, .phase⟩, ⟨8, .phase⟩], none⟩
def del3_ops : Array Oper := #[del3_o0, del3_o1, del3_o2, del3_o3, del3_o4, del3_o5, del3_o6, del3_o7, del3_o8, del3_o9]
theorem del3 {rb mb pb tb2 : Nat} {p : PlK} {fv lv : Value} {y1 : World} (S : World → Prop) (Fin : Nat → Value → World → Prop) (a : Act) (w : World) (Q : Exit → Act → World → Prop) (hsz : a.tmps.size = 32)
    (t0 : a.tmps.getD 0 undef = .pointer (some ⟨rb, 0, none⟩))
    (t2 : a.tmps.getD 2 undef = fv)
    (t4 : a.tmps.getD 4 undef = .pointer (some ⟨pb, 0, none⟩))
    (h0 : S w.drew) (LR : ∀ W, S W → (Instr.loadAt 81 (.pointer (some ⟨rb, 0 + 0, none⟩))).run Tryd.prog W = .ok (.map (some mb)) W) (LP : ∀ W, S W → (Instr.loadAt 52 (.pointer (some ⟨pb, 0, none⟩))).run Tryd.prog W = .ok (p.v) W) (LK : ∀ W, S W → (Instr.lookup 81 (.map (some mb)) p.v false).run Tryd.prog W = .ok lv W) (CA : Calls Tryd.prog 48 #[lv, fv] w.drew fun e w' => ∃ tv tb wa wb, e = .returned tv ∧ S w' ∧ (Instr.alloc 101 true (.tuple #[])).run Tryd.prog w' = .ok (.pointer (some ⟨tb, 0, none⟩)) wa ∧ S wa ∧ (Instr.storeAt 101 (.pointer (some ⟨tb, 0, none⟩)) tv).run Tryd.prog wa = .ok () wb ∧ S wb ∧ Fin tb tv wb) (EB : (Instr.alloc 101 true (.tuple #[])).run Tryd.prog w.drew = .ok (.pointer (some ⟨tb2, 0, none⟩)) y1) (S4 : S y1) (CB : Calls Tryd.prog 48 #[lv, fv] y1 fun e w' => ∃ tv wb, e = .returned tv ∧ S w' ∧ (Instr.storeAt 101 (.pointer (some ⟨tb2, 0, none⟩)) tv).run Tryd.prog w' = .ok () wb ∧ S wb ∧ Fin tb2 tv wb)
    (h1 : ∀ (tv : Value) (tb : Nat) (a' : Act) (w' : World), Fin tb tv w' → a' = (((((((((a).put (some 10) (.pointer (some ⟨rb, 0, none⟩))).put (some 11) (.pointer (some ⟨rb, 0, none⟩))).put (some 12) (.pointer (some ⟨rb, 0 + 0, none⟩))).put (some 13) (.map (some mb))).put (some 14) (p.v)).put (some 15) (lv)).put (some 16) (fv)).put (some 17) (tv)).put (some 7) (.pointer (some ⟨tb, 0, none⟩)) → Q .normal a' w')
    (h2 : ∀ (tv : Value) (a' : Act) (w' : World), Fin tb2 tv w' → a' = (((((((((a).put (some 10) (.pointer (some ⟨rb, 0, none⟩))).put (some 11) (.pointer (some ⟨rb, 0, none⟩))).put (some 12) (.pointer (some ⟨rb, 0 + 0, none⟩))).put (some 13) (.map (some mb))).put (some 14) (p.v)).put (some 15) (lv)).put (some 16) (fv)).put (some 7) (.pointer (some ⟨tb2, 0, none⟩))).put (some 17) (tv) → Q .normal a' w') :
    (Code.region 3 del3_ops true).wp Tryd.prog Q a w := by
  refine wp_region_noPanic ?_
  refine wp_region_held_drew (S := fun w' => S w') (by kernel_rfl) (h0) (fun hHeld => ?_)
  refine wpAnyH_take (i := 0) (oi := del3_o0) (v := .pointer (some ⟨rb, 0, none⟩)) rfl (by kernel_rfl) (by kernel_rfl) (by kernel_rfl) (fun _ _ _ h => h) (Or.inl ⟨by rfl, fun w1 hw => exec_move rfl t0⟩) hHeld ?_
  change wpAnyH _ _ _ _ _ _ _ (a.put (some 10) (.pointer (some ⟨rb, 0, none⟩))) _
  obtain ⟨a1, e1⟩ : ∃ act, act = a.put (some 10) (.pointer (some ⟨rb, 0, none⟩)) := ⟨_, rfl⟩
  rw [← e1] at h1 h2 ⊢
  have z1 := pz e1 hsz
  replace t2 := pk e1 t2
  replace t4 := pk e1 t4
  clear t0
  have t10 := pq e1 hsz
  clear e1 hsz
  refine wpAnyH_take (i := 1) (oi := del3_o1) (v := .pointer (some ⟨rb, 0, none⟩)) rfl (by kernel_rfl) (by kernel_rfl) (by kernel_rfl) (fun _ _ _ h => h) (Or.inl ⟨by rfl, fun w1 hw => exec_nilCheck rfl t10⟩) hHeld ?_
  change wpAnyH _ _ _ _ _ _ _ (a1.put (some 11) (.pointer (some ⟨rb, 0, none⟩))) _
  obtain ⟨a2, e2⟩ : ∃ act, act = a1.put (some 11) (.pointer (some ⟨rb, 0, none⟩)) := ⟨_, rfl⟩
  rw [← e2] at h1 h2 ⊢
  have z2 := pz e2 z1
  replace t2 := pk e2 t2
  replace t4 := pk e2 t4
  clear t10
  have t11 := pq e2 z1
  clear e2 z1
  refine wpAnyH_take (i := 2) (oi := del3_o2) (v := .pointer (some ⟨rb, 0 + 0, none⟩)) rfl (by kernel_rfl) (by kernel_rfl) (by kernel_rfl) (fun _ _ _ h => h) (Or.inl ⟨by rfl, fun w1 hw => exec_fieldAt rfl t11 (fg_84_0 _ _ _)⟩) hHeld ?_
  change wpAnyH _ _ _ _ _ _ _ (a2.put (some 12) (.pointer (some ⟨rb, 0 + 0, none⟩))) _
  obtain ⟨a3, e3⟩ : ∃ act, act = a2.put (some 12) (.pointer (some ⟨rb, 0 + 0, none⟩)) := ⟨_, rfl⟩
  rw [← e3] at h1 h2 ⊢
  have z3 := pz e3 z2
  replace t2 := pk e3 t2
  replace t4 := pk e3 t4
  clear t11
  have t12 := pq e3 z2
  clear e3 z2
  refine wpAnyH_take (i := 3) (oi := del3_o3) (v := .map (some mb)) rfl (by kernel_rfl) (by kernel_rfl) (by kernel_rfl) (fun _ _ _ h => h) (Or.inl ⟨by rfl, fun w1 hw => exec_load rfl t12 (LR _ hw)⟩) hHeld ?_
  change wpAnyH _ _ _ _ _ _ _ (a3.put (some 13) (.map (some mb))) _
  obtain ⟨a4, e4⟩ : ∃ act, act = a3.put (some 13) (.map (some mb)) := ⟨_, rfl⟩
  rw [← e4] at h1 h2 ⊢
  have z4 := pz e4 z3
  replace t2 := pk e4 t2
  replace t4 := pk e4 t4
  clear t12
  have t13 := pq e4 z3
  clear e4 z3
  refine wpAnyH_take (i := 4) (oi := del3_o4) (v := p.v) rfl (by kernel_rfl) (by kernel_rfl) (by kernel_rfl) (fun _ _ _ h => h) (Or.inl ⟨by rfl, fun w1 hw => exec_load rfl t4 (LP _ hw)⟩) hHeld ?_
  change wpAnyH _ _ _ _ _ _ _ (a4.put (some 14) (p.v)) _
  obtain ⟨a5, e5⟩ : ∃ act, act = a4.put (some 14) (p.v) := ⟨_, rfl⟩
  rw [← e5] at h1 h2 ⊢
  have z5 := pz e5 z4
  replace t2 := pk e5 t2
  replace t13 := pk e5 t13
  clear t4
  have t14 := pq e5 z4
  clear e5 z4
  refine wpAnyH_take (i := 5) (oi := del3_o5) (v := lv) rfl (by kernel_rfl) (by kernel_rfl) (by kernel_rfl) (fun _ _ _ h => h) (Or.inl ⟨by rfl, fun w1 hw => exec_lookup rfl t13 t14 (LK _ hw)⟩) hHeld ?_
  change wpAnyH _ _ _ _ _ _ _ (a5.put (some 15) (lv)) _
  obtain ⟨a6, e6⟩ : ∃ act, act = a5.put (some 15) (lv) := ⟨_, rfl⟩
  rw [← e6] at h1 h2 ⊢
  have z6 := pz e6 z5
  replace t2 := pk e6 t2
  clear t13 t14
  have t15 := pq e6 z5
  clear e6 z5
  refine wpAnyH_take (i := 6) (oi := del3_o6) (v := fv) rfl (by kernel_rfl) (by kernel_rfl) (by kernel_rfl) (fun _ _ _ h => h) (Or.inl ⟨by rfl, fun w1 hw => exec_move rfl t2⟩) hHeld ?_
  change wpAnyH _ _ _ _ _ _ _ (a6.put (some 16) (fv)) _
  obtain ⟨a7, e7⟩ : ∃ act, act = a6.put (some 16) (fv) := ⟨_, rfl⟩
  rw [← e7] at h1 h2 ⊢
  have z7 := pz e7 z6
  replace t15 := pk e7 t15
  clear t2
  have t16 := pq e7 z6
  clear e7 z6
  refine wpAnyH_ready (rs := [7, 8]) (by kernel_rfl) (by simp) ?_
  refine AllReadyH.cons (o := del3_o7) rfl (fun K hK => ?_) (AllReadyH.cons (o := del3_o8) rfl (fun K hK => ?_) (AllReadyH.nil))
  · clear h2
    rw [if_pos (by rfl)]
    unfold del3_o7 at hK ⊢
    go_simp
    refine (CA).mono ?_
    rintro e x8 ⟨tv, tb, wa, wb, rfl, S1, EA, S2, ES, S3, HF⟩
    try go_wp2_with fail
    replace h1 := h1 tv tb
    refine hK.out _ _ (S1) (fun hHeld => ?_)
    clear hK K
    change wpAnyH _ _ _ _ _ _ _ (a7.put (some 17) (tv)) _
    obtain ⟨a8, e8⟩ : ∃ act, act = a7.put (some 17) (tv) := ⟨_, rfl⟩
    rw [← e8] at h1 ⊢
    have z8 := pz e8 z7
    clear t15 t16
    have t17 := pq e8 z7
    clear e8 z7
    refine wpAnyH_ready (rs := [8]) (by kernel_rfl) (by simp) ?_
    refine AllReadyH.cons (o := del3_o8) rfl (fun K hK => ?_) AllReadyH.nil
    have X := exec_alloc (P := Tryd.prog) (a := a8) (o := del3_o8) rfl EA
    rw [if_pos (by rfl), Oper.wp, X]
    show K _ _
    clear X
    refine hK.out _ _ (S2) (fun hHeld => ?_)
    clear hK K
    change wpAnyH _ _ _ _ _ _ _ (a8.put (some 7) (.pointer (some ⟨tb, 0, none⟩))) _
    obtain ⟨a9, e9⟩ : ∃ act, act = a8.put (some 7) (.pointer (some ⟨tb, 0, none⟩)) := ⟨_, rfl⟩
    rw [← e9] at h1 ⊢
    have z9 := pz e9 z8
    replace t17 := pk e9 t17
    have t7 := pq e9 z8
    clear e9 z8
    refine wpAnyH_ready (rs := [9]) (by kernel_rfl) (by simp) ?_
    refine AllReadyH.cons (o := del3_o9) rfl (fun K hK => ?_) AllReadyH.nil
    have X := exec_store (P := Tryd.prog) (a := a9) (o := del3_o9) rfl t7 t17 ES
    rw [if_pos (by rfl), Oper.wp, X]
    show K _ _
    clear X
    refine hK.out _ _ (S3) (fun hHeld => ?_)
    clear hK K
    exact wpAnyH_done (by kernel_rfl) (NoPanic.normal (h1 _ _ (HF) rfl)) _
  · clear h1
    have X := exec_alloc (P := Tryd.prog) (a := a7) (o := del3_o8) rfl EB
    rw [if_pos (by rfl), Oper.wp, X]
    show K _ _
    clear X
    refine hK.out _ _ (S4) (fun hHeld => ?_)
    clear hK K
    change wpAnyH _ _ _ _ _ _ _ (a7.put (some 7) (.pointer (some ⟨tb2, 0, none⟩))) _
    obtain ⟨a11, e11⟩ : ∃ act, act = a7.put (some 7) (.pointer (some ⟨tb2, 0, none⟩)) := ⟨_, rfl⟩
    rw [← e11] at h2 ⊢
    have z11 := pz e11 z7
    replace t15 := pk e11 t15
    replace t16 := pk e11 t16
    have t7 := pq e11 z7
    clear e11 z7
    refine wpAnyH_ready (rs := [7]) (by kernel_rfl) (by simp) ?_
    refine AllReadyH.cons (o := del3_o7) rfl (fun K hK => ?_) AllReadyH.nil
    rw [if_pos (by rfl)]
    unfold del3_o7 at hK ⊢
    go_simp
    refine (CB).mono ?_
    rintro e x12 ⟨tv, wb, rfl, S5, ES, S6, HF⟩
    try go_wp2_with fail
    replace h2 := h2 tv
    refine hK.out _ _ (S5) (fun hHeld => ?_)
    clear hK K
    change wpAnyH _ _ _ _ _ _ _ (a11.put (some 17) (tv)) _
    obtain ⟨a12, e12⟩ : ∃ act, act = a11.put (some 17) (tv) := ⟨_, rfl⟩
    rw [← e12] at h2 ⊢
    have z12 := pz e12 z11
    replace t7 := pk e12 t7
    clear t15 t16
    have t17 := pq e12 z11
    clear e12 z11
    refine wpAnyH_ready (rs := [9]) (by kernel_rfl) (by simp) ?_
    refine AllReadyH.cons (o := del3_o9) rfl (fun K hK => ?_) AllReadyH.nil
    have X := exec_store (P := Tryd.prog) (a := a12) (o := del3_o9) rfl t7 t17 ES
    rw [if_pos (by rfl), Oper.wp, X]
    show K _ _
    clear X
    refine hK.out _ _ (S6) (fun hHeld => ?_)
    clear hK K
    exact wpAnyH_done (by kernel_rfl) (NoPanic.normal (h2 _ _ (HF) rfl)) _
def del4_o0 : Oper := ⟨some 18, .move (.tmp 0), 26, "regs.go:66", #[], none⟩
def del4_o1 : Oper := ⟨some 19, .load 52 (.tmp 4), 52, "regs.go:66", #[], none⟩
def del4_o2 : Oper := ⟨some 20, .move (.tmp 0), 26, "regs.go:66", #[], none⟩
def del4_o3 : Oper := ⟨some 21, .nilCheck (.tmp 20), 0, "regs.go:66", #[⟨2, .data⟩], none⟩
def del4_o4 : Oper := ⟨some 22, .fieldAddr 84 (.tmp 21) 0, 0, "regs.go:66", #[⟨3, .data⟩], none⟩
def del4_o5 : Oper := ⟨some 23, .load 81 (.tmp 22), 81, "regs.go:66", #[⟨4, .data⟩], none⟩
def del4_o6 : Oper := ⟨some 24, .load 52 (.tmp 4), 52, "regs.go:66", #[], none⟩
def del4_o7 : Oper := ⟨some 25, .lookup 81 (.tmp 23) (.tmp 24) false, 60, "regs.go:66", #[⟨5, .data⟩, ⟨6, .data⟩], none⟩
def del4_o8 : Oper := ⟨some 26, .load 101 (.tmp 7), 101, "regs.go:66", #[], none⟩
def del4_o9 : Oper := ⟨some 27, .call { callee := Callee.value (Operand.func 50), args := #[.tmp 25, .tmp 26], argTypes := #[60, 101] }, 60, "regs.go:66", #[⟨7, .data⟩, ⟨8, .data⟩], none⟩
def del4_o10 : Oper := ⟨some 28, .call { callee := Callee.value (Operand.func 49), args := #[.tmp 18, .tmp 19, .tmp 27], argTypes := #[26, 52, 60] }, 0, "regs.go:66", #[⟨0, .data⟩, ⟨1, .data⟩, ⟨9, .data⟩, ⟨9, .chain⟩], none⟩
def del4_ops : Array Oper := #[del4_o0, del4_o1, del4_o2, del4_o3, del4_o4, del4_o5, del4_o6, del4_o7, del4_o8, del4_o9, del4_o10]
theorem del4 {rb mb pb tb : Nat} {p : PlK} {lv tv : Value} (S Fin : World → Prop) (a : Act) (w : World) (Q : Exit → Act → World → Prop) (zz : a.tmps.size = 32)
    (t0 : a.tmps.getD 0 undef = .pointer (some ⟨rb, 0, none⟩))
    (t4 : a.tmps.getD 4 undef = .pointer (some ⟨pb, 0, none⟩))
    (t7 : a.tmps.getD 7 undef = .pointer (some ⟨tb, 0, none⟩))
    (h0 : S w.drew) (LR : ∀ W, S W → (Instr.loadAt 81 (.pointer (some ⟨rb, 0 + 0, none⟩))).run Tryd.prog W = .ok (.map (some mb)) W) (LP : ∀ W, S W → (Instr.loadAt 52 (.pointer (some ⟨pb, 0, none⟩))).run Tryd.prog W = .ok (p.v) W) (LT : ∀ W, S W → (Instr.loadAt 101 (.pointer (some ⟨tb, 0, none⟩))).run Tryd.prog W = .ok (tv) W) (L1 : (Instr.lookup 81 (.map (some mb)) p.v false).run Tryd.prog w.drew = .ok lv w.drew) (CA : Calls Tryd.prog 50 #[lv, tv] w.drew fun e w' => ∃ u, e = .returned u ∧ S w' ∧ Calls Tryd.prog 49 #[.pointer (some ⟨rb, 0, none⟩), p.v, u] w' fun e w4 => e = .returned (.tuple #[]) ∧ S w4 ∧ Fin w4)
    (h : ∀ (u : Value) (a' : Act) (w' : World), Fin w' → a' = (((((((((((a).put (some 18) (.pointer (some ⟨rb, 0, none⟩))).put (some 19) (p.v)).put (some 20) (.pointer (some ⟨rb, 0, none⟩))).put (some 21) (.pointer (some ⟨rb, 0, none⟩))).put (some 22) (.pointer (some ⟨rb, 0 + 0, none⟩))).put (some 23) (.map (some mb))).put (some 24) (p.v)).put (some 26) (tv)).put (some 25) (lv)).put (some 27) (u)).put (some 28) (.tuple #[]) → Q .normal a' w') :
    (Code.region 4 del4_ops true).wp Tryd.prog Q a w := by
  refine y0 (fun w' => S w') (h0) (fun hHeld => ?_)
  refine yv 0 rfl rfl (fun w1 hw => exec_move rfl (zi t0 rfl)) hHeld ?_
  refine yv 1 rfl rfl (fun w1 hw => exec_load rfl (zi t4 rfl) (LP _ hw)) hHeld ?_
  refine yv 2 rfl rfl (fun w1 hw => exec_move rfl (zi t0 rfl)) hHeld ?_
  refine yv 3 rfl rfl (fun w1 hw => exec_nilCheck rfl (zg zz rfl)) hHeld ?_
  refine yv 4 rfl rfl (fun w1 hw => exec_fieldAt rfl (zg zz rfl) (fg_84_0 _ _ _)) hHeld ?_
  refine yv 5 rfl rfl (fun w1 hw => exec_load rfl (zg zz rfl) (LR _ hw)) hHeld ?_
  refine yv 6 rfl rfl (fun w1 hw => exec_load rfl (zi t4 rfl) (LP _ hw)) hHeld ?_
  refine yv 8 rfl rfl (fun w1 hw => exec_load rfl (zi t7 rfl) (LT _ hw)) hHeld ?_
  refine yr (v := lv) 7 rfl rfl (exec_lookup rfl (zg zz rfl) (zg zz rfl) L1) (h0) (fun hHeld => ?_)
  refine yc 9 rfl rfl (exec_c2 rfl (zg zz rfl) (zg zz rfl)) (CA) (fun e x9 hx => ?_)
  obtain ⟨u, rfl, S1, CL⟩ := hx
  replace h := h u
  refine ⟨_, rfl, S1, fun hHeld => ?_⟩
  refine yc 10 rfl rfl (exec_c3 rfl (zg zz rfl) (zg zz rfl) (zg zz rfl)) (CL) (fun e x10 hx => ?_)
  obtain ⟨rfl, S2, HF⟩ := hx
  refine ⟨_, rfl, S2, fun hHeld => ?_⟩
  exact ye rfl (h _ _ (HF) rfl)
def del5_o0 : Oper := ⟨some 29, .move (.tmp 0), 26, "regs.go:67", #[], none⟩
def del5_o1 : Oper := ⟨some 30, .makeFunc (Fn.func 54) #[] #[.tmp 4, .tmp 7], 106, "regs.go:67", #[], none⟩
def del5_o2 : Oper := ⟨some 31, .call { callee := Callee.value (Operand.func 51), args := #[.tmp 29, .tmp 30], argTypes := #[26, 106] }, 54, "regs.go:67", #[⟨0, .data⟩, ⟨1, .data⟩], none⟩
def del5_o3 : Oper := ⟨some 6, .assign (.tmp 31), 54, "regs.go:67", #[⟨2, .data⟩, ⟨2, .chain⟩, ⟨0, .phase⟩, ⟨1, .phase⟩, ⟨2, .phase⟩], none⟩
def del5_ops : Array Oper := #[del5_o0, del5_o1, del5_o2, del5_o3]
theorem del5 {rb pb tb : Nat} (Fin : Nat → World → Prop) (a : Act) (w : World) (Q : Exit → Act → World → Prop) (zz : a.tmps.size = 32)
    (t0 : a.tmps.getD 0 undef = .pointer (some ⟨rb, 0, none⟩))
    (t4 : a.tmps.getD 4 undef = .pointer (some ⟨pb, 0, none⟩))
    (t7 : a.tmps.getD 7 undef = .pointer (some ⟨tb, 0, none⟩))
    (CS : Calls Tryd.prog 51 #[.pointer (some ⟨rb, 0, none⟩), .func (.func 54) #[] #[.pointer (some ⟨pb, 0, none⟩), .pointer (some ⟨tb, 0, none⟩)]] w fun e w' => ∃ bk, e = .returned (.pointer (some ⟨bk, 0, none⟩)) ∧ Fin bk w')
    (h : ∀ (bk : Nat) (a' : Act) (w' : World), Fin bk w' → a' = ((((a).put (some 29) (.pointer (some ⟨rb, 0, none⟩))).put (some 30) (.func (.func 54) #[] #[.pointer (some ⟨pb, 0, none⟩), .pointer (some ⟨tb, 0, none⟩)])).put (some 31) (.pointer (some ⟨bk, 0, none⟩))).put (some 6) (.pointer (some ⟨bk, 0, none⟩)) → Q .normal a' w') :
    (Code.region 5 del5_ops false).wp Tryd.prog Q a w := by
  refine z0 rfl ?_
  refine zv rfl (exec_move rfl (zi t0 rfl)) ?_
  refine zv (v := .func (.func 54) #[] #[.pointer (some ⟨pb, 0, none⟩), .pointer (some ⟨tb, 0, none⟩)]) rfl (exec_mkf2 rfl (zi t4 rfl) (zi t7 rfl)) ?_
  refine zc rfl (exec_c2 rfl (zg zz rfl) (zg zz rfl)) (CS) (fun e x2 hx => ?_)
  obtain ⟨bk, rfl, HF⟩ := hx
  replace h := h bk
  refine ⟨_, rfl, ?_⟩
  refine zv rfl (exec_assign rfl (zg zz rfl)) ?_
  exact ze rfl (h _ _ (HF) rfl)
def delb0_o0 : Oper := ⟨some 4, .move (.tmp 0), 26, "regs.go:68", #[], none⟩
def delb0_o1 : Oper := ⟨some 5, .load 52 (.tmp 1), 52, "regs.go:68", #[], none⟩
def delb0_o2 : Oper := ⟨some 6, .move (.tmp 0), 26, "regs.go:68", #[], none⟩
def delb0_o3 : Oper := ⟨some 7, .nilCheck (.tmp 6), 0, "regs.go:68", #[⟨2, .data⟩], none⟩
def delb0_o4 : Oper := ⟨some 8, .fieldAddr 84 (.tmp 7) 0, 0, "regs.go:68", #[⟨3, .data⟩], none⟩
def delb0_o5 : Oper := ⟨some 9, .load 81 (.tmp 8), 81, "regs.go:68", #[⟨4, .data⟩], none⟩
def delb0_o6 : Oper := ⟨some 10, .load 52 (.tmp 1), 52, "regs.go:68", #[], none⟩
def delb0_o7 : Oper := ⟨some 11, .lookup 81 (.tmp 9) (.tmp 10) false, 60, "regs.go:68", #[⟨5, .data⟩, ⟨6, .data⟩], none⟩
def delb0_o8 : Oper := ⟨some 12, .load 101 (.tmp 2), 101, "regs.go:68", #[], none⟩
def delb0_o9 : Oper := ⟨some 13, .call { callee := Callee.value (Operand.func 53), args := #[.tmp 11, .tmp 12], argTypes := #[60, 101] }, 60, "regs.go:68", #[⟨7, .data⟩, ⟨8, .data⟩], none⟩
def delb0_o10 : Oper := ⟨some 14, .call { callee := Callee.value (Operand.func 49), args := #[.tmp 4, .tmp 5, .tmp 13], argTypes := #[26, 52, 60] }, 0, "regs.go:68", #[⟨0, .data⟩, ⟨1, .data⟩, ⟨9, .data⟩, ⟨9, .chain⟩], none⟩
def delb0_ops : Array Oper := #[delb0_o0, delb0_o1, delb0_o2, delb0_o3, delb0_o4, delb0_o5, delb0_o6, delb0_o7, delb0_o8, delb0_o9, delb0_o10]
theorem delb0 {rb mb pb tb : Nat} {p : PlK} {lv tv : Value} (S Fin : World → Prop) (a : Act) (w : World) (Q : Exit → Act → World → Prop) (zz : a.tmps.size = 15)
    (t0 : a.tmps.getD 0 undef = .pointer (some ⟨rb, 0, none⟩))
    (t1 : a.tmps.getD 1 undef = .pointer (some ⟨pb, 0, none⟩))
    (t2 : a.tmps.getD 2 undef = .pointer (some ⟨tb, 0, none⟩))
    (h0 : S w.drew) (LR : ∀ W, S W → (Instr.loadAt 81 (.pointer (some ⟨rb, 0 + 0, none⟩))).run Tryd.prog W = .ok (.map (some mb)) W) (LP : ∀ W, S W → (Instr.loadAt 52 (.pointer (some ⟨pb, 0, none⟩))).run Tryd.prog W = .ok (p.v) W) (LT : ∀ W, S W → (Instr.loadAt 101 (.pointer (some ⟨tb, 0, none⟩))).run Tryd.prog W = .ok (tv) W) (L1 : (Instr.lookup 81 (.map (some mb)) p.v false).run Tryd.prog w.drew = .ok lv w.drew) (CA : Calls Tryd.prog 53 #[lv, tv] w.drew fun e w' => ∃ u, e = .returned u ∧ S w' ∧ Calls Tryd.prog 49 #[.pointer (some ⟨rb, 0, none⟩), p.v, u] w' fun e w4 => e = .returned (.tuple #[]) ∧ S w4 ∧ Fin w4)
    (h : ∀ (u : Value) (a' : Act) (w' : World), Fin w' → a' = (((((((((((a).put (some 4) (.pointer (some ⟨rb, 0, none⟩))).put (some 5) (p.v)).put (some 6) (.pointer (some ⟨rb, 0, none⟩))).put (some 7) (.pointer (some ⟨rb, 0, none⟩))).put (some 8) (.pointer (some ⟨rb, 0 + 0, none⟩))).put (some 9) (.map (some mb))).put (some 10) (p.v)).put (some 12) (tv)).put (some 11) (lv)).put (some 13) (u)).put (some 14) (.tuple #[]) → Q .normal a' w') :
    (Code.region 0 delb0_ops true).wp Tryd.prog Q a w := by
  refine y0 (fun w' => S w') (h0) (fun hHeld => ?_)
  refine yv 0 rfl rfl (fun w1 hw => exec_move rfl (zi t0 rfl)) hHeld ?_
  refine yv 1 rfl rfl (fun w1 hw => exec_load rfl (zi t1 rfl) (LP _ hw)) hHeld ?_
  refine yv 2 rfl rfl (fun w1 hw => exec_move rfl (zi t0 rfl)) hHeld ?_
  refine yv 3 rfl rfl (fun w1 hw => exec_nilCheck rfl (zg zz rfl)) hHeld ?_
  refine yv 4 rfl rfl (fun w1 hw => exec_fieldAt rfl (zg zz rfl) (fg_84_0 _ _ _)) hHeld ?_
  refine yv 5 rfl rfl (fun w1 hw => exec_load rfl (zg zz rfl) (LR _ hw)) hHeld ?_
  refine yv 6 rfl rfl (fun w1 hw => exec_load rfl (zi t1 rfl) (LP _ hw)) hHeld ?_
  refine yv 8 rfl rfl (fun w1 hw => exec_load rfl (zi t2 rfl) (LT _ hw)) hHeld ?_
  refine yr (v := lv) 7 rfl rfl (exec_lookup rfl (zg zz rfl) (zg zz rfl) L1) (h0) (fun hHeld => ?_)
  refine yc 9 rfl rfl (exec_c2 rfl (zg zz rfl) (zg zz rfl)) (CA) (fun e x9 hx => ?_)
  obtain ⟨u, rfl, S1, CL⟩ := hx
  replace h := h u
  refine ⟨_, rfl, S1, fun hHeld => ?_⟩
  refine yc 10 rfl rfl (exec_c3 rfl (zg zz rfl) (zg zz rfl) (zg zz rfl)) (CL) (fun e x10 hx => ?_)
  obtain ⟨rfl, S2, HF⟩ := hx
  refine ⟨_, rfl, S2, fun hHeld => ?_⟩
  exact ye rfl (h _ _ (HF) rfl)
def add3_o0 : Oper := ⟨some 12, .move (.tmp 0), 26, "regs.go:77", #[], none⟩
def add3_o1 : Oper := ⟨some 13, .nilCheck (.tmp 12), 0, "regs.go:77", #[⟨0, .data⟩], none⟩
def add3_o2 : Oper := ⟨some 14, .fieldAddr 84 (.tmp 13) 0, 0, "regs.go:77", #[⟨1, .data⟩], none⟩
def add3_o3 : Oper := ⟨some 15, .load 81 (.tmp 14), 81, "regs.go:77", #[⟨2, .data⟩], none⟩
def add3_o4 : Oper := ⟨some 16, .load 52 (.tmp 5), 52, "regs.go:77", #[], none⟩
def add3_o5 : Oper := ⟨some 17, .lookup 81 (.tmp 15) (.tmp 16) false, 60, "regs.go:77", #[⟨3, .data⟩, ⟨4, .data⟩], none⟩
def add3_o6 : Oper := ⟨some 18, .move (.tmp 3), 80, "regs.go:77", #[], none⟩
def add3_o7 : Oper := ⟨some 19, .call { callee := Callee.value (Operand.func 48), args := #[.tmp 17, .tmp 18], argTypes := #[60, 80] }, 101, "regs.go:77", #[⟨5, .data⟩, ⟨6, .data⟩], none⟩
def add3_o8 : Oper := ⟨some 9, .alloc 101, 0, "regs.go:77", #[], none⟩
def add3_o9 : Oper := ⟨none, .store 101 (.tmp 9) (.tmp 19), 0, "regs.go:77", #[⟨8, .data⟩, ⟨7, .data⟩, ⟨7, .chain⟩, ⟨0, .phase⟩, ⟨1, .phase⟩, ⟨2, .phase⟩, ⟨3, .phase⟩, ⟨4, .phase⟩, ⟨5, .phase⟩, ⟨6, .phase⟩, ⟨7, .phase⟩, ⟨8, .phase⟩], none⟩
def add3_ops : Array Oper := #[add3_o0, add3_o1, add3_o2, add3_o3, add3_o4, add3_o5, add3_o6, add3_o7, add3_o8, add3_o9]
theorem add3 {rb mb pb tb2 : Nat} {p : PlK} {fv lv : Value} {y1 : World} (S : World → Prop) (Fin : Nat → Value → World → Prop) (a : Act) (w : World) (Q : Exit → Act → World → Prop) (hsz : a.tmps.size = 35)
    (t0 : a.tmps.getD 0 undef = .pointer (some ⟨rb, 0, none⟩))
    (t3 : a.tmps.getD 3 undef = fv)
    (t5 : a.tmps.getD 5 undef = .pointer (some ⟨pb, 0, none⟩))
    (h0 : S w.drew) (LR : ∀ W, S W → (Instr.loadAt 81 (.pointer (some ⟨rb, 0 + 0, none⟩))).run Tryd.prog W = .ok (.map (some mb)) W) (LP : ∀ W, S W → (Instr.loadAt 52 (.pointer (some ⟨pb, 0, none⟩))).run Tryd.prog W = .ok (p.v) W) (LK : ∀ W, S W → (Instr.lookup 81 (.map (some mb)) p.v false).run Tryd.prog W = .ok lv W) (CA : Calls Tryd.prog 48 #[lv, fv] w.drew fun e w' => ∃ tv tb wa wb, e = .returned tv ∧ S w' ∧ (Instr.alloc 101 true (.tuple #[])).run Tryd.prog w' = .ok (.pointer (some ⟨tb, 0, none⟩)) wa ∧ S wa ∧ (Instr.storeAt 101 (.pointer (some ⟨tb, 0, none⟩)) tv).run Tryd.prog wa = .ok () wb ∧ S wb ∧ Fin tb tv wb) (EB : (Instr.alloc 101 true (.tuple #[])).run Tryd.prog w.drew = .ok (.pointer (some ⟨tb2, 0, none⟩)) y1) (S4 : S y1) (CB : Calls Tryd.prog 48 #[lv, fv] y1 fun e w' => ∃ tv wb, e = .returned tv ∧ S w' ∧ (Instr.storeAt 101 (.pointer (some ⟨tb2, 0, none⟩)) tv).run Tryd.prog w' = .ok () wb ∧ S wb ∧ Fin tb2 tv wb)
    (h1 : ∀ (tv : Value) (tb : Nat) (a' : Act) (w' : World), Fin tb tv w' → a' = (((((((((a).put (some 12) (.pointer (some ⟨rb, 0, none⟩))).put (some 13) (.pointer (some ⟨rb, 0, none⟩))).put (some 14) (.pointer (some ⟨rb, 0 + 0, none⟩))).put (some 15) (.map (some mb))).put (some 16) (p.v)).put (some 17) (lv)).put (some 18) (fv)).put (some 19) (tv)).put (some 9) (.pointer (some ⟨tb, 0, none⟩)) → Q .normal a' w')
    (h2 : ∀ (tv : Value) (a' : Act) (w' : World), Fin tb2 tv w' → a' = (((((((((a).put (some 12) (.pointer (some ⟨rb, 0, none⟩))).put (some 13) (.pointer (some ⟨rb, 0, none⟩))).put (some 14) (.pointer (some ⟨rb, 0 + 0, none⟩))).put (some 15) (.map (some mb))).put (some 16) (p.v)).put (some 17) (lv)).put (some 18) (fv)).put (some 9) (.pointer (some ⟨tb2, 0, none⟩))).put (some 19) (tv) → Q .normal a' w') :
    (Code.region 3 add3_ops true).wp Tryd.prog Q a w := by
  refine wp_region_noPanic ?_
  refine wp_region_held_drew (S := fun w' => S w') (by kernel_rfl) (h0) (fun hHeld => ?_)
  refine wpAnyH_take (i := 0) (oi := add3_o0) (v := .pointer (some ⟨rb, 0, none⟩)) rfl (by kernel_rfl) (by kernel_rfl) (by kernel_rfl) (fun _ _ _ h => h) (Or.inl ⟨by rfl, fun w1 hw => exec_move rfl t0⟩) hHeld ?_
  change wpAnyH _ _ _ _ _ _ _ (a.put (some 12) (.pointer (some ⟨rb, 0, none⟩))) _
  obtain ⟨a1, e1⟩ : ∃ act, act = a.put (some 12) (.pointer (some ⟨rb, 0, none⟩)) := ⟨_, rfl⟩
  rw [← e1] at h1 h2 ⊢
  have z1 := pz e1 hsz
  replace t3 := pk e1 t3
  replace t5 := pk e1 t5
  clear t0
  have t12 := pq e1 hsz
  clear e1 hsz
  refine wpAnyH_take (i := 1) (oi := add3_o1) (v := .pointer (some ⟨rb, 0, none⟩)) rfl (by kernel_rfl) (by kernel_rfl) (by kernel_rfl) (fun _ _ _ h => h) (Or.inl ⟨by rfl, fun w1 hw => exec_nilCheck rfl t12⟩) hHeld ?_
  change wpAnyH _ _ _ _ _ _ _ (a1.put (some 13) (.pointer (some ⟨rb, 0, none⟩))) _
  obtain ⟨a2, e2⟩ : ∃ act, act = a1.put (some 13) (.pointer (some ⟨rb, 0, none⟩)) := ⟨_, rfl⟩
  rw [← e2] at h1 h2 ⊢
  have z2 := pz e2 z1
  replace t3 := pk e2 t3
  replace t5 := pk e2 t5
  clear t12
  have t13 := pq e2 z1
  clear e2 z1
  refine wpAnyH_take (i := 2) (oi := add3_o2) (v := .pointer (some ⟨rb, 0 + 0, none⟩)) rfl (by kernel_rfl) (by kernel_rfl) (by kernel_rfl) (fun _ _ _ h => h) (Or.inl ⟨by rfl, fun w1 hw => exec_fieldAt rfl t13 (fg_84_0 _ _ _)⟩) hHeld ?_
  change wpAnyH _ _ _ _ _ _ _ (a2.put (some 14) (.pointer (some ⟨rb, 0 + 0, none⟩))) _
  obtain ⟨a3, e3⟩ : ∃ act, act = a2.put (some 14) (.pointer (some ⟨rb, 0 + 0, none⟩)) := ⟨_, rfl⟩
  rw [← e3] at h1 h2 ⊢
  have z3 := pz e3 z2
  replace t3 := pk e3 t3
  replace t5 := pk e3 t5
  clear t13
  have t14 := pq e3 z2
  clear e3 z2
  refine wpAnyH_take (i := 3) (oi := add3_o3) (v := .map (some mb)) rfl (by kernel_rfl) (by kernel_rfl) (by kernel_rfl) (fun _ _ _ h => h) (Or.inl ⟨by rfl, fun w1 hw => exec_load rfl t14 (LR _ hw)⟩) hHeld ?_
  change wpAnyH _ _ _ _ _ _ _ (a3.put (some 15) (.map (some mb))) _
  obtain ⟨a4, e4⟩ : ∃ act, act = a3.put (some 15) (.map (some mb)) := ⟨_, rfl⟩
  rw [← e4] at h1 h2 ⊢
  have z4 := pz e4 z3
  replace t3 := pk e4 t3
  replace t5 := pk e4 t5
  clear t14
  have t15 := pq e4 z3
  clear e4 z3
  refine wpAnyH_take (i := 4) (oi := add3_o4) (v := p.v) rfl (by kernel_rfl) (by kernel_rfl) (by kernel_rfl) (fun _ _ _ h => h) (Or.inl ⟨by rfl, fun w1 hw => exec_load rfl t5 (LP _ hw)⟩) hHeld ?_
  change wpAnyH _ _ _ _ _ _ _ (a4.put (some 16) (p.v)) _
  obtain ⟨a5, e5⟩ : ∃ act, act = a4.put (some 16) (p.v) := ⟨_, rfl⟩
  rw [← e5] at h1 h2 ⊢
  have z5 := pz e5 z4
  replace t3 := pk e5 t3
  replace t15 := pk e5 t15
  clear t5
  have t16 := pq e5 z4
  clear e5 z4
  refine wpAnyH_take (i := 5) (oi := add3_o5) (v := lv) rfl (by kernel_rfl) (by kernel_rfl) (by kernel_rfl) (fun _ _ _ h => h) (Or.inl ⟨by rfl, fun w1 hw => exec_lookup rfl t15 t16 (LK _ hw)⟩) hHeld ?_
  change wpAnyH _ _ _ _ _ _ _ (a5.put (some 17) (lv)) _
  obtain ⟨a6, e6⟩ : ∃ act, act = a5.put (some 17) (lv) := ⟨_, rfl⟩
  rw [← e6] at h1 h2 ⊢
  have z6 := pz e6 z5
  replace t3 := pk e6 t3
  clear t15 t16
  have t17 := pq e6 z5
  clear e6 z5
  refine wpAnyH_take (i := 6) (oi := add3_o6) (v := fv) rfl (by kernel_rfl) (by kernel_rfl) (by kernel_rfl) (fun _ _ _ h => h) (Or.inl ⟨by rfl, fun w1 hw => exec_move rfl t3⟩) hHeld ?_
  change wpAnyH _ _ _ _ _ _ _ (a6.put (some 18) (fv)) _
  obtain ⟨a7, e7⟩ : ∃ act, act = a6.put (some 18) (fv) := ⟨_, rfl⟩
  rw [← e7] at h1 h2 ⊢
  have z7 := pz e7 z6
  replace t17 := pk e7 t17
  clear t3
  have t18 := pq e7 z6
  clear e7 z6
  refine wpAnyH_ready (rs := [7, 8]) (by kernel_rfl) (by simp) ?_
  refine AllReadyH.cons (o := add3_o7) rfl (fun K hK => ?_) (AllReadyH.cons (o := add3_o8) rfl (fun K hK => ?_) (AllReadyH.nil))
  · clear h2
    rw [if_pos (by rfl)]
    unfold add3_o7 at hK ⊢
    go_simp
    refine (CA).mono ?_
    rintro e x8 ⟨tv, tb, wa, wb, rfl, S1, EA, S2, ES, S3, HF⟩
    try go_wp2_with fail
    replace h1 := h1 tv tb
    refine hK.out _ _ (S1) (fun hHeld => ?_)
    clear hK K
    change wpAnyH _ _ _ _ _ _ _ (a7.put (some 19) (tv)) _
    obtain ⟨a8, e8⟩ : ∃ act, act = a7.put (some 19) (tv) := ⟨_, rfl⟩
    rw [← e8] at h1 ⊢
    have z8 := pz e8 z7
    clear t17 t18
    have t19 := pq e8 z7
    clear e8 z7
    refine wpAnyH_ready (rs := [8]) (by kernel_rfl) (by simp) ?_
    refine AllReadyH.cons (o := add3_o8) rfl (fun K hK => ?_) AllReadyH.nil
    have X := exec_alloc (P := Tryd.prog) (a := a8) (o := add3_o8) rfl EA
    rw [if_pos (by rfl), Oper.wp, X]
    show K _ _
    clear X
    refine hK.out _ _ (S2) (fun hHeld => ?_)
    clear hK K
    change wpAnyH _ _ _ _ _ _ _ (a8.put (some 9) (.pointer (some ⟨tb, 0, none⟩))) _
    obtain ⟨a9, e9⟩ : ∃ act, act = a8.put (some 9) (.pointer (some ⟨tb, 0, none⟩)) := ⟨_, rfl⟩
    rw [← e9] at h1 ⊢
    have z9 := pz e9 z8
    replace t19 := pk e9 t19
    have t9 := pq e9 z8
    clear e9 z8
    refine wpAnyH_ready (rs := [9]) (by kernel_rfl) (by simp) ?_
    refine AllReadyH.cons (o := add3_o9) rfl (fun K hK => ?_) AllReadyH.nil
    have X := exec_store (P := Tryd.prog) (a := a9) (o := add3_o9) rfl t9 t19 ES
    rw [if_pos (by rfl), Oper.wp, X]
    show K _ _
    clear X
    refine hK.out _ _ (S3) (fun hHeld => ?_)
    clear hK K
    exact wpAnyH_done (by kernel_rfl) (NoPanic.normal (h1 _ _ (HF) rfl)) _
  · clear h1
    have X := exec_alloc (P := Tryd.prog) (a := a7) (o := add3_o8) rfl EB
    rw [if_pos (by rfl), Oper.wp, X]
    show K _ _
    clear X
    refine hK.out _ _ (S4) (fun hHeld => ?_)
    clear hK K
    change wpAnyH _ _ _ _ _ _ _ (a7.put (some 9) (.pointer (some ⟨tb2, 0, none⟩))) _
    obtain ⟨a11, e11⟩ : ∃ act, act = a7.put (some 9) (.pointer (some ⟨tb2, 0, none⟩)) := ⟨_, rfl⟩
    rw [← e11] at h2 ⊢
    have z11 := pz e11 z7
    replace t17 := pk e11 t17
    replace t18 := pk e11 t18
    have t9 := pq e11 z7
    clear e11 z7
    refine wpAnyH_ready (rs := [7]) (by kernel_rfl) (by simp) ?_
    refine AllReadyH.cons (o := add3_o7) rfl (fun K hK => ?_) AllReadyH.nil
    rw [if_pos (by rfl)]
    unfold add3_o7 at hK ⊢
    go_simp
    refine (CB).mono ?_
    rintro e x12 ⟨tv, wb, rfl, S5, ES, S6, HF⟩
    try go_wp2_with fail
    replace h2 := h2 tv
    refine hK.out _ _ (S5) (fun hHeld => ?_)
    clear hK K
    change wpAnyH _ _ _ _ _ _ _ (a11.put (some 19) (tv)) _
    obtain ⟨a12, e12⟩ : ∃ act, act = a11.put (some 19) (tv) := ⟨_, rfl⟩
    rw [← e12] at h2 ⊢
    have z12 := pz e12 z11
    replace t9 := pk e12 t9
    clear t17 t18
    have t19 := pq e12 z11
    clear e12 z11
    refine wpAnyH_ready (rs := [9]) (by kernel_rfl) (by simp) ?_
    refine AllReadyH.cons (o := add3_o9) rfl (fun K hK => ?_) AllReadyH.nil
    have X := exec_store (P := Tryd.prog) (a := a12) (o := add3_o9) rfl t9 t19 ES
    rw [if_pos (by rfl), Oper.wp, X]
    show K _ _
    clear X
    refine hK.out _ _ (S6) (fun hHeld => ?_)
    clear hK K
    exact wpAnyH_done (by kernel_rfl) (NoPanic.normal (h2 _ _ (HF) rfl)) _
def add4_o0 : Oper := ⟨some 20, .move (.tmp 0), 26, "regs.go:78", #[], none⟩
def add4_o1 : Oper := ⟨some 21, .load 52 (.tmp 5), 52, "regs.go:78", #[], none⟩
def add4_o2 : Oper := ⟨some 22, .move (.tmp 0), 26, "regs.go:78", #[], none⟩
def add4_o3 : Oper := ⟨some 23, .nilCheck (.tmp 22), 0, "regs.go:78", #[⟨2, .data⟩], none⟩
def add4_o4 : Oper := ⟨some 24, .fieldAddr 84 (.tmp 23) 0, 0, "regs.go:78", #[⟨3, .data⟩], none⟩
def add4_o5 : Oper := ⟨some 25, .load 81 (.tmp 24), 81, "regs.go:78", #[⟨4, .data⟩], none⟩
def add4_o6 : Oper := ⟨some 26, .load 52 (.tmp 5), 52, "regs.go:78", #[], none⟩
def add4_o7 : Oper := ⟨some 27, .lookup 81 (.tmp 25) (.tmp 26) false, 60, "regs.go:78", #[⟨5, .data⟩, ⟨6, .data⟩], none⟩
def add4_o8 : Oper := ⟨some 28, .load 101 (.tmp 9), 101, "regs.go:78", #[], none⟩
def add4_o9 : Oper := ⟨some 29, .makeFunc (Fn.func 56) #[] #[.tmp 6], 109, "regs.go:78", #[], none⟩
def add4_o10 : Oper := ⟨some 30, .call { callee := Callee.value (Operand.func 55), args := #[.tmp 27, .tmp 28, .tmp 29], argTypes := #[60, 101, 109] }, 60, "regs.go:78", #[⟨7, .data⟩, ⟨8, .data⟩, ⟨9, .data⟩], none⟩
def add4_o11 : Oper := ⟨some 31, .call { callee := Callee.value (Operand.func 49), args := #[.tmp 20, .tmp 21, .tmp 30], argTypes := #[26, 52, 60] }, 0, "regs.go:78", #[⟨0, .data⟩, ⟨1, .data⟩, ⟨10, .data⟩, ⟨10, .chain⟩], none⟩
def add4_ops : Array Oper := #[add4_o0, add4_o1, add4_o2, add4_o3, add4_o4, add4_o5, add4_o6, add4_o7, add4_o8, add4_o9, add4_o10, add4_o11]
theorem add4 {rb mb pb tb : Nat} {p : PlK} {lv tv : Value} {nb : Nat} (S Fin : World → Prop) (a : Act) (w : World) (Q : Exit → Act → World → Prop) (zz : a.tmps.size = 35)
    (t0 : a.tmps.getD 0 undef = .pointer (some ⟨rb, 0, none⟩))
    (t5 : a.tmps.getD 5 undef = .pointer (some ⟨pb, 0, none⟩))
    (t6 : a.tmps.getD 6 undef = .pointer (some ⟨nb, 0, none⟩))
    (t9 : a.tmps.getD 9 undef = .pointer (some ⟨tb, 0, none⟩))
    (h0 : S w.drew) (LR : ∀ W, S W → (Instr.loadAt 81 (.pointer (some ⟨rb, 0 + 0, none⟩))).run Tryd.prog W = .ok (.map (some mb)) W) (LP : ∀ W, S W → (Instr.loadAt 52 (.pointer (some ⟨pb, 0, none⟩))).run Tryd.prog W = .ok (p.v) W) (LT : ∀ W, S W → (Instr.loadAt 101 (.pointer (some ⟨tb, 0, none⟩))).run Tryd.prog W = .ok (tv) W) (L1 : (Instr.lookup 81 (.map (some mb)) p.v false).run Tryd.prog w.drew = .ok lv w.drew) (CA : Calls Tryd.prog 55 #[lv, tv, .func (.func 56) #[] #[.pointer (some ⟨nb, 0, none⟩)]] w.drew fun e w' => ∃ u, e = .returned u ∧ S w' ∧ Calls Tryd.prog 49 #[.pointer (some ⟨rb, 0, none⟩), p.v, u] w' fun e w4 => e = .returned (.tuple #[]) ∧ S w4 ∧ Fin w4)
    (h : ∀ (u : Value) (a' : Act) (w' : World), Fin w' → a' = ((((((((((((a).put (some 20) (.pointer (some ⟨rb, 0, none⟩))).put (some 21) (p.v)).put (some 22) (.pointer (some ⟨rb, 0, none⟩))).put (some 23) (.pointer (some ⟨rb, 0, none⟩))).put (some 24) (.pointer (some ⟨rb, 0 + 0, none⟩))).put (some 25) (.map (some mb))).put (some 26) (p.v)).put (some 28) (tv)).put (some 29) (.func (.func 56) #[] #[.pointer (some ⟨nb, 0, none⟩)])).put (some 27) (lv)).put (some 30) (u)).put (some 31) (.tuple #[]) → Q .normal a' w') :
    (Code.region 4 add4_ops true).wp Tryd.prog Q a w := by
  refine y0 (fun w' => S w') (h0) (fun hHeld => ?_)
  refine yv 0 rfl rfl (fun w1 hw => exec_move rfl (zi t0 rfl)) hHeld ?_
  refine yv 1 rfl rfl (fun w1 hw => exec_load rfl (zi t5 rfl) (LP _ hw)) hHeld ?_
  refine yv 2 rfl rfl (fun w1 hw => exec_move rfl (zi t0 rfl)) hHeld ?_
  refine yv 3 rfl rfl (fun w1 hw => exec_nilCheck rfl (zg zz rfl)) hHeld ?_
  refine yv 4 rfl rfl (fun w1 hw => exec_fieldAt rfl (zg zz rfl) (fg_84_0 _ _ _)) hHeld ?_
  refine yv 5 rfl rfl (fun w1 hw => exec_load rfl (zg zz rfl) (LR _ hw)) hHeld ?_
  refine yv 6 rfl rfl (fun w1 hw => exec_load rfl (zi t5 rfl) (LP _ hw)) hHeld ?_
  refine yv 8 rfl rfl (fun w1 hw => exec_load rfl (zi t9 rfl) (LT _ hw)) hHeld ?_
  refine yv (v := .func (.func 56) #[] #[.pointer (some ⟨nb, 0, none⟩)]) 9 rfl rfl (fun w1 hw => exec_mkf1 rfl (zi t6 rfl)) hHeld ?_
  refine yr (v := lv) 7 rfl rfl (exec_lookup rfl (zg zz rfl) (zg zz rfl) L1) (h0) (fun hHeld => ?_)
  refine yc 10 rfl rfl (exec_c3 rfl (zg zz rfl) (zg zz rfl) (zg zz rfl)) (CA) (fun e x10 hx => ?_)
  obtain ⟨u, rfl, S1, CL⟩ := hx
  replace h := h u
  refine ⟨_, rfl, S1, fun hHeld => ?_⟩
  refine yc 11 rfl rfl (exec_c3 rfl (zg zz rfl) (zg zz rfl) (zg zz rfl)) (CL) (fun e x11 hx => ?_)
  obtain ⟨rfl, S2, HF⟩ := hx
  refine ⟨_, rfl, S2, fun hHeld => ?_⟩
  exact ye rfl (h _ _ (HF) rfl)
def add5_o0 : Oper := ⟨some 32, .move (.tmp 0), 26, "regs.go:79", #[], none⟩
def add5_o1 : Oper := ⟨some 33, .makeFunc (Fn.func 58) #[] #[.tmp 5, .tmp 9], 106, "regs.go:79", #[], none⟩
def add5_o2 : Oper := ⟨some 34, .call { callee := Callee.value (Operand.func 51), args := #[.tmp 32, .tmp 33], argTypes := #[26, 106] }, 54, "regs.go:79", #[⟨0, .data⟩, ⟨1, .data⟩], none⟩
def add5_o3 : Oper := ⟨some 8, .assign (.tmp 34), 54, "regs.go:79", #[⟨2, .data⟩, ⟨2, .chain⟩, ⟨0, .phase⟩, ⟨1, .phase⟩, ⟨2, .phase⟩], none⟩
def add5_ops : Array Oper := #[add5_o0, add5_o1, add5_o2, add5_o3]
theorem add5 {rb pb tb : Nat} (Fin : Nat → World → Prop) (a : Act) (w : World) (Q : Exit → Act → World → Prop) (zz : a.tmps.size = 35)
    (t0 : a.tmps.getD 0 undef = .pointer (some ⟨rb, 0, none⟩))
    (t5 : a.tmps.getD 5 undef = .pointer (some ⟨pb, 0, none⟩))
    (t9 : a.tmps.getD 9 undef = .pointer (some ⟨tb, 0, none⟩))
    (CS : Calls Tryd.prog 51 #[.pointer (some ⟨rb, 0, none⟩), .func (.func 58) #[] #[.pointer (some ⟨pb, 0, none⟩), .pointer (some ⟨tb, 0, none⟩)]] w fun e w' => ∃ bk, e = .returned (.pointer (some ⟨bk, 0, none⟩)) ∧ Fin bk w')
    (h : ∀ (bk : Nat) (a' : Act) (w' : World), Fin bk w' → a' = ((((a).put (some 32) (.pointer (some ⟨rb, 0, none⟩))).put (some 33) (.func (.func 58) #[] #[.pointer (some ⟨pb, 0, none⟩), .pointer (some ⟨tb, 0, none⟩)])).put (some 34) (.pointer (some ⟨bk, 0, none⟩))).put (some 8) (.pointer (some ⟨bk, 0, none⟩)) → Q .normal a' w') :
    (Code.region 5 add5_ops false).wp Tryd.prog Q a w := by
  refine z0 rfl ?_
  refine zv rfl (exec_move rfl (zi t0 rfl)) ?_
  refine zv (v := .func (.func 58) #[] #[.pointer (some ⟨pb, 0, none⟩), .pointer (some ⟨tb, 0, none⟩)]) rfl (exec_mkf2 rfl (zi t5 rfl) (zi t9 rfl)) ?_
  refine zc rfl (exec_c2 rfl (zg zz rfl) (zg zz rfl)) (CS) (fun e x2 hx => ?_)
  obtain ⟨bk, rfl, HF⟩ := hx
  replace h := h bk
  refine ⟨_, rfl, ?_⟩
  refine zv rfl (exec_assign rfl (zg zz rfl)) ?_
  exact ze rfl (h _ _ (HF) rfl)
def addb0_o0 : Oper := ⟨some 4, .move (.tmp 0), 26, "regs.go:80", #[], none⟩
def addb0_o1 : Oper := ⟨some 5, .load 52 (.tmp 1), 52, "regs.go:80", #[], none⟩
def addb0_o2 : Oper := ⟨some 6, .move (.tmp 0), 26, "regs.go:80", #[], none⟩
def addb0_o3 : Oper := ⟨some 7, .nilCheck (.tmp 6), 0, "regs.go:80", #[⟨2, .data⟩], none⟩
def addb0_o4 : Oper := ⟨some 8, .fieldAddr 84 (.tmp 7) 0, 0, "regs.go:80", #[⟨3, .data⟩], none⟩
def addb0_o5 : Oper := ⟨some 9, .load 81 (.tmp 8), 81, "regs.go:80", #[⟨4, .data⟩], none⟩
def addb0_o6 : Oper := ⟨some 10, .load 52 (.tmp 1), 52, "regs.go:80", #[], none⟩
def addb0_o7 : Oper := ⟨some 11, .lookup 81 (.tmp 9) (.tmp 10) false, 60, "regs.go:80", #[⟨5, .data⟩, ⟨6, .data⟩], none⟩
def addb0_o8 : Oper := ⟨some 12, .load 101 (.tmp 2), 101, "regs.go:80", #[], none⟩
def addb0_o9 : Oper := ⟨some 13, .call { callee := Callee.value (Operand.func 55), args := #[.tmp 11, .tmp 12, Operand.func 59], argTypes := #[60, 101, 109] }, 60, "regs.go:80", #[⟨7, .data⟩, ⟨8, .data⟩], none⟩
def addb0_o10 : Oper := ⟨some 14, .call { callee := Callee.value (Operand.func 49), args := #[.tmp 4, .tmp 5, .tmp 13], argTypes := #[26, 52, 60] }, 0, "regs.go:80", #[⟨0, .data⟩, ⟨1, .data⟩, ⟨9, .data⟩, ⟨9, .chain⟩], none⟩
def addb0_ops : Array Oper := #[addb0_o0, addb0_o1, addb0_o2, addb0_o3, addb0_o4, addb0_o5, addb0_o6, addb0_o7, addb0_o8, addb0_o9, addb0_o10]
theorem addb0 {rb mb pb tb : Nat} {p : PlK} {lv tv : Value} (S Fin : World → Prop) (a : Act) (w : World) (Q : Exit → Act → World → Prop) (zz : a.tmps.size = 15)
    (t0 : a.tmps.getD 0 undef = .pointer (some ⟨rb, 0, none⟩))
    (t1 : a.tmps.getD 1 undef = .pointer (some ⟨pb, 0, none⟩))
    (t2 : a.tmps.getD 2 undef = .pointer (some ⟨tb, 0, none⟩))
    (h0 : S w.drew) (LR : ∀ W, S W → (Instr.loadAt 81 (.pointer (some ⟨rb, 0 + 0, none⟩))).run Tryd.prog W = .ok (.map (some mb)) W) (LP : ∀ W, S W → (Instr.loadAt 52 (.pointer (some ⟨pb, 0, none⟩))).run Tryd.prog W = .ok (p.v) W) (LT : ∀ W, S W → (Instr.loadAt 101 (.pointer (some ⟨tb, 0, none⟩))).run Tryd.prog W = .ok (tv) W) (L1 : (Instr.lookup 81 (.map (some mb)) p.v false).run Tryd.prog w.drew = .ok lv w.drew) (CA : Calls Tryd.prog 55 #[lv, tv, .func (.func 59) #[] #[]] w.drew fun e w' => ∃ u, e = .returned u ∧ S w' ∧ Calls Tryd.prog 49 #[.pointer (some ⟨rb, 0, none⟩), p.v, u] w' fun e w4 => e = .returned (.tuple #[]) ∧ S w4 ∧ Fin w4)
    (h : ∀ (u : Value) (a' : Act) (w' : World), Fin w' → a' = (((((((((((a).put (some 4) (.pointer (some ⟨rb, 0, none⟩))).put (some 5) (p.v)).put (some 6) (.pointer (some ⟨rb, 0, none⟩))).put (some 7) (.pointer (some ⟨rb, 0, none⟩))).put (some 8) (.pointer (some ⟨rb, 0 + 0, none⟩))).put (some 9) (.map (some mb))).put (some 10) (p.v)).put (some 12) (tv)).put (some 11) (lv)).put (some 13) (u)).put (some 14) (.tuple #[]) → Q .normal a' w') :
    (Code.region 0 addb0_ops true).wp Tryd.prog Q a w := by
  refine y0 (fun w' => S w') (h0) (fun hHeld => ?_)
  refine yv 0 rfl rfl (fun w1 hw => exec_move rfl (zi t0 rfl)) hHeld ?_
  refine yv 1 rfl rfl (fun w1 hw => exec_load rfl (zi t1 rfl) (LP _ hw)) hHeld ?_
  refine yv 2 rfl rfl (fun w1 hw => exec_move rfl (zi t0 rfl)) hHeld ?_
  refine yv 3 rfl rfl (fun w1 hw => exec_nilCheck rfl (zg zz rfl)) hHeld ?_
  refine yv 4 rfl rfl (fun w1 hw => exec_fieldAt rfl (zg zz rfl) (fg_84_0 _ _ _)) hHeld ?_
  refine yv 5 rfl rfl (fun w1 hw => exec_load rfl (zg zz rfl) (LR _ hw)) hHeld ?_
  refine yv 6 rfl rfl (fun w1 hw => exec_load rfl (zi t1 rfl) (LP _ hw)) hHeld ?_
  refine yv 8 rfl rfl (fun w1 hw => exec_load rfl (zi t2 rfl) (LT _ hw)) hHeld ?_
  refine yr (v := lv) 7 rfl rfl (exec_lookup rfl (zg zz rfl) (zg zz rfl) L1) (h0) (fun hHeld => ?_)
  refine yc 9 rfl rfl (exec_c3 rfl (zg zz rfl) (zg zz rfl) rfl) (CA) (fun e x9 hx => ?_)
  obtain ⟨u, rfl, S1, CL⟩ := hx
  replace h := h u
  refine ⟨_, rfl, S1, fun hHeld => ?_⟩
  refine yc 10 rfl rfl (exec_c3 rfl (zg zz rfl) (zg zz rfl) (zg zz rfl)) (CL) (fun e x10 hx => ?_)
  obtain ⟨rfl, S2, HF⟩ := hx
  refine ⟨_, rfl, S2, fun hHeld => ?_⟩
  exact ye rfl (h _ _ (HF) rfl)
def putb0_o0 : Oper := ⟨some 5, .move (.tmp 0), 26, "regs.go:55", #[], none⟩
def putb0_o1 : Oper := ⟨some 6, .nilCheck (.tmp 5), 0, "regs.go:55", #[⟨0, .data⟩], none⟩
def putb0_o2 : Oper := ⟨some 7, .fieldAddr 84 (.tmp 6) 0, 0, "regs.go:55", #[⟨1, .data⟩], none⟩
def putb0_o3 : Oper := ⟨some 8, .load 81 (.tmp 7), 81, "regs.go:55", #[⟨2, .data⟩], none⟩
def putb0_o4 : Oper := ⟨some 9, .load 52 (.tmp 1), 52, "regs.go:55", #[], none⟩
def putb0_o5 : Oper := ⟨some 10, .lookup 81 (.tmp 8) (.tmp 9) false, 60, "regs.go:55", #[⟨3, .data⟩, ⟨4, .data⟩], none⟩
def putb0_o6 : Oper := ⟨some 4, .assign (.tmp 10), 60, "regs.go:55", #[⟨5, .data⟩, ⟨0, .phase⟩, ⟨1, .phase⟩, ⟨2, .phase⟩, ⟨3, .phase⟩, ⟨4, .phase⟩, ⟨5, .phase⟩], none⟩
def putb0_ops : Array Oper := #[putb0_o0, putb0_o1, putb0_o2, putb0_o3, putb0_o4, putb0_o5, putb0_o6]
theorem putb0 {rb mb pb : Nat} {p : PlK} {lv : Value} (S : World → Prop) (a : Act) (w : World) (Q : Exit → Act → World → Prop) (zz : a.tmps.size = 21)
    (t0 : a.tmps.getD 0 undef = .pointer (some ⟨rb, 0, none⟩))
    (t1 : a.tmps.getD 1 undef = .pointer (some ⟨pb, 0, none⟩))
    (h0 : S w.drew) (LR : ∀ W, S W ∧ W = w.drew → (Instr.loadAt 81 (.pointer (some ⟨rb, 0 + 0, none⟩))).run Tryd.prog W = .ok (.map (some mb)) W) (LP : ∀ W, S W ∧ W = w.drew → (Instr.loadAt 52 (.pointer (some ⟨pb, 0, none⟩))).run Tryd.prog W = .ok (p.v) W) (LK : ∀ W, S W ∧ W = w.drew → (Instr.lookup 81 (.map (some mb)) p.v false).run Tryd.prog W = .ok lv W)
    (h : ∀ (a' : Act) (w' : World), w' = w.drew → a' = (((((((a).put (some 5) (.pointer (some ⟨rb, 0, none⟩))).put (some 6) (.pointer (some ⟨rb, 0, none⟩))).put (some 7) (.pointer (some ⟨rb, 0 + 0, none⟩))).put (some 8) (.map (some mb))).put (some 9) (p.v)).put (some 10) (lv)).put (some 4) (lv) → Q .normal a' w') :
    (Code.region 0 putb0_ops true).wp Tryd.prog Q a w := by
  refine y0 (fun w' => S w' ∧ w' = w.drew) (⟨h0, rfl⟩) (fun hHeld => ?_)
  refine yv 0 rfl rfl (fun w1 hw => exec_move rfl (zi t0 rfl)) hHeld ?_
  refine yv 1 rfl rfl (fun w1 hw => exec_nilCheck rfl (zg zz rfl)) hHeld ?_
  refine yv 2 rfl rfl (fun w1 hw => exec_fieldAt rfl (zg zz rfl) (fg_84_0 _ _ _)) hHeld ?_
  refine yv 3 rfl rfl (fun w1 hw => exec_load rfl (zg zz rfl) (LR _ hw)) hHeld ?_
  refine yv 4 rfl rfl (fun w1 hw => exec_load rfl (zi t1 rfl) (LP _ hw)) hHeld ?_
  refine yv (v := lv) 5 rfl rfl (fun w1 hw => exec_lookup rfl (zg zz rfl) (zg zz rfl) (LK _ hw)) hHeld ?_
  refine yv 6 rfl rfl (fun w1 hw => exec_assign rfl (zg zz rfl)) hHeld ?_
  exact ye rfl (h _ _ (hHeld.2) rfl)
def putb1_o0 : Oper := ⟨some 11, .move (.tmp 0), 26, "regs.go:56", #[], none⟩
def putb1_o1 : Oper := ⟨some 12, .load 52 (.tmp 1), 52, "regs.go:56", #[], none⟩
def putb1_o2 : Oper := ⟨some 13, .move (.tmp 4), 60, "regs.go:56", #[], none⟩
def putb1_o3 : Oper := ⟨some 14, .move (.tmp 4), 60, "regs.go:56", #[], none⟩
def putb1_o4 : Oper := ⟨some 15, .call { callee := Callee.builtin Builtin.len, args := #[.tmp 14], argTypes := #[60] }, 3, "regs.go:56", #[⟨3, .data⟩], none⟩
def putb1_o5 : Oper := ⟨some 16, .binOp BinOp.sub 3 (.tmp 15) (Operand.const (Value.int IntKind.i64 1)) 3, 3, "regs.go:56", #[⟨4, .data⟩], none⟩
def putb1_o6 : Oper := ⟨some 17, .call { callee := Callee.value (Operand.func 45), args := #[.tmp 13, .tmp 16], argTypes := #[60, 3] }, 60, "regs.go:56", #[⟨2, .data⟩, ⟨5, .data⟩], none⟩
def putb1_o7 : Oper := ⟨some 18, .load 101 (.tmp 2), 101, "regs.go:56", #[], none⟩
def putb1_o8 : Oper := ⟨some 19, .call { callee := Callee.value (Operand.func 53), args := #[.tmp 17, .tmp 18], argTypes := #[60, 101] }, 60, "regs.go:56", #[⟨6, .data⟩, ⟨7, .data⟩, ⟨6, .chain⟩], none⟩
def putb1_o9 : Oper := ⟨some 20, .call { callee := Callee.value (Operand.func 49), args := #[.tmp 11, .tmp 12, .tmp 19], argTypes := #[26, 52, 60] }, 0, "regs.go:56", #[⟨0, .data⟩, ⟨1, .data⟩, ⟨8, .data⟩, ⟨8, .chain⟩], none⟩
def putb1_ops : Array Oper := #[putb1_o0, putb1_o1, putb1_o2, putb1_o3, putb1_o4, putb1_o5, putb1_o6, putb1_o7, putb1_o8, putb1_o9]
theorem putb1 {rb mb pb tb n lc d : Nat} {la : Option Addr} {p : PlK} {tv : Value} (S Fin : World → Prop) (a : Act) (w : World) (Q : Exit → Act → World → Prop) (zz : a.tmps.size = 21)
    (t0 : a.tmps.getD 0 undef = .pointer (some ⟨rb, 0, none⟩))
    (t1 : a.tmps.getD 1 undef = .pointer (some ⟨pb, 0, none⟩))
    (t2 : a.tmps.getD 2 undef = .pointer (some ⟨tb, 0, none⟩))
    (t4 : a.tmps.getD 4 undef = .slice la n lc)
    (hd : d + 1 = n) (hs : n ≤ 9223372036854775800) (h0 : S w.drew) (LP : ∀ W, S W → (Instr.loadAt 52 (.pointer (some ⟨pb, 0, none⟩))).run Tryd.prog W = .ok (p.v) W) (LT : ∀ W, S W → (Instr.loadAt 101 (.pointer (some ⟨tb, 0, none⟩))).run Tryd.prog W = .ok (tv) W) (CC : Calls Tryd.prog 45 #[.slice la n lc, .int .i64 (d : Int)] w.drew fun e w' => ∃ cv, e = .returned cv ∧ S w' ∧ Calls Tryd.prog 53 #[cv, tv] w' fun e w' => ∃ u, e = .returned u ∧ S w' ∧ Calls Tryd.prog 49 #[.pointer (some ⟨rb, 0, none⟩), p.v, u] w' fun e w4 => e = .returned (.tuple #[]) ∧ S w4 ∧ Fin w4)
    (h : ∀ (cv u : Value) (a' : Act) (w' : World), Fin w' → a' = ((((((((((a).put (some 11) (.pointer (some ⟨rb, 0, none⟩))).put (some 12) (p.v)).put (some 13) (.slice la n lc)).put (some 14) (.slice la n lc)).put (some 15) (.int .i64 (n : Int))).put (some 16) (.int .i64 (d : Int))).put (some 18) (tv)).put (some 17) (cv)).put (some 19) (u)).put (some 20) (.tuple #[]) → Q .normal a' w') :
    (Code.region 1 putb1_ops true).wp Tryd.prog Q a w := by
  refine y0 (fun w' => S w') (h0) (fun hHeld => ?_)
  refine yv 0 rfl rfl (fun w1 hw => exec_move rfl (zi t0 rfl)) hHeld ?_
  refine yv 1 rfl rfl (fun w1 hw => exec_load rfl (zi t1 rfl) (LP _ hw)) hHeld ?_
  refine yv 2 rfl rfl (fun w1 hw => exec_move rfl (zi t4 rfl)) hHeld ?_
  refine yv 3 rfl rfl (fun w1 hw => exec_move rfl (zi t4 rfl)) hHeld ?_
  refine yv 4 rfl rfl (fun w1 hw => exec_len rfl (zg zz rfl) (len_en _ _ _ _ _)) hHeld ?_
  refine yv (v := .int .i64 (d : Int)) 5 rfl rfl (fun w1 hw => exec_sub1 rfl (zg zz rfl) rfl hd hs) hHeld ?_
  refine yv 7 rfl rfl (fun w1 hw => exec_load rfl (zi t2 rfl) (LT _ hw)) hHeld ?_
  refine yc 6 rfl rfl (exec_c2 rfl (zg zz rfl) (zg zz rfl)) (CC) (fun e x6 hx => ?_)
  obtain ⟨cv, rfl, S0, CA⟩ := hx
  replace h := h cv
  refine ⟨_, rfl, S0, fun hHeld => ?_⟩
  refine yc 8 rfl rfl (exec_c2 rfl (zg zz rfl) (zg zz rfl)) (CA) (fun e x8 hx => ?_)
  obtain ⟨u, rfl, S1, CL⟩ := hx
  replace h := h u
  refine ⟨_, rfl, S1, fun hHeld => ?_⟩
  refine yc 9 rfl rfl (exec_c3 rfl (zg zz rfl) (zg zz rfl) (zg zz rfl)) (CL) (fun e x9 hx => ?_)
  obtain ⟨rfl, S2, HF⟩ := hx
  refine ⟨_, rfl, S2, fun hHeld => ?_⟩
  exact ye rfl (h _ _ (HF) rfl)
def Rs.all (s : Rs) (j : Nat) : Prop := j ∈ s.bl ∨ ∃ q ∈ s.P, q.2.1.ownBlock = some j
theorem RgM.other {w : World} {base : Nat} {s : Rs} (h : RgM w base s) {j : Nat} {c : Array Value} {t : TypeId} {fr : Nat × Nat} (hj : w.heap[j]? = some (.cells c t fr)) (h1 : t ≠ 84) (h2 : t ≠ 63) : ¬ s.all j := by
  rintro (hm | ⟨q, hq, e⟩)
  · rcases List.mem_cons.1 hm with rfl | hm
    · have := h.cell; rw [hj] at this; injection this with this; injection this with _ e _; exact h1 e
    rcases List.mem_cons.1 hm with rfl | hm
    · obtain ⟨⟨es, cl, q1, _⟩, _⟩ := h.pl; rw [hj] at q1; cases q1
    rcases List.mem_cons.1 hm with rfl | hm
    · obtain ⟨⟨es, cl, q1, _⟩, _⟩ := h.kl; rw [hj] at q1; cases q1
    · obtain ⟨r, hr, rfl⟩ := List.mem_map.1 hm
      obtain ⟨⟨es, cl, q1, _⟩, _⟩ := h.kr r hr
      rw [hj] at q1; cases q1
  · obtain ⟨_, cc, hc⟩ := (h.en q hq).1.cells e
    rw [hj] at hc; injection hc with hc; injection hc with _ e2 _; exact h2 e2
theorem RgM.allLt {w : World} {base : Nat} {s : Rs} (h : RgM w base s) {j : Nat} (hj : s.all j) : j < w.heap.size := by
  rcases hj with hm | ⟨q, hq, e⟩
  · exact h.lt j hm
  · exact (h.en q hq).1.lt e
theorem RgM.allLo {w : World} {base : Nat} {s : Rs} (h : RgM w base s) {j : Nat} (hj : s.all j) : base ≤ j := by
  rcases hj with hm | ⟨q, hq, e⟩
  · exact h.lo j hm
  · exact ((h.en q hq).1.cells e).1
theorem RgM.setLast {w w' : World} {base : Nat} {s : Rs} (h : RgM w base s) {la : Option Addr} (hc : w'.heap[s.r]? = some (.cells #[.map (some s.bp), .map (some s.bk), .pointer la] 84 (0, 0))) (hw : ∀ j, j < w.heap.size → j ≠ s.r → w'.heap[j]? = w.heap[j]?) : RgM w' base { s with last := la } := by
  have old : ∀ j ∈ s.bl, j ≠ s.r → w'.heap[j]? = w.heap[j]? := fun j hj hn => hw j (h.lt j hj) hn
  refine ⟨hc, h.pl.below (old _ (by simp [Rs.bl]) (Ne.symm h.tbl.1)), h.kl.below (old _ (by simp [Rs.bl]) (Ne.symm h.tbl.2.1)), fun r hr => (h.kr r hr).below (old _ (Rs.row_bl hr) (h.bne hr).1), fun q hq => ⟨(h.en q hq).1.keep (fun k hk => hw k ((h.en q hq).1.lt hk) (fun e => h.apart hq hk (by rw [e]; simp [Rs.bl]))), (h.en q hq).2⟩, h.dis, h.ead, h.lo⟩
theorem ld_bp {w : World} {b : Nat} {p : Option Addr} (h : w.cell? ⟨b, 2, none⟩ = some (.pointer p)) : (Instr.loadAt 54 (.pointer (some ⟨b, 0 + 2, none⟩))).run Tryd.prog w = .ok (.pointer p) w := by go_simp
theorem step_any {w : World} {base : Nat} {s : Rs} (h : RgM w base s) (F : Nat) (c : Array Value) :
    Calls Tryd.prog 51 #[.pointer (some ⟨s.r, 0, none⟩), .func (.func F) #[] c] w fun e w' => e = .returned (.pointer (some ⟨w.heap.size, 0, none⟩)) ∧ RgM w' base { s with last := some ⟨w.heap.size, 0, none⟩ } ∧ w'.heap[w.heap.size]? = some (.cells #[.pointer s.last, .func (.func F) #[] c] 111 (0, 0)) ∧ Tch (fun j => j = s.r) w w' := by
  have lr : s.r < w.heap.size := h.lt s.r (by simp [Rs.bl])
  have L0 := hidMk (ld_bp h.c2)
  have b1 : Below w.heap.size w (w.alloc (.cells #[.pointer s.last, .func (.func F) #[] c] 111)) := (Below.refl _ _).alloc (Nat.le_refl _) _
  have n1 : (w.alloc (.cells #[.pointer s.last, .func (.func F) #[] c] 111)).heap[w.heap.size]? = some (.cells #[.pointer s.last, .func (.func F) #[] c] 111 (0, 0)) := heap_alloc_new _ _
  have h1 := h.below b1
  obtain ⟨w1, hw1⟩ : ∃ w1, w.alloc (.cells #[.pointer s.last, .func (.func F) #[] c] 111) = w1 := ⟨_, rfl⟩
  rw [hw1] at b1 n1 h1
  have c2 := h1.c2
  have f2 := frozen_of_row w1 s.r 2 _ _ h1.cell
  have ES : (Instr.storeAt 54 (.pointer (some ⟨s.r, 0 + 2, none⟩)) (.pointer (some ⟨w.heap.size, 0, none⟩))).run Tryd.prog w1 = .ok () (w1.setCell ⟨s.r, 2, none⟩ (.pointer (some ⟨w.heap.size, 0, none⟩))) := by go_simp
  have o2 : ∀ j, j ≠ s.r → (w1.setCell ⟨s.r, 2, none⟩ (.pointer (some ⟨w.heap.size, 0, none⟩))).heap[j]? = w1.heap[j]? := fun j hj => Go.heap_setCell_other _ _ _ _ hj
  have hc := Go.heap_setCell_same w1 s.r 2 _ 84 (.pointer (some ⟨w.heap.size, 0, none⟩)) h1.cell
  have z2 : (w1.setCell ⟨s.r, 2, none⟩ (.pointer (some ⟨w.heap.size, 0, none⟩))).heap.size = w1.heap.size := by simp [World.setCell]
  have t2 : Tch (fun j => j = s.r) w1 (w1.setCell ⟨s.r, 2, none⟩ (.pointer (some ⟨w.heap.size, 0, none⟩))) := ⟨rfl, rfl, rfl, by omega, fun j _ hj => o2 j hj⟩
  obtain ⟨w2, hw2⟩ : ∃ w2, w1.setCell ⟨s.r, 2, none⟩ (.pointer (some ⟨w.heap.size, 0, none⟩)) = w2 := ⟨_, rfl⟩
  rw [hw2] at ES o2 hc z2 t2
  have h2 : RgM w2 base { s with last := some ⟨w.heap.size, 0, none⟩ } := h1.setLast hc (fun j _ hj => o2 j hj)
  have c22 := h2.c2
  have E2 := hidMk (ld_bp c22)
  have HES := hidMk ES
  have FN : Hid (RgM w2 base { s with last := some ⟨w.heap.size, 0, none⟩ } ∧ w2.heap[w.heap.size]? = some (.cells #[.pointer s.last, .func (.func F) #[] c] 111 (0, 0)) ∧ Tch (fun j => j = s.r) w w2) := ⟨h2, (o2 _ (by omega)).trans n1, (tch_of b1 _).trans' t2 (fun j _ q => q)⟩
  clear h h1 h2 c2 f2 ES o2 hc z2 t2 n1 b1 hw2 c22
  go_enter Tryd.func51, Tryd.ntmps51
  go_upto_region 1 with fail
  refine step1 (rb := s.r) (F := F) (c := c) (la := s.last) (w2 := w2) _ w _ rfl rfl rfl L0.out (by rw [hw1]; exact HES.out) ?_
  intro a' w' hw' ha
  subst ha
  obtain rfl : w2 = w' := hw'.symm
  simp only [Act.put, List.setIfInBounds_toArray, List.set_cons_zero, List.set_cons_succ]
  clear HES L0 hw1
  go_wp2_with (first
    | (refine wpList_val rfl (exec_load (t := 54) (u := .pointer (some ⟨s.r, 0 + 2, none⟩)) (v := .pointer (some ⟨w.heap.size, 0, none⟩)) rfl rfl E2.out) ?_)
    | (refine wpList_val rfl (exec_load (t := 54) (u := .pointer (some ⟨s.r, 2, none⟩)) (v := .pointer (some ⟨w.heap.size, 0, none⟩)) rfl rfl E2.out) ?_)
    | fail)
  go_ret
  exact ⟨rfl, FN.out⟩
def Seen (w : World) (fv : Value) (sn : IdK → Bool) : Prop := (fv = .nilFunc ∧ ∀ k, sn k = false) ∨ ∃ F caps, fv = .func (.func F) #[] caps ∧ Tells w F caps sn
theorem Seen.below {w w' : World} {fv : Value} {sn : IdK → Bool} (h : Seen w fv sn) (b : Below w.heap.size w w') : Seen w' fv sn := by
  rcases h with h | ⟨F, c, e, t⟩
  · exact .inl h
  · exact .inr ⟨F, c, e, t.below b⟩
theorem had_none {sn : EnV → Bool} (h : ∀ x, sn x = false) : ∀ (L : List EnV) (i : Nat), Rg.hadI sn i L = []
  | [], _ => rfl
  | x :: L, i => by
    unfold Rg.hadI
    rw [if_neg (by rw [h x]; decide)]
    exact had_none h L (i + 1)
theorem had_seen {w : World} {base : Nat} {lv : Value} {L : List EnV} (hL : RN.Lo w base lv L) (ok : ∀ x ∈ L, x.ok) (hn : L.length ≤ 2500000000000) {fv : Value} {sn : IdK → Bool} (hs : Seen w fv sn) :
    Calls Tryd.prog 48 #[lv, fv] w fun e w' => ∃ tv, e = .returned tv ∧ RD.Own w' w.heap.size tv (Rg.hadI (fun x => sn x.id) 0 L) ∧ Below w.heap.size w w' := by
  rcases hs with ⟨rfl, h⟩ | ⟨F, caps, rfl, T⟩
  · refine (had_nil lv w).mono ?_
    rintro e w' ⟨rfl, rfl⟩
    refine ⟨_, rfl, ?_, Below.refl _ _⟩
    rw [had_none (fun x => h x.id)]
    exact RowT.own_nil RD w' w'.heap.size
  · obtain ⟨a, c, rfl, hat, _⟩ := hL.open RN_is ok
    exact had_any hat ok hn T
theorem without_all {w : World} {base : Nat} {lv : Value} {L : List EnV} {sn : EnV → Bool} (hL : RN.Lo w base lv L) (ok : ∀ x ∈ L, x.ok) (hn : L.length ≤ 2500000000000) {tv : Value} {b2 : Nat} (hT : RD.Lo w b2 tv (Rg.hadI sn 0 L)) (hb : base ≤ w.heap.size) :
    Calls Tryd.prog 50 #[lv, tv] w fun e w' => ∃ v, e = .returned v ∧ RN.Lo w' base v (Rg.res sn L) ∧ Below w.heap.size w w' ∧ (v = lv ∧ Rg.res sn L = L ∨ ∀ k, v.ownBlock = some k → w.heap.size ≤ k) := by
  have okT : ∀ t ∈ Rg.hadI sn 0 L, RD.ok t := fun t ht => by
    obtain ⟨h1, h2, _⟩ := Rg.hadI_mem sn ht
    have hm := List.mem_of_getElem? h2
    have hl := (List.getElem?_eq_some_iff.1 h2).1
    exact ⟨ok _ hm, by omega⟩
  obtain ⟨a, c, rfl, hat, hc, hcm, _⟩ := hL.open RN_is ok
  obtain ⟨ta, tc, rfl, tat, _⟩ := hT.open RD_is okT
  by_cases hne : Rg.hadI sn 0 L = []
  · have e := Rg.res_nil sn hne
    rw [hne]
    refine (without_nil a ta L.length c tc w).mono ?_
    rintro e' w' ⟨rfl, rfl⟩
    exact ⟨_, rfl, by rw [e]; exact hL, Below.refl _ _, .inl ⟨rfl, e⟩⟩
  · refine (without_any hat hc ok hn tat okT rfl hne).mono ?_
    rintro e' w' ⟨v, rfl, o, b⟩
    exact ⟨v, rfl, (o.lo).mono hb, b, .inr (fun k hk => (o.cells hk).1)⟩
theorem with_all {w : World} {base : Nat} {lv : Value} {L : List EnV} {sn : EnV → Bool} (hL : RN.Lo w base lv (Rg.res sn L)) (ok : ∀ x ∈ L, x.ok) (hn : L.length ≤ 2500000000000) {tv : Value} {b2 : Nat} (hT : RD.Lo w b2 tv (Rg.hadI sn 0 L)) (hb : base ≤ w.heap.size) :
    Calls Tryd.prog 53 #[lv, tv] w fun e w' => ∃ v, e = .returned v ∧ RN.Lo w' base v L ∧ Below w.heap.size w w' ∧ (v = lv ∨ ∀ k, v.ownBlock = some k → w.heap.size ≤ k) := by
  have okT : ∀ t ∈ Rg.hadI sn 0 L, RD.ok t := fun t ht => by
    obtain ⟨h1, h2, _⟩ := Rg.hadI_mem sn ht
    have hm := List.mem_of_getElem? h2
    have hl := (List.getElem?_eq_some_iff.1 h2).1
    exact ⟨ok _ hm, by omega⟩
  have okR : ∀ x ∈ Rg.res sn L, x.ok := fun x hx => ok x (List.mem_filter.1 hx).1
  obtain ⟨a, c, rfl, hat, hc, hcm, _⟩ := hL.open RN_is okR
  obtain ⟨ta, tc, rfl, tat, _⟩ := hT.open RD_is okT
  by_cases hne : Rg.hadI sn 0 L = []
  · have e := Rg.res_nil sn hne
    rw [hne]
    refine (with_nil a ta _ c tc w).mono ?_
    rintro e' w' ⟨rfl, rfl⟩
    refine ⟨_, rfl, ?_, Below.refl _ _, .inl rfl⟩
    have := hL
    rw [e] at this
    rw [e]
    exact this
  · refine (with_any hat hc okR tat okT (Rg.wi_ok_all sn L) hne (by have := Rg.res_len sn L 0; omega)).mono ?_
    rintro e' w' ⟨v, rfl, o, b⟩
    rw [Rg.wi_all] at o
    exact ⟨v, rfl, (o.lo).mono hb, b, .inr (fun k hk => (o.cells hk).1)⟩
theorem changed_all {w : World} {base : Nat} {lv : Value} {L M : List EnV} {sn : EnV → Bool} (hL : RN.Lo w base lv M) (ok : ∀ x ∈ M, x.ok) (okL : ∀ x ∈ L, x.ok) (hln : M.length = L.length) (hn : L.length ≤ 2500000000000) {tv : Value} {b2 : Nat} (hT : RD.Lo w b2 tv (Rg.hadI sn 0 L)) (hb : base ≤ w.heap.size) {F : Nat} {caps : Array Value} {gv : VaV → VaV} (hG : Turns w F caps gv) :
    Calls Tryd.prog 55 #[lv, tv, .func (.func F) #[] caps] w fun e w' => ∃ v, e = .returned v ∧ RN.Lo w' base v (Rg.ch (chg gv) M (Rg.hadI sn 0 L)) ∧ Below w.heap.size w w' ∧ (v = lv ∨ ∀ k, v.ownBlock = some k → w.heap.size ≤ k) := by
  have okT : ∀ t ∈ Rg.hadI sn 0 L, RD.ok t := fun t ht => by
    obtain ⟨h1, h2, _⟩ := Rg.hadI_mem sn ht
    have hm := List.mem_of_getElem? h2
    have hl := (List.getElem?_eq_some_iff.1 h2).1
    exact ⟨okL _ hm, by omega⟩
  have hlt : ∀ t ∈ Rg.hadI sn 0 L, t.1 < M.length := fun t ht => by
    obtain ⟨h1, h2, _⟩ := Rg.hadI_mem sn ht
    have hl := (List.getElem?_eq_some_iff.1 h2).1
    omega
  obtain ⟨ta, tc, rfl, tat, _⟩ := hT.open RD_is okT
  by_cases hne : Rg.hadI sn 0 L = []
  · obtain ⟨a, c, rfl, hat, hc, hcm, _⟩ := hL.open RN_is ok
    rw [hne]
    refine (changed_nil a ta _ c tc _ w).mono ?_
    rintro e' w' ⟨rfl, rfl⟩
    exact ⟨_, rfl, hL, Below.refl _ _, .inl rfl⟩
  · refine (changed_any hL ok (by omega) tat okT hlt (by have := Rg.hadI_len sn L 0; omega) hne hG).mono ?_
    rintro e' w' ⟨v, rfl, o, b⟩
    exact ⟨v, rfl, (o.lo).mono hb, b, .inr (fun k hk => (o.cells hk).1)⟩
section
variable {κ : Type} {R : RowT κ}
theorem RowT.lo_app_pre (I : R.Is) (w : World) (base : Nat) (v : Value) (L : List κ) (okL : ∀ h ∈ L, R.ok h) (ad : Addr) (M : List κ) (hM : 0 < M.length) (c : Nat) (hown : R.Lo w base v L) (hb : R.At w (some ad) M) (ok : ∀ h ∈ M, R.ok h) (h63 : L.length + M.length ≤ maxLen) (h : ((L.length + M.length) + (L.length + M.length) / 4 + 192) * R.bytes ≤ 281474976710656) (hbase : base ≤ w.heap.size) {v' : Value} {w' : World} (hrun : (Builtin.append_ #[R.t, R.t] R.t #[v, .slice (some ad) M.length c]).run Tryd.prog w = .ok v' w') :
    ∀ (b : Nat) (cu : Array Value), w.heap[b]? = some (.cells cu R.e (0, 0)) → ∃ cu', w'.heap[b]? = some (.cells cu' R.e (0, 0)) ∧ ∀ m, (∀ n cp, v = .slice (some ⟨b, 0, none⟩) n cp → n < cp → m ≤ R.k * n) → cu'.toList.take m = cu.toList.take m := by
  intro b cu hcu
  have hl := (Array.getElem?_eq_some_iff.1 hcu).1
  obtain ⟨v2, w2, e2, _, g2, _, _⟩ := RowT.lo_app I w base v L okL (some ad) M c hown hb ok h63 h hbase
  rw [hrun] at e2
  injection e2 with e3 e4
  subst e3 e4
  by_cases hv : v.ownBlock = some b
  · rcases hown with ⟨rfl, rfl⟩ | ⟨g, cap, cur, rfl, hbg, hg, hnc, hcm, hcs, htake⟩
    · cases hv
    · simp [Value.ownBlock] at hv
      subst hv
      rw [hcu] at hg
      injection hg with hg
      injection hg with hg _ _
      subst hg
      obtain ⟨i, hi, hz, hs, hby⟩ := info_parts I.info
      have lL := RowT.flat_len I okL
      have lM := RowT.flat_len I ok
      have hnews : ∀ j u, (R.flat M)[j]? = some u → w.cell? (ad.add j) = some u := fun j u hj => by
        rcases hb with rfl | ⟨b, off, e, _, hc⟩
        · simp [RowT.flat] at hj
        · cases e
          obtain ⟨k, x, r, rfl, hx, hr⟩ := RowT.flat_inv I ok hj
          rw [Addr.add_mid, ← Nat.add_assoc]
          exact hc k x hx r u hr
      by_cases hroom : L.length + M.length ≤ cap
      · have hfit : L.length * i.size + (R.flat M).length ≤ cu.size := by
          rw [lM, hs, Nat.mul_comm R.k, ← Nat.add_mul]
          exact Nat.le_trans (Nat.mul_le_mul_right _ hroom) hcs
        have hr := run_append_room (P := Tryd.prog) w R.t R.t R.e i I.und hi g L.length cap cu hcu ad M.length c (R.flat M) (by rw [lM, hs, Nat.mul_comm]) hnews (RowT.flat_one I M) hroom hfit
        rw [hrun] at hr
        injection hr with _ hw
        subst hw
        refine ⟨_, setRow_heap w g cu _ R.e _ hcu, fun m hm => ?_⟩
        have hm2 := hm L.length cap rfl (by omega)
        have hle : R.k * L.length ≤ cu.size := by rw [hs, Nat.mul_comm] at hfit; omega
        rw [List.toList_toArray, hs, Nat.mul_comm L.length, List.append_assoc, List.take_append_of_le_length (by rw [List.length_take]; exact Nat.le_min.2 ⟨hm2, Nat.le_trans hm2 (by simpa using hle)⟩), List.take_take, Nat.min_eq_left hm2]
      · have zc : (Value.agg (R.c R.z).toArray).cells.size = R.k := by
          show (R.c R.z).toArray.size = R.k
          rw [List.size_toArray, I.len _ I.zok]
        have holds : ∀ j u, (R.flat L)[j]? = some u → w.cell? ((⟨g, 0, none⟩ : Addr).add j) = some u := fun j u hj => by
          rw [Addr.add_mid, Nat.zero_add, cell_of_row w g _ cu R.e (0, 0) hcu]
          rw [← htake, List.getElem?_take] at hj
          split at hj
          · simpa using hj
          · cases hj
        have hr := run_append_grow (P := Tryd.prog) w R.t R.t R.e i _ I.und hi hz ⟨g, 0, none⟩ L.length cap (R.flat L) (by rw [lL, hs, Nat.mul_comm]) holds ad M.length c (R.flat M) (by rw [lM, hs, Nat.mul_comm]) hnews (by omega) (by simp only [maxLen] at h63; omega) (by rw [hby]; exact growslice_fits_wide (by omega) h)
        rw [hrun] at hr
        injection hr with _ hw
        subst hw
        exact ⟨cu, (heap_alloc_old w.drew _ hl).trans hcu, fun _ _ => rfl⟩
  · exact ⟨cu, (g2.block b hl (fun e => hv e.symm)).trans hcu, fun _ _ => rfl⟩
theorem RowT.lo_app_win (I : R.Is) (w : World) (base : Nat) (v : Value) (L : List κ) (okL : ∀ h ∈ L, R.ok h) (ad : Addr) (M : List κ) (hM : 0 < M.length) (c : Nat) (hown : R.Lo w base v L) (hb : R.At w (some ad) M) (ok : ∀ h ∈ M, R.ok h) (h63 : L.length + M.length ≤ maxLen) (h : ((L.length + M.length) + (L.length + M.length) / 4 + 192) * R.bytes ≤ 281474976710656) (hbase : base ≤ w.heap.size) {v' : Value} {w' : World} (hrun : (Builtin.append_ #[R.t, R.t] R.t #[v, .slice (some ad) M.length c]).run Tryd.prog w = .ok v' w') :
    (∃ a n cp, v = .slice a n cp ∧ v' = .slice a (n + M.length) cp) ∨ v'.ownBlock = some w.heap.size := by
  obtain ⟨v2, w2, e2, o2, g2, q2, _⟩ := RowT.lo_app I w base v L okL (some ad) M c hown hb ok h63 h hbase
  rw [hrun] at e2
  injection e2 with e3 e4
  subst e3 e4
  rcases hown with ⟨rfl, rfl⟩ | ⟨g, cap, cur, rfl, hbg, hg, hnc, hcm, hcs, htake⟩
  · rcases q2 with q | q
    · rcases o2 with ⟨_, e⟩ | ⟨g, cap, cur, e, _⟩
      · rw [List.nil_append] at e
        rw [e] at hM
        simp at hM
      · rw [e] at q; cases q
    · exact .inr q
  · obtain ⟨i, hi, hz, hs, hby⟩ := info_parts I.info
    have lL := RowT.flat_len I okL
    have lM := RowT.flat_len I ok
    have hnews : ∀ j u, (R.flat M)[j]? = some u → w.cell? (ad.add j) = some u := fun j u hj => by
      rcases hb with rfl | ⟨b, off, e, _, hc⟩
      · simp [RowT.flat] at hj
      · cases e
        obtain ⟨k, x, r, rfl, hx, hr⟩ := RowT.flat_inv I ok hj
        rw [Addr.add_mid, ← Nat.add_assoc]
        exact hc k x hx r u hr
    by_cases hroom : L.length + M.length ≤ cap
    · have hfit : L.length * i.size + (R.flat M).length ≤ cur.size := by
        rw [lM, hs, Nat.mul_comm R.k, ← Nat.add_mul]
        exact Nat.le_trans (Nat.mul_le_mul_right _ hroom) hcs
      have hr := run_append_room (P := Tryd.prog) w R.t R.t R.e i I.und hi g L.length cap cur hg ad M.length c (R.flat M) (by rw [lM, hs, Nat.mul_comm]) hnews (RowT.flat_one I M) hroom hfit
      rw [hrun] at hr
      injection hr with hv _
      exact .inl ⟨_, _, _, rfl, hv⟩
    · have holds : ∀ j u, (R.flat L)[j]? = some u → w.cell? ((⟨g, 0, none⟩ : Addr).add j) = some u := fun j u hj => by
        rw [Addr.add_mid, Nat.zero_add, cell_of_row w g _ cur R.e (0, 0) hg]
        rw [← htake, List.getElem?_take] at hj
        split at hj
        · simpa using hj
        · cases hj
      have hr := run_append_grow (P := Tryd.prog) w R.t R.t R.e i _ I.und hi hz ⟨g, 0, none⟩ L.length cap (R.flat L) (by rw [lL, hs, Nat.mul_comm]) holds ad M.length c (R.flat M) (by rw [lM, hs, Nat.mul_comm]) hnews (by omega) (by simp only [maxLen] at h63; omega) (by rw [hby]; exact growslice_fits_wide (by omega) h)
      rw [hrun] at hr
      injection hr with hv _
      rw [hv]
      exact .inr rfl
end
structure Rec where
  bk : Nat
  F : Nat
  pb : Nat
  tb : Nat
  p : PlK
  tv : Value
  T : List (Nat × EnV)
  bef : List EnV
  aft : List EnV
structure Rec.at (w : World) (r : Rec) (last : Option Addr) : Prop where
  b : w.heap[r.bk]? = some (.cells #[.pointer last, .func (.func r.F) #[] #[.pointer (some ⟨r.pb, 0, none⟩), .pointer (some ⟨r.tb, 0, none⟩)]] 111 (0, 0))
  p : w.heap[r.pb]? = some (.cells r.p.c.toArray 52 (0, 0))
  t : w.heap[r.tb]? = some (.cells #[r.tv] 101 (0, 0))
  l : RD.Lo w 0 r.tv r.T
  ok : r.p.ok
  bok : ∀ x ∈ r.bef, x.ok
  bn : r.bef.length ≤ 2500000000000
def chs (sn : EnV → Bool) (gv : VaV → VaV) (L : List EnV) : List EnV := L.map (fun x => if sn x then chg gv x x else x)
def Rec.did (r : Rec) : Prop := ∃ sn : EnV → Bool, r.T = Rg.hadI sn 0 r.bef ∧ ((r.F = 52 ∧ ∃ e, r.aft = Rg.res sn r.bef ++ [e]) ∨ (r.F = 54 ∧ r.aft = Rg.res sn r.bef) ∨ (r.F = 58 ∧ ∃ gv, r.aft = chs sn gv r.bef))
def ptrH : List Rec → Option Addr
  | [] => none
  | r :: _ => some ⟨r.bk, 0, none⟩
def Hist (w : World) : List Rec → Prop
  | [] => True
  | r :: H => r.at w (ptrH H) ∧ Hist w H
abbrev PF := PlK → List EnV
def updF (f : PF) (p : PlK) (L : List EnV) : PF := fun q => if q = p then L else f q
def HOk : List Rec → PF → Prop
  | [], f => ∀ p, f p = []
  | r :: H, f => f r.p = r.aft ∧ r.did ∧ HOk H (updF f r.p r.bef)
theorem HOk.congr : ∀ {H : List Rec} {f g : PF}, HOk H f → (∀ p, g p = f p) → HOk H g
  | [], f, g, h, e => fun p => (e p).trans (h p)
  | r :: H, f, g, h, e => ⟨(e r.p).trans h.1, h.2.1, HOk.congr h.2.2 (fun q => by unfold updF; rw [e q])⟩
structure RgAt (w : World) (base : Nat) (s : Rs) (H : List Rec) : Prop where
  mem : RgM w base s
  key : KeysOk s.K s.P
  last : s.last = ptrH H
  hist : Hist w H
  hok : HOk H (liOf s.P)
theorem Rec.at.keep {w w' : World} {r : Rec} {la : Option Addr} (h : r.at w la) {O : Nat → Prop} (t : Tch O w w') (hO : ∀ j c ty fr, w.heap[j]? = some (.cells c ty fr) → ty ≠ 84 → ty ≠ 63 → ¬ O j) : r.at w' la := by
  have go : ∀ {j : Nat} {c : Array Value} {ty : TypeId} {fr : Nat × Nat}, w.heap[j]? = some (.cells c ty fr) → ty ≠ 84 → ty ≠ 63 → w'.heap[j]? = some (.cells c ty fr) := fun h1 h2 h3 => (t.block _ (Array.getElem?_eq_some_iff.1 h1).1 (hO _ _ _ _ h1 h2 h3)).trans h1
  refine ⟨go h.b (by decide) (by decide), go h.p (by decide) (by decide), go h.t (by decide) (by decide), h.l.keep (fun k hk => ?_), h.ok, h.bok, h.bn⟩
  obtain ⟨_, c, hc⟩ := h.l.cells hk
  exact (go hc (by decide) (by decide)).trans hc.symm
theorem Hist.keep {w w' : World} {O : Nat → Prop} (t : Tch O w w') (hO : ∀ j c ty fr, w.heap[j]? = some (.cells c ty fr) → ty ≠ 84 → ty ≠ 63 → ¬ O j) : ∀ {H : List Rec}, Hist w H → Hist w' H
  | [], _ => trivial
  | r :: H, h => ⟨h.1.keep t hO, Hist.keep t hO h.2⟩
theorem RgAt.keep {w w' : World} {base : Nat} {s : Rs} {H : List Rec} (h : RgAt w base s H) (hb : ∀ j, s.all j → w'.heap[j]? = w.heap[j]?) (hh : Hist w' H) : RgAt w' base s H := ⟨h.mem.keep (fun k hk => hb k (.inl hk)) (fun q hq k hk => hb k (.inr ⟨q, hq, hk⟩)), h.key, h.last, hh, h.hok⟩
theorem RgAt.below {w w' : World} {base : Nat} {s : Rs} {H : List Rec} (h : RgAt w base s H) (b : Below w.heap.size w w') : RgAt w' base s H := h.keep (fun j hj => b.block j (h.mem.allLt hj)) (h.hist.keep (tch_of b (fun _ => False)) (fun _ _ _ _ _ _ _ q => q))
def Win (w : World) (s : Rs) (v : Value) : Prop := ∀ b n c, v = .slice (some ⟨b, 0, none⟩) n c → w.heap.size ≤ b ∨ ∃ q ∈ s.P, ∃ n0 c0, q.2.1 = .slice (some ⟨b, 0, none⟩) n0 c0 ∧ c ≤ c0 ∧ (n < c → c = c0 ∧ n0 ≤ n)
def EH (s : Rs) (w w' : World) : Prop := w.heap.size ≤ w'.heap.size ∧ ∀ b cu, w.heap[b]? = some (.cells cu RN.e (0, 0)) → ∃ cu', w'.heap[b]? = some (.cells cu' RN.e (0, 0)) ∧ ∀ m, (∀ q ∈ s.P, ∀ n c, q.2.1 = .slice (some ⟨b, 0, none⟩) n c → n < c → m ≤ RN.k * n) → cu'.toList.take m = cu.toList.take m
structure ER (s : Rs) (w : World) (s' : Rs) (w' : World) : Prop where
  l : ∀ q ∈ s'.P, Win w s q.2.1
  h : EH s w w'
theorem win_in {w : World} {s : Rs} {q : PlK × (Value × List EnV)} (hq : q ∈ s.P) : Win w s q.2.1 := fun b n c e => .inr ⟨q, hq, n, c, e, Nat.le_refl _, fun _ => ⟨rfl, Nat.le_refl _⟩⟩
theorem win_of {w : World} {s : Rs} {p : PlK} {v : Value} {a : Option Addr} {n0 c0 n c : Nat} (h : lvOf s.P p = .slice a n0 c0) (ha : a ≠ none) (hv : v = .slice a n c) (hc : c ≤ c0) (hr : n < c → c = c0 ∧ n0 ≤ n) : Win w s v := fun b n' c' e => by
  rw [hv] at e
  injection e with e1 e2 e3
  subst e2 e3
  unfold lvOf at h
  cases hl : M.look s.P p with
  | none =>
    rw [hl] at h
    injection h with h _ _
    exact absurd h.symm ha
  | some q =>
    rw [hl] at h
    exact .inr ⟨_, M.look_mem hl, n0, c0, h.trans (by rw [e1]), hc, hr⟩
theorem win_lv {w : World} {s : Rs} {p : PlK} : Win w s (lvOf s.P p) := by
  unfold lvOf
  cases hl : M.look s.P p with
  | none => exact fun b n c e => by cases e
  | some q => exact win_in (M.look_mem hl)
theorem win_new {w : World} {s : Rs} {v : Value} (h : ∀ k, v.ownBlock = some k → w.heap.size ≤ k) : Win w s v := fun b n c e => .inl (h b (by rw [e]; rfl))
theorem EH.tch {s : Rs} {w0 w w' : World} {O : Nat → Prop} (h : EH s w0 w) (t : Tch O w w') (hO : ∀ j cu, w.heap[j]? = some (.cells cu RN.e (0, 0)) → ¬ O j) : EH s w0 w' := by
  refine ⟨Nat.le_trans h.1 t.size, fun b cu hb => ?_⟩
  obtain ⟨cu', h1, h2⟩ := h.2 b cu hb
  exact ⟨cu', (t.block b (Array.getElem?_eq_some_iff.1 h1).1 (hO b cu' h1)).trans h1, h2⟩
theorem EH.refl (s : Rs) (w : World) : EH s w w := ⟨Nat.le_refl _, fun b cu hb => ⟨cu, hb, fun _ _ => rfl⟩⟩
theorem EH.below {s : Rs} {w w' : World} (b : Below w.heap.size w w') : EH s w w' := (EH.refl s w).tch (tch_of b (fun _ => False)) (fun _ _ _ q => q)
theorem ER.refl (s : Rs) (w : World) : ER s w s w := ⟨fun _ hq => win_in hq, EH.refl s w⟩
theorem ER.pre {s s' : Rs} {w0 w w' : World} (b : Below w0.heap.size w0 w) (h : ER s w s' w') : ER s w0 s' w' := by
  refine ⟨fun q hq g n c e => (h.l q hq g n c e).imp (Nat.le_trans b.size) id, Nat.le_trans b.size h.h.1, fun g cu hg => ?_⟩
  exact h.h.2 g cu ((b.block g (Array.getElem?_eq_some_iff.1 hg).1).trans hg)
theorem ER.post {s s' : Rs} {w0 w w' : World} {O : Nat → Prop} (h : ER s w0 s' w) (t : Tch O w w') (hO : ∀ j cu, w.heap[j]? = some (.cells cu RN.e (0, 0)) → ¬ O j) : ER s w0 s' w' := ⟨h.l, h.h.tch t hO⟩
theorem ER.trans {s s' s'' : Rs} {w w' w'' : World} (h1 : ER s w s' w') (h2 : ER s' w' s'' w'') : ER s w s'' w'' := by
  refine ⟨fun q hq b n c e => ?_, Nat.le_trans h1.h.1 h2.h.1, fun b cu hb => ?_⟩
  · rcases h2.l q hq b n c e with k | ⟨q', hq', n', c', e', k1, k2⟩
    · exact .inl (Nat.le_trans h1.h.1 k)
    · rcases h1.l q' hq' b n' c' e' with k | ⟨q0, hq0, n0, c0, e0, k3, k4⟩
      · exact .inl k
      · refine .inr ⟨q0, hq0, n0, c0, e0, Nat.le_trans k1 k3, fun hn => ?_⟩
        obtain ⟨a1, a2⟩ := k2 hn
        obtain ⟨a3, a4⟩ := k4 (by omega)
        exact ⟨by omega, by omega⟩
  · obtain ⟨cu', hb', k1⟩ := h1.h.2 b cu hb
    obtain ⟨cu'', hb'', k2⟩ := h2.h.2 b cu' hb'
    refine ⟨cu'', hb'', fun m hm => (k2 m fun q hq n c e hn => ?_).trans (k1 m hm)⟩
    rcases h1.l q hq b n c e with k | ⟨q0, hq0, n0, c0, e0, k3, k4⟩
    · have := (Array.getElem?_eq_some_iff.1 hb).1; omega
    · obtain ⟨a1, a2⟩ := k4 hn
      have := hm q0 hq0 n0 c0 e0 (by omega)
      exact Nat.le_trans this (Nat.mul_le_mul_left _ a2)
theorem RgM.blNot {w : World} {base : Nat} {s : Rs} (h : RgM w base s) {j : Nat} {cu : Array Value} (hj : w.heap[j]? = some (.cells cu RN.e (0, 0))) : j ∉ s.bl := fun hm => by
  rcases List.mem_cons.1 hm with rfl | hm
  · have := h.cell; rw [hj] at this; injection this with this; injection this with _ h2 _; revert h2; decide
  rcases List.mem_cons.1 hm with rfl | hm
  · obtain ⟨⟨es, cl, q1, _⟩, _⟩ := h.pl; rw [hj] at q1; cases q1
  rcases List.mem_cons.1 hm with rfl | hm
  · obtain ⟨⟨es, cl, q1, _⟩, _⟩ := h.kl; rw [hj] at q1; cases q1
  · obtain ⟨r, hr, rfl⟩ := List.mem_map.1 hm
    obtain ⟨⟨es, cl, q1, _⟩, _⟩ := h.kr r hr
    rw [hj] at q1; cases q1
structure ONxt (w : World) (base : Nat) (s : Rs) (p : PlK) (L : List EnV) (s' : Rs) (w' : World) : Prop where
  mem : RgM w' base s'
  key : KeysOk s'.K s'.P
  r : s'.r = s.r
  bp : s'.bp = s.bp
  bk : s'.bk = s.bk
  la : s'.last = s.last
  li : ∀ q, liOf s'.P q = if q = p then L else liOf s.P q
  al : ∀ j, s'.all j → s.all j ∨ w.heap.size ≤ j
  tch : Tch s.all w w'
  z : ER s w s' w'
theorem RgM.grow {w w' : World} {base : Nat} {s : Rs} (h : RgM w base s) {p : PlK} {v : Value} (g : w.grownBy w' v.ownBlock) (hv : (v = lvOf s.P p ∧ RN.Lo w' base v (liOf s.P p)) ∨ ∀ k, v.ownBlock = some k → ¬ s.all k) : RgM w' base s := by
  have nb : ∀ j ∈ s.bl, w'.heap[j]? = w.heap[j]? := fun j hj => g.block j (h.lt j hj) (fun e => by
    rcases hv with ⟨rfl, _⟩ | hv
    · unfold lvOf at e
      cases hl : M.look s.P p with
      | none => rw [hl] at e; cases e
      | some q => rw [hl] at e; exact h.apart (M.look_mem hl) e.symm hj
    · exact hv j e.symm (.inl hj))
  refine ⟨(nb _ (by simp [Rs.bl])).trans h.cell, h.pl.below (nb _ (by simp [Rs.bl])), h.kl.below (nb _ (by simp [Rs.bl])), fun r hr => (h.kr r hr).below (nb _ (Rs.row_bl hr)), fun q hq => ⟨?_, (h.en q hq).2⟩, h.dis, h.ead, h.lo⟩
  rcases hv with ⟨rfl, hlo⟩ | hv
  · by_cases e : q.1 = p
    · have hl : M.look s.P p = some q.2 := M.look_of_mem h.places (by rw [← e]; exact hq)
      unfold lvOf liOf at hlo
      rw [hl] at hlo
      exact hlo
    · refine (h.en q hq).1.keep (fun k hk => g.block k ((h.en q hq).1.lt hk) (fun e2 => ?_))
      unfold lvOf at e2
      cases hl : M.look s.P p with
      | none => rw [hl] at e2; cases e2
      | some q' =>
        rw [hl] at e2
        have := nodup_injG (·.2.1.ownBlock) h.ead q hq _ (M.look_mem hl) (hk.trans e2)
        rw [this] at e
        exact e rfl
  · exact (h.en q hq).1.keep (fun k hk => g.block k ((h.en q hq).1.lt hk) (fun e => hv k e.symm (.inr ⟨q, hq, hk⟩)))
theorem lv_all {s : Rs} {p : PlK} {k : Nat} (h : (lvOf s.P p).ownBlock = some k) : s.all k := by
  unfold lvOf at h
  cases hl : M.look s.P p with
  | none => rw [hl] at h; cases h
  | some q => rw [hl] at h; exact .inr ⟨_, M.look_mem hl, h⟩
theorem RgM.lv_ne {w : World} {base : Nat} {s : Rs} (h : RgM w base s) {p : PlK} : ∀ q ∈ s.P, q.1 ≠ p → q.2.1.ownBlock ≠ (lvOf s.P p).ownBlock := fun q hq hne e => by
  unfold lvOf at e
  have hsome : q.2.1.ownBlock ≠ none := fun e0 => by
    rcases (h.en q hq).1 with ⟨_, e1⟩ | ⟨g, cap, cur, e1, _⟩
    · exact (h.en q hq).2.1 e1
    · rw [e1] at e0; cases e0
  cases hl : M.look s.P p with
  | none => rw [hl] at e; exact hsome e
  | some q' =>
    rw [hl] at e
    have := nodup_injG (·.2.1.ownBlock) h.ead q hq _ (M.look_mem hl) e
    rw [this] at hne
    exact hne rfl
structure OpN (w : World) (base : Nat) (s : Rs) (H : List Rec) (p : PlK) (L : List EnV) (rc : Rec) (s' : Rs) (w' : World) : Prop where
  at' : RgAt w' base s' (rc :: H)
  r : s'.r = s.r
  li : ∀ q, liOf s'.P q = if q = p then L else liOf s.P q
  al : ∀ j, s'.all j → s.all j ∨ w.heap.size ≤ j
  tch : Tch s.all w w'
  new : w.heap.size ≤ rc.bk
  rp : rc.p = p
  rb : rc.bef = liOf s.P p
  z : ER s w s' w'
theorem op_done {w w4 w5 w6 : World} {base : Nat} {s s1 : Rs} {H : List Rec} (h : RgAt w base s H) (b4 : Below w.heap.size w w4) {F pb tb : Nat} {p : PlK} (hp : p.ok) {tv : Value} {T : List (Nat × EnV)} {L : List EnV} (hpb : w4.heap[pb]? = some (.cells p.c.toArray 52 (0, 0))) (htb : w4.heap[tb]? = some (.cells #[tv] 101 (0, 0))) (htl : RD.Lo w4 0 tv T)
    (nx : ONxt w4 base s p L s1 w5) (hst : RgM w6 base { s1 with last := some ⟨w5.heap.size, 0, none⟩ } ∧ w6.heap[w5.heap.size]? = some (.cells #[.pointer s1.last, .func (.func F) #[] #[.pointer (some ⟨pb, 0, none⟩), .pointer (some ⟨tb, 0, none⟩)]] 111 (0, 0)) ∧ Tch (fun j => j = s1.r) w5 w6)
    (hn : (liOf s.P p).length ≤ 2500000000000) (hdid : (⟨w5.heap.size, F, pb, tb, p, tv, T, liOf s.P p, L⟩ : Rec).did) : OpN w base s H p L ⟨w5.heap.size, F, pb, tb, p, tv, T, liOf s.P p, L⟩ { s1 with last := some ⟨w5.heap.size, 0, none⟩ } w6 := by
  obtain ⟨m6, k6, t6⟩ := hst
  have m4 := h.mem.below b4
  have t46 : Tch s.all w4 w6 := nx.tch.trans' t6 (fun j _ e => .inl (by rw [e, nx.r]; simp [Rs.bl]))
  have hO : ∀ j c ty fr, w4.heap[j]? = some (.cells c ty fr) → ty ≠ 84 → ty ≠ 63 → ¬ s.all j := fun j c ty fr h1 h2 h3 => m4.other h1 h2 h3
  have go : ∀ {j : Nat} {c : Array Value} {ty : TypeId} {fr : Nat × Nat}, w4.heap[j]? = some (.cells c ty fr) → ty ≠ 84 → ty ≠ 63 → w6.heap[j]? = some (.cells c ty fr) := fun h1 h2 h3 => (t46.block _ (Array.getElem?_eq_some_iff.1 h1).1 (hO _ _ _ _ h1 h2 h3)).trans h1
  refine ⟨⟨m6, nx.key, rfl, ⟨⟨?_, go hpb (by decide) (by decide), go htb (by decide) (by decide), htl.keep (fun k hk => ?_), hp, (h.mem.list p).2, hn⟩, (h.below b4).hist.keep t46 hO⟩, ⟨?_, hdid, ?_⟩⟩, nx.r, nx.li, fun j hj => ?_, (tch_of b4 _).trans' t46 (fun j _ q => q), Nat.le_trans b4.size nx.tch.size, rfl, rfl, ?_⟩
  · have e : s1.last = ptrH H := nx.la.trans h.last
    rw [← e]
    exact k6
  · obtain ⟨_, c, hc⟩ := htl.cells hk
    exact (go hc (by decide) (by decide)).trans hc.symm
  · show liOf s1.P p = L
    rw [nx.li, if_pos rfl]
  · refine h.hok.congr (fun q => ?_)
    show updF (liOf s1.P) p (liOf s.P p) q = _
    unfold updF
    by_cases e : q = p
    · rw [if_pos e, e]
    · rw [if_neg e, nx.li, if_neg e]
  · rcases nx.al j hj with q | q
    · exact .inl q
    · exact .inr (Nat.le_trans b4.size q)
  · refine ⟨(nx.z.pre b4).l, (nx.z.pre b4).h.tch t6 (fun j cu hj e => nx.mem.blNot hj (by rw [e]; simp [Rs.bl]))⟩
theorem sd_store {W : World} {tb : Nat} {u : Value} {a : Option Addr} {n c : Nat} (h : W.heap[tb]? = some (.cells #[u] 101 (0, 0))) : ∃ W', (Instr.storeAt 101 (.pointer (some ⟨tb, 0, none⟩)) (.slice a n c)).run Tryd.prog W = .ok () W' ∧ W'.heap[tb]? = some (.cells #[.slice a n c] 101 (0, 0)) ∧ Tch (fun j => j = tb) W W' := by
  have c0 : W.cell? ⟨tb, 0, none⟩ = some u := (cell_of_row W tb 0 _ _ _ h).trans rfl
  have f0 := frozen_of_row W tb 0 _ _ h
  refine ⟨W.setCell ⟨tb, 0, none⟩ (.slice a n c), by go_simp, ?_, ⟨rfl, rfl, rfl, by simp [World.setCell], fun j _ hj => Go.heap_setCell_other _ _ _ _ hj⟩⟩
  exact Go.heap_setCell_same W tb 0 _ 101 _ h
theorem sd_alloc (W : World) : (Instr.alloc 101 true (.tuple #[])).run Tryd.prog W = .ok (.pointer (some ⟨W.heap.size, 0, none⟩)) (W.alloc (.cells #[.slice none 0 0] 101)) := by kernel_rfl
theorem ld_sdl {W : World} {tb : Nat} {a : Option Addr} {n c : Nat} (h : W.heap[tb]? = some (.cells #[.slice a n c] 101 (0, 0))) : (Instr.loadAt 101 (.pointer (some ⟨tb, 0, none⟩))).run Tryd.prog W = .ok (.slice a n c) W := by
  have c0 : W.cell? ⟨tb, 0, none⟩ = some (.slice a n c) := (cell_of_row W tb 0 _ _ _ h).trans rfl
  go_simp
structure HadN (w : World) (T : List (Nat × EnV)) (tb : Nat) (tv : Value) (w' : World) : Prop where
  l : RD.Lo w' w.heap.size tv T
  b : w'.heap[tb]? = some (.cells #[tv] 101 (0, 0))
  bel : Below w.heap.size w w'
  ge : w.heap.size ≤ tb
theorem had_box {w : World} {base : Nat} {lv : Value} {L : List EnV} (hL : RN.Lo w base lv L) (ok : ∀ x ∈ L, x.ok) (hn : L.length ≤ 2500000000000) {fv : Value} {sn : IdK → Bool} (hs : Seen w fv sn) :
    (Calls Tryd.prog 48 #[lv, fv] w.drew fun e w' => ∃ tv tb wa wb, e = .returned tv ∧ Below w.heap.size w w' ∧ (Instr.alloc 101 true (.tuple #[])).run Tryd.prog w' = .ok (.pointer (some ⟨tb, 0, none⟩)) wa ∧ Below w.heap.size w wa ∧ (Instr.storeAt 101 (.pointer (some ⟨tb, 0, none⟩)) tv).run Tryd.prog wa = .ok () wb ∧ Below w.heap.size w wb ∧ HadN w (Rg.hadI (fun x => sn x.id) 0 L) tb tv wb) ∧
    ∃ y1, (Instr.alloc 101 true (.tuple #[])).run Tryd.prog w.drew = .ok (.pointer (some ⟨w.heap.size, 0, none⟩)) y1 ∧ Below w.heap.size w y1 ∧ Calls Tryd.prog 48 #[lv, fv] y1 fun e w' => ∃ tv wb, e = .returned tv ∧ Below w.heap.size w w' ∧ (Instr.storeAt 101 (.pointer (some ⟨w.heap.size, 0, none⟩)) tv).run Tryd.prog w' = .ok () wb ∧ Below w.heap.size w wb ∧ HadN w (Rg.hadI (fun x => sn x.id) 0 L) w.heap.size tv wb := by
  have bd : Below w.heap.size w w.drew := (Below.refl w.heap.size w).drew
  refine ⟨?_, ?_⟩
  · refine (had_seen (hL.below bd) ok hn (hs.below bd)).mono ?_
    rintro e w' ⟨tv, rfl, o, b⟩
    have bw := bd.trans b
    have ba : Below w'.heap.size w' (w'.alloc (.cells #[.slice none 0 0] 101)) := (Below.refl _ _).alloc (Nat.le_refl _) _
    have na : (w'.alloc (.cells #[.slice none 0 0] 101)).heap[w'.heap.size]? = some (.cells #[.slice none 0 0] 101 (0, 0)) := heap_alloc_new _ _
    obtain ⟨ta, tc, rfl⟩ := o.form
    obtain ⟨wb, es, nb, tb⟩ := sd_store (a := ta) (n := (Rg.hadI (fun x => sn x.id) 0 L).length) (c := tc) na
    have bwa := bw.trans (ba.mono bw.size)
    have bwb : Below w.heap.size w wb := bwa.trans (tb.below bwa.size (fun j e => by rw [e]; exact bw.size))
    refine ⟨_, w'.heap.size, _, wb, rfl, bw, sd_alloc w', bwa, es, bwb, ⟨?_, nb, bwb, bw.size⟩⟩
    refine (o.lo.below ba).keep (fun k hk => tb.block k (Nat.lt_of_lt_of_le (o.lt hk) ba.size) (fun e => by have := o.lt hk; omega))
  · have by1 : Below w.heap.size w.drew (w.drew.alloc (.cells #[.slice none 0 0] 101)) := (Below.refl w.heap.size w.drew).alloc (Nat.le_refl _) _
    have ny : (w.drew.alloc (.cells #[.slice none 0 0] 101)).heap[w.heap.size]? = some (.cells #[.slice none 0 0] 101 (0, 0)) := heap_alloc_new _ _
    have bw := bd.trans by1
    refine ⟨_, sd_alloc w.drew, bw, ?_⟩
    refine (had_seen (hL.below bw) ok hn (hs.below bw)).mono ?_
    rintro e w' ⟨tv, rfl, o, b⟩
    have z1 : w.heap.size < (w.drew.alloc (.cells #[.slice none 0 0] 101)).heap.size := (Array.getElem?_eq_some_iff.1 ny).1
    have bw' := bw.trans (b.mono bw.size)
    obtain ⟨ta, tc, rfl⟩ := o.form
    obtain ⟨wb, es, nb, tb⟩ := sd_store (a := ta) (n := (Rg.hadI (fun x => sn x.id) 0 L).length) (c := tc) ((b.block _ z1).trans ny)
    have bwb : Below w.heap.size w wb := bw'.trans (tb.below bw'.size (fun j e => by rw [e]; exact Nat.le_refl _))
    refine ⟨_, wb, rfl, bw', es, bwb, ⟨?_, nb, bwb, Nat.le_refl _⟩⟩
    refine (o.lo.keep (fun k hk => tb.block k (o.lt hk) (fun e => by have := (o.cells hk).1; omega))).mono (Nat.le_of_lt z1)
theorem ONxt.of' {w0 w w' : World} {base : Nat} {s s' : Rs} {p : PlK} {v : Value} {L : List EnV} (n : LNxt w base s p v L s' w') (t : Tch s.all w0 w) (hv : ∀ k, v.ownBlock = some k → s.all k ∨ w0.heap.size ≤ k) (m : RgM w base s) (zv : Win w0 s v) (zh : EH s w0 w) : ONxt w0 base s p L s' w' := by
  refine ⟨n.mem, n.key, n.r, n.bp, n.bk, n.la, n.li, fun j hj => ?_, t.trans' (n.tch.mono (O' := s.all) (fun j _ q => .inl q)) (fun j _ q => q), ⟨fun q hq => (n.fr q hq).elim (fun e => by rw [e]; exact zv) (fun e => win_in e.1), zh.tch n.tch (fun j cu hj e => m.blNot hj e)⟩⟩
  rcases hj with hj | ⟨q, hq, e⟩
  · exact (n.bl j hj).imp .inl (fun q => Nat.le_trans t.size q)
  · rcases n.fr q hq with rfl | ⟨hq, _⟩
    · exact hv j e
    · exact .inl (.inr ⟨q, hq, e⟩)
theorem lay_new {w0 W : World} {base : Nat} {s : Rs} (m : RgM W base s) (ko : KeysOk s.K s.P) (hb : base ≤ W.heap.size) {p : PlK} (hp : p.ok) {u : Value} {L : List EnV} (hu : RN.Lo W base u L) (ok : ∀ x ∈ L, x.ok) (t : Tch s.all w0 W) (l0 : ∀ j, s.all j → j < w0.heap.size) (hrel : (u.ownBlock = (lvOf s.P p).ownBlock ∧ Win w0 s u) ∨ ∀ k, u.ownBlock = some k → w0.heap.size ≤ k) (zh : EH s w0 W) :
    Calls Tryd.prog 49 #[.pointer (some ⟨s.r, 0, none⟩), p.v, u] W fun e w' => e = .returned (.tuple #[]) ∧ ∃ s', ONxt w0 base s p L s' w' := by
  refine (lay_any m ko hb hp hu ok (fun q hq hne e => ?_)).mono ?_
  · rcases hrel with h | h
    · exact m.lv_ne q hq hne (e.trans h.1)
    · have hsome : ∃ k, q.2.1.ownBlock = some k := by
        rcases (m.en q hq).1 with ⟨_, e1⟩ | ⟨g, cap, cur, e1, _⟩
        · exact absurd e1 (m.en q hq).2.1
        · exact ⟨g, by rw [e1]; rfl⟩
      obtain ⟨k, hk⟩ := hsome
      have h1 := h k (e ▸ hk)
      have h2 := l0 k (.inr ⟨q, hq, hk⟩)
      omega
  · rintro e w' ⟨rfl, s', n⟩
    refine ⟨rfl, s', ONxt.of' n t (fun k hk => ?_) m (hrel.elim (·.2) win_new) zh⟩
    rcases hrel with h | h
    · exact .inl (lv_all (h.1 ▸ hk))
    · exact .inr (h k hk)
theorem app_lay {w0 W : World} {base : Nat} {s : Rs} (m : RgM W base s) (ko : KeysOk s.K s.P) (hb : base ≤ W.heap.size) {p : PlK} (hp : p.ok) {v1 : Value} {R : List EnV} (hv : RN.Lo W base v1 R) (ok : ∀ x ∈ R, x.ok) {a : Option Addr} {c : Nat} {x : EnV} (hx : x.ok) (hat : RN.At W a [x]) (hn : R.length + 1 ≤ 2500000000000) (t : Tch s.all w0 W) (l0 : ∀ j, s.all j → j < w0.heap.size) (hrel : (v1 = lvOf s.P p ∧ R = liOf s.P p) ∨ ∀ k, v1.ownBlock = some k → w0.heap.size ≤ k) (zh : EH s w0 W) :
    ∃ u W3, (Builtin.append_ #[60, 60] 60 #[v1, .slice a 1 c]).run Tryd.prog W = .ok u W3 ∧ Tch s.all w0 W3 ∧ RgM W3 base s ∧ Calls Tryd.prog 49 #[.pointer (some ⟨s.r, 0, none⟩), p.v, u] W3 fun e w' => e = .returned (.tuple #[]) ∧ ∃ s', ONxt w0 base s p (R ++ [x]) s' w' := by
  obtain ⟨u, W3, e, o, g, q, ol⟩ := RowT.lo_app RN_is W base v1 R ok a [x] c hv hat (fun y hy => by rw [List.mem_singleton.1 hy]; exact hx) (by simp; unfold maxLen; omega) (by simp; show _ * 80 ≤ _; omega) hb
  obtain ⟨ad, rfl⟩ : ∃ ad, a = some ad := by
    rcases hat with e0 | ⟨b0, o0, e0, _⟩
    · cases e0
    · exact ⟨_, e0⟩
  have PRE := RowT.lo_app_pre RN_is W base v1 R ok ad [x] (by simp) c hv hat (fun y hy => by rw [List.mem_singleton.1 hy]; exact hx) (by simp; unfold maxLen; omega) (by simp; show _ * 80 ≤ _; omega) hb e
  have WIN := RowT.lo_app_win RN_is W base v1 R ok ad [x] (by simp) c hv hat (fun y hy => by rw [List.mem_singleton.1 hy]; exact hx) (by simp; unfold maxLen; omega) (by simp; show _ * 80 ≤ _; omega) hb e
  have zh3 : EH s w0 W3 := by
    refine ⟨Nat.le_trans zh.1 g.size, fun b cu hcu => ?_⟩
    obtain ⟨cu1, h1, k1⟩ := zh.2 b cu hcu
    obtain ⟨cu2, h2, k2⟩ := PRE b cu1 h1
    refine ⟨cu2, h2, fun m' hm => (k2 m' fun n cp ev hn => ?_).trans (k1 m' hm)⟩
    rcases hrel with ⟨e1, _⟩ | h
    · rw [e1] at ev
      unfold lvOf at ev
      cases hl : M.look s.P p with
      | none => rw [hl] at ev; cases ev
      | some q => rw [hl] at ev; exact hm _ (M.look_mem hl) n cp ev hn
    · have := h b (by rw [ev]; rfl)
      have := (Array.getElem?_eq_some_iff.1 hcu).1
      omega
  have t3 : Tch s.all w0 W3 := t.trans' (⟨g.os, g.tape, g.output, g.size, fun j hj hn => g.block j hj (fun e => hn e.symm)⟩ : Tch (fun j => v1.ownBlock = some j) W W3) (fun j hj e => by
    rcases hrel with ⟨rfl, _⟩ | h
    · exact lv_all e
    · have := h j e; omega)
  have m3 : RgM W3 base s := m.grow g (by
    rcases hrel with ⟨rfl, rfl⟩ | h
    · exact .inl ⟨rfl, ol⟩
    · exact .inr (fun k hk ha => by have := h k hk; have := l0 k ha; omega))
  refine ⟨u, W3, e, t3, m3, ?_⟩
  refine lay_new m3 ko (Nat.le_trans hb g.size) hp o (fun y hy => ?_) t3 l0 ?_ zh3
  · rcases List.mem_append.1 hy with h | h
    · exact ok y h
    · rw [List.mem_singleton.1 h]; exact hx
  · rcases q with hob | q
    · rcases WIN with ⟨a1, n1, c1, ev1, eu⟩ | q
      rotate_left
      · exact .inr (fun k hk => by rw [q] at hk; injection hk with hk; have := t.size; omega)
      rcases hrel with ⟨rfl, _⟩ | h
      · refine .inl ⟨hob, ?_⟩
        by_cases ha1 : a1 = none
        · subst ha1
          rw [eu]
          exact fun b' n' c' e' => by cases e'
        · exact win_of ev1 ha1 eu (Nat.le_refl _) (fun _ => ⟨rfl, Nat.le_add_right _ _⟩)
      · exact .inr (fun k hk => h k (hob ▸ hk))
    · exact .inr (fun k hk => by rw [q] at hk; injection hk with hk; have := t.size; omega)
structure S4 (s : Rs) (w4 W : World) : Prop where
  un : ∀ j, j < w4.heap.size → ¬ s.all j → W.heap[j]? = w4.heap[j]?
  c0 : W.cell? ⟨s.r, 0, none⟩ = some (.map (some s.bp))
theorem S4.of {s : Rs} {w4 W : World} {base : Nat} (t : Tch s.all w4 W) (m : RgM W base s) : S4 s w4 W := ⟨fun j hj hn => t.block j hj hn, m.c0⟩
theorem S4.nx {s s' : Rs} {w4 W : World} {base : Nat} {p : PlK} {L : List EnV} (n : ONxt w4 base s p L s' W) : S4 s w4 W := ⟨fun j hj hn => n.tch.block j hj hn, by have := n.mem.c0; rw [n.r, n.bp] at this; exact this⟩
theorem S4.ld {s : Rs} {w4 W : World} (h : S4 s w4 W) {j : Nat} {c : Array Value} {ty : TypeId} {fr : Nat × Nat} {base : Nat} (m : RgM w4 base s) (hj : w4.heap[j]? = some (.cells c ty fr)) (h1 : ty ≠ 84) (h2 : ty ≠ 63) : W.heap[j]? = some (.cells c ty fr) := (h.un j (Array.getElem?_eq_some_iff.1 hj).1 (m.other hj h1 h2)).trans hj
theorem S4.lr {s : Rs} {w4 W : World} (h : S4 s w4 W) : (Instr.loadAt 81 (.pointer (some ⟨s.r, 0 + 0, none⟩))).run Tryd.prog W = .ok (.map (some s.bp)) W := by
  have := h.c0
  go_simp
theorem rng_cells {W : World} {b : Nat} {cs : List Value} {t : TypeId} (h : W.heap[b]? = some (.cells cs.toArray t (0, 0))) : W.rangeAt b 0 cs := fun j v hv => by
  rw [Nat.zero_add, cell_of_row _ _ j _ _ _ h]
  simpa using hv
def OpE (w : World) (base : Nat) (s : Rs) (H : List Rec) (p : PlK) (L : List EnV) (e : Ending) (w' : World) : Prop := ∃ rc s', e = .returned (.pointer (some ⟨rc.bk, 0, none⟩)) ∧ OpN w base s H p L rc s' w'
set_option maxHeartbeats 8000000 in
theorem put_any {w : World} {base : Nat} {s : Rs} {H : List Rec} (h : RgAt w base s H) (hb : base ≤ w.heap.size) {p : PlK} (hp : p.ok) {id : IdK} (hid : id.ok) {x : VaV} (hx : x.ok) {fv : Value} {sn : IdK → Bool} (hs : Seen w fv sn) (hn : (liOf s.P p).length + 1 ≤ 2500000000000) :
    Calls Tryd.prog 16 #[.pointer (some ⟨s.r, 0, none⟩), p.v, id.v, x.v, fv] w (OpE w base s H p (Rg.res (fun y => sn y.id) (liOf s.P p) ++ [⟨id, x⟩])) := by
  have bA : Below w.heap.size w (w.alloc (.cells p.c.toArray 52)) := (Below.refl _ _).alloc (Nat.le_refl _) _
  have nA : (w.alloc (.cells p.c.toArray 52)).heap[w.heap.size]? = some (.cells p.c.toArray 52 (0, 0)) := heap_alloc_new _ _
  have EA := hidMk (show (Instr.box 52 p.v).run Tryd.prog w = .ok (.pointer (some ⟨w.heap.size, 0, none⟩)) (w.alloc (.cells p.c.toArray 52)) by rw [run_box]; rfl)
  generalize w.alloc (.cells p.c.toArray 52) = w1 at *
  have bB : Below w1.heap.size w1 (w1.alloc (.cells id.c.toArray 38)) := (Below.refl _ _).alloc (Nat.le_refl _) _
  have nB : (w1.alloc (.cells id.c.toArray 38)).heap[w1.heap.size]? = some (.cells id.c.toArray 38 (0, 0)) := heap_alloc_new _ _
  have EB := hidMk (show (Instr.box 38 id.v).run Tryd.prog w1 = .ok (.pointer (some ⟨w1.heap.size, 0, none⟩)) (w1.alloc (.cells id.c.toArray 38)) by rw [run_box]; rfl)
  generalize w1.alloc (.cells id.c.toArray 38) = w2 at *
  have bC : Below w2.heap.size w2 (w2.alloc (.cells x.c.toArray 42)) := (Below.refl _ _).alloc (Nat.le_refl _) _
  have nC : (w2.alloc (.cells x.c.toArray 42)).heap[w2.heap.size]? = some (.cells x.c.toArray 42 (0, 0)) := heap_alloc_new _ _
  have EC := hidMk (show (Instr.box 42 x.v).run Tryd.prog w2 = .ok (.pointer (some ⟨w2.heap.size, 0, none⟩)) (w2.alloc (.cells x.c.toArray 42)) by rw [run_box]; rfl)
  generalize w2.alloc (.cells x.c.toArray 42) = w3 at *
  have zA := bA.size
  have zB := bB.size
  have zC := bC.size
  have b3 : Below w.heap.size w w3 := (bA.trans (bB.mono zA)).trans (bC.mono (by omega))
  have nA3 : w3.heap[w.heap.size]? = some (.cells p.c.toArray 52 (0, 0)) := by
    have l1 := (Array.getElem?_eq_some_iff.1 nA).1
    rw [bC.block _ (by omega), bB.block _ l1]; exact nA
  have nB3 : w3.heap[w1.heap.size]? = some (.cells id.c.toArray 38 (0, 0)) := (bC.block _ (Array.getElem?_eq_some_iff.1 nB).1).trans nB
  have h3 := h.below b3
  have hs3 := hs.below b3
  obtain ⟨L, hLL⟩ : ∃ L, liOf s.P p = L := ⟨_, rfl⟩
  have okL := (h.mem.list p).2
  have lo3 := (h3.mem.list p).1
  rw [hLL] at hn okL lo3
  obtain ⟨CA, y1, EY, SY, CB⟩ := had_box lo3 okL (by omega) hs3
  obtain ⟨sf, hsf⟩ : ∃ sf : EnV → Bool, (fun y : EnV => sn y.id) = sf := ⟨_, rfl⟩
  rw [hsf] at CA CB ⊢
  rw [hLL]
  have TAIL : Hid (∀ tb tv w4, HadN w3 (Rg.hadI sf 0 L) tb tv w4 → ∃ sv2 y1, (Instr.buildSlice 60 1 #[(0, EnV.a ⟨id, x⟩)]).run Tryd.prog w4.drew = .ok sv2 y1 ∧ S4 s w4 y1 ∧ (Instr.lookup 81 (.map (some s.bp)) p.v false).run Tryd.prog y1 = .ok (lvOf s.P p) y1 ∧
      (Calls Tryd.prog 50 #[lvOf s.P p, tv] w4.drew fun e w' => ∃ v1 sv w2 u w3, e = .returned v1 ∧ S4 s w4 w' ∧ (Instr.buildSlice 60 1 #[(0, EnV.a ⟨id, x⟩)]).run Tryd.prog w' = .ok sv w2 ∧ S4 s w4 w2 ∧ (Builtin.append_ #[60, 60] 60 #[v1, sv]).run Tryd.prog w2 = .ok u w3 ∧ S4 s w4 w3 ∧ Calls Tryd.prog 49 #[.pointer (some ⟨s.r, 0, none⟩), p.v, u] w3 fun e w5 => e = .returned (.tuple #[]) ∧ S4 s w4 w5 ∧ ∃ s', ONxt w4 base s p (Rg.res sf L ++ [⟨id, x⟩]) s' w5) ∧
      (Calls Tryd.prog 50 #[lvOf s.P p, tv] y1 fun e w' => ∃ v1 u y3, e = .returned v1 ∧ S4 s w4 w' ∧ (Builtin.append_ #[60, 60] 60 #[v1, sv2]).run Tryd.prog w' = .ok u y3 ∧ S4 s w4 y3 ∧ Calls Tryd.prog 49 #[.pointer (some ⟨s.r, 0, none⟩), p.v, u] y3 fun e w5 => e = .returned (.tuple #[]) ∧ S4 s w4 w5 ∧ ∃ s', ONxt w4 base s p (Rg.res sf L ++ [⟨id, x⟩]) s' w5)) := by
    intro tb tv w4 hd
    have m4 := h3.mem.below hd.bel
    have bd : Below w4.heap.size w4 w4.drew := (Below.refl w4.heap.size w4).drew
    have l0 : ∀ j, s.all j → j < w4.heap.size := fun j hj => m4.allLt hj
    have hb4 : base ≤ w4.heap.size := by have := hd.bel.size; omega
    have ex : EnV.ok ⟨id, x⟩ := ⟨hid, hx⟩
    have okR : ∀ y ∈ Rg.res sf L, y.ok := fun y hy => okL y (List.mem_filter.1 hy).1
    have rl : (Rg.res sf L).length + 1 ≤ 2500000000000 := by have := Rg.res_len sf L 0; omega
    have byb : Below w4.heap.size w4.drew (w4.drew.alloc (.cells (RN.c ⟨id, x⟩).toArray RN.e)) := (Below.refl w4.heap.size w4.drew).alloc (Nat.le_refl _) _
    have hlit := RowT.lit RN w4.drew ⟨id, x⟩ RN.e
    have ebs := RowT.run_bs RN_is ⟨id, x⟩ ex w4.drew
    generalize w4.drew.alloc (.cells (RN.c ⟨id, x⟩).toArray RN.e) = y1 at *
    have by4 := bd.trans byb
    have my := m4.below by4
    refine ⟨_, y1, ebs, S4.of (tch_of by4 _) my, my.lookP p hp, ?_, ?_⟩
    · have md := m4.below bd
      refine (without_all (base := base) (lv := lvOf s.P p) (L := L) (sn := sf) (by rw [← hLL]; exact (md.list p).1) okL (by omega) (hd.l.below bd) hb4).mono ?_
      rintro e w' ⟨v1, rfl, lo1, b1, rel⟩
      have b14 := bd.trans b1
      have bs : Below w'.heap.size w' (w'.alloc (.cells (RN.c ⟨id, x⟩).toArray RN.e)) := (Below.refl _ _).alloc (Nat.le_refl _) _
      have hl2 := RowT.lit RN w' ⟨id, x⟩ RN.e
      have eb2 := RowT.run_bs RN_is ⟨id, x⟩ ex w'
      generalize w'.alloc (.cells (RN.c ⟨id, x⟩).toArray RN.e) = w2' at *
      have b24 := b14.trans (bs.mono b14.size)
      have m2 := m4.below b24
      obtain ⟨u, W3, ea, t3, m3, cl⟩ := app_lay (w0 := w4) (W := w2') (c := 1) m2 h.key (Nat.le_trans hb4 b24.size) hp (lo1.below bs) okR ex hl2 rl (tch_of b24 _) l0 (by
        rcases rel with ⟨e1, e2⟩ | r
        · exact .inl ⟨e1, by rw [e2, hLL]⟩
        · exact .inr r) (EH.below b24)
      exact ⟨v1, _, w2', u, W3, rfl, S4.of (tch_of b14 _) (m4.below b14), eb2, S4.of (tch_of b24 _) m2, ea, S4.of t3 m3, cl.mono fun e w5 ⟨h1, s', n⟩ => ⟨h1, S4.nx n, s', n⟩⟩
    · refine (without_all (base := base) (lv := lvOf s.P p) (L := L) (sn := sf) (by rw [← hLL]; exact (my.list p).1) okL (by omega) (hd.l.below by4) (Nat.le_trans hb4 by4.size)).mono ?_
      rintro e w' ⟨v1, rfl, lo1, b1, rel⟩
      have b14 := by4.trans (b1.mono by4.size)
      have m2 := m4.below b14
      obtain ⟨u, W3, ea, t3, m3, cl⟩ := app_lay (w0 := w4) (W := w') (c := 1) m2 h.key (Nat.le_trans hb4 b14.size) hp lo1 okR ex (hlit.below b1) rl (tch_of b14 _) l0 (by
        rcases rel with ⟨e1, e2⟩ | r
        · exact .inl ⟨e1, by rw [e2, hLL]⟩
        · exact .inr (fun k hk => by have := r k hk; have := by4.size; omega)) (EH.below b14)
      exact ⟨v1, u, W3, rfl, S4.of (tch_of b14 _) m2, ea, S4.of t3 m3, cl.mono fun e w5 ⟨h1, s', n⟩ => ⟨h1, S4.nx n, s', n⟩⟩
  have FIN : Hid (∀ tb tv w4 w5 s', HadN w3 (Rg.hadI sf 0 L) tb tv w4 → ONxt w4 base s p (Rg.res sf L ++ [⟨id, x⟩]) s' w5 → Calls Tryd.prog 51 #[.pointer (some ⟨s.r, 0, none⟩), .func (.func 52) #[] #[.pointer (some ⟨w.heap.size, 0, none⟩), .pointer (some ⟨tb, 0, none⟩)]] w5 fun e w' => ∃ bk, e = .returned (.pointer (some ⟨bk, 0, none⟩)) ∧ ∃ rc s'', rc.bk = bk ∧ OpN w base s H p (Rg.res sf L ++ [⟨id, x⟩]) rc s'' w') := by
    intro tb tv w4 w5 s' hd nx
    rw [← nx.r]
    refine (step_any nx.mem 52 #[.pointer (some ⟨w.heap.size, 0, none⟩), .pointer (some ⟨tb, 0, none⟩)]).mono ?_
    rintro e w6 ⟨rfl, hst⟩
    have b4 := b3.trans (hd.bel.mono b3.size)
    refine ⟨_, rfl, _, _, rfl, op_done h b4 hp ((hd.bel.block _ (Array.getElem?_eq_some_iff.1 nA3).1).trans nA3) hd.b (hd.l.mono (Nat.zero_le _)) nx hst (by rw [hLL]; omega) ⟨sf, by rw [hLL], .inl ⟨rfl, ⟨id, x⟩, by rw [hLL]⟩⟩⟩
  have LD3 : Hid ((∀ W, Below w3.heap.size w3 W → (Instr.loadAt 81 (.pointer (some ⟨s.r, 0 + 0, none⟩))).run Tryd.prog W = .ok (.map (some s.bp)) W) ∧ (∀ W, Below w3.heap.size w3 W → (Instr.loadAt 52 (.pointer (some ⟨w.heap.size, 0, none⟩))).run Tryd.prog W = .ok p.v W) ∧ (∀ W, Below w3.heap.size w3 W → (Instr.lookup 81 (.map (some s.bp)) p.v false).run Tryd.prog W = .ok (lvOf s.P p) W)) := by
    refine ⟨fun W b => ?_, fun W b => ?_, fun W b => (h3.mem.below b).lookP p hp⟩
    · have := (h3.mem.below b).c0
      go_simp
    · exact ld_pl hp (rng_cells ((b.block _ (Array.getElem?_eq_some_iff.1 nA3).1).trans nA3))
  have LD4 : Hid (∀ tb tv w4, HadN w3 (Rg.hadI sf 0 L) tb tv w4 → (∀ W, S4 s w4 W → (Instr.loadAt 52 (.pointer (some ⟨w.heap.size, 0, none⟩))).run Tryd.prog W = .ok p.v W) ∧ (∀ W, S4 s w4 W → (Instr.loadAt 38 (.pointer (some ⟨w1.heap.size, 0, none⟩))).run Tryd.prog W = .ok id.v W) ∧ (∀ W, S4 s w4 W → (Instr.loadAt 42 (.pointer (some ⟨w2.heap.size, 0, none⟩))).run Tryd.prog W = .ok x.v W) ∧ (∀ W, S4 s w4 W → (Instr.loadAt 101 (.pointer (some ⟨tb, 0, none⟩))).run Tryd.prog W = .ok tv W) ∧ S4 s w4 w4.drew ∧ (Instr.lookup 81 (.map (some s.bp)) p.v false).run Tryd.prog w4.drew = .ok (lvOf s.P p) w4.drew) := by
    intro tb tv w4 hd
    have m4 := h3.mem.below hd.bel
    have l1 := (Array.getElem?_eq_some_iff.1 nA3).1
    have l2 := (Array.getElem?_eq_some_iff.1 nB3).1
    have l3 := (Array.getElem?_eq_some_iff.1 nC).1
    have k1 := (hd.bel.block _ l1).trans nA3
    have k2 := (hd.bel.block _ l2).trans nB3
    have k3 := (hd.bel.block _ l3).trans nC
    refine ⟨fun W hW => ld_pl hp (rng_cells (hW.ld m4 k1 (by decide) (by decide))), fun W hW => load_id hid (hW.ld m4 k2 (by decide) (by decide)), fun W hW => ld_va (rng_cells (hW.ld m4 k3 (by decide) (by decide))), fun W hW => ?_, S4.of (tch_of (Below.refl w4.heap.size w4).drew _) (m4.below (Below.refl w4.heap.size w4).drew), (m4.below (Below.refl w4.heap.size w4).drew).lookP p hp⟩
    have hk := hW.ld m4 hd.b (by decide) (by decide)
    obtain ⟨ta, tn, tc, et⟩ : ∃ ta tn tc, tv = .slice ta tn tc := by
      rcases hd.l with ⟨e, _⟩ | ⟨g, cap, cur, e, _⟩
      · exact ⟨_, _, _, e⟩
      · exact ⟨_, _, _, e⟩
    rw [et] at hk ⊢
    exact ld_sdl hk
  have HCA := hidMk CA
  have HCB := hidMk CB
  have HEY := hidMk (And.intro EY SY)
  have S3d : Below w3.heap.size w3 w3.drew := (Below.refl w3.heap.size w3).drew
  clear CA CB EY SY lo3 okL hs3 h3 nA3 nB3 nC b3 zA zB zC bA bB bC nA nB hLL hsf h hs
  go_enter Tryd.func16, Tryd.ntmps16
  go_upto_region 0 with fail
  refine put0 (b0 := w.heap.size) (b1 := w1.heap.size) (b2 := w2.heap.size) (p := p) (id := id) (x := x) (w1 := w1) (w2 := w2) (w3 := w3) _ w _ rfl rfl rfl rfl EA.out EB.out EC.out ?_
  intro a' w' hw' ha
  subst ha
  obtain rfl : w3 = w' := hw'.symm
  simp only [Act.put, List.setIfInBounds_toArray, List.set_cons_zero, List.set_cons_succ]
  clear EA EB EC
  go_upto_region 3 with fail
  refine put3 (rb := s.r) (mb := s.bp) (pb := w.heap.size) (tb2 := w3.heap.size) (p := p) (lv := lvOf s.P p) (y1 := y1) (fun W => Below w3.heap.size w3 W) (fun tb tv w' => HadN w3 (Rg.hadI sf 0 L) tb tv w') _ w3 _ rfl rfl rfl rfl S3d LD3.out.1 LD3.out.2.1 LD3.out.2.2 HCA.out HEY.out.1 HEY.out.2 HCB.out ?_ ?_
  rotate_left
  intro tv a' w4 hd ha
  obtain ⟨tb, htb⟩ : ∃ tb, w3.heap.size = tb := ⟨_, rfl⟩
  rw [htb] at hd ha
  rotate_left
  intro tv tb a' w4 hd ha
  all_goals
    subst ha
    simp only [Act.put, List.setIfInBounds_toArray, List.set_cons_zero, List.set_cons_succ]
    obtain ⟨k1, k2, k3, k4, k5, k6⟩ := LD4.out tb tv w4 hd
    obtain ⟨sv2, z1, e1, s1, l1, ca, cb⟩ := TAIL.out tb tv w4 hd
    have HK := hidMk (And.intro k1 (And.intro k2 (And.intro k3 (And.intro k4 (And.intro k5 k6)))))
    have HT := hidMk (And.intro e1 (And.intro s1 (And.intro l1 (And.intro ca cb))))
    have HD := hidMk hd
    clear k1 k2 k3 k4 k5 k6 e1 s1 l1 ca cb hd
    go_upto_region 4 with fail
    refine put4 (rb := s.r) (mb := s.bp) (pb := w.heap.size) (ib := w1.heap.size) (vb := w2.heap.size) (tb := tb) (p := p) (id := id) (x := x) (lv := lvOf s.P p) (tv := tv) (sv2 := sv2) (y1 := z1) (S4 s w4) (fun w5 => ∃ s', ONxt w4 base s p (Rg.res sf L ++ [⟨id, x⟩]) s' w5) _ w4 _ rfl rfl rfl rfl rfl rfl hid HK.out.2.2.2.2.1 (fun W hW => hW.lr) HK.out.1 HK.out.2.1 HK.out.2.2.1 HK.out.2.2.2.1 HK.out.2.2.2.2.2 HT.out.2.2.2.1 HT.out.1 HT.out.2.1 HT.out.2.2.1 HT.out.2.2.2.2 ?_ ?_ ?_
    rotate_left
    intro v1 u a' w5 hf ha
    rotate_left
    intro v1 u a' w5 hf ha
    rotate_left
    intro v1 sv u a' w5 hf ha
    all_goals
      subst ha
      simp only [Act.put, List.setIfInBounds_toArray, List.set_cons_zero, List.set_cons_succ]
      obtain ⟨s', nx⟩ := hf
      have CS := hidMk (FIN.out tb tv w4 w5 s' HD.out nx)
      clear HK HT nx
      go_upto_region 5 with fail
      refine put5 (rb := s.r) (pb := w.heap.size) (tb := tb) (fun bk w' => ∃ rc s'', rc.bk = bk ∧ OpN w base s H p (Rg.res sf L ++ [⟨id, x⟩]) rc s'' w') _ w5 _ rfl rfl rfl rfl CS.out ?_
      intro bk a' w6 hf ha
      subst ha
      simp only [Act.put, List.setIfInBounds_toArray, List.set_cons_zero, List.set_cons_succ]
      have HF := hidMk hf
      clear CS hf
      go_wp2
      go_ret
      obtain ⟨rc, s'', e, o⟩ := HF.out
      subst e
      exact ⟨rc, s'', rfl, o⟩
def rightC (x : VaV) : Bool := (x.f == 0) && (x.s.toList == ([] : List UInt8))
def sumV (n : Int) (x : VaV) : VaV := if x.k = 7 ∧ rightC x = true then { x with n := IntKind.i64.wrap (x.n + n) } else x
theorem wrap_ok (z : Int) : -9223372036854775808 ≤ IntKind.i64.wrap z ∧ IntKind.i64.wrap z ≤ 9223372036854775807 := by rw [IntKind.wrap_i64]; omega
theorem sumV_ok {n : Int} {x : VaV} (h : x.ok) : (sumV n x).ok := by
  unfold sumV
  split
  · exact ⟨h.k0, h.k1, (wrap_ok _).1, (wrap_ok _).2, h.ff, h.ss⟩
  · exact h
theorem right7 (n : Int) (f : Nat) (t : ByteArray) (w : World) : Calls Tryd.prog 73 #[.agg #[.int .u8 7, .int .i64 n, .float .f64 f, .string t]] w fun e w' => e = .returned (.bool ((f == 0) && (t.toList == ([] : List UInt8)))) ∧ Below w.heap.size w w' := by
  obtain ⟨w1, hw1⟩ : ∃ w1, w.alloc (.cells #[.int .u8 7, .int .i64 n, .float .f64 f, .string t] 42) = w1 := ⟨_, rfl⟩
  have b1 : Below w.heap.size w w1 := by rw [← hw1]; exact (Below.refl _ _).alloc (Nat.le_refl _) _
  have n1 : w1.heap[w.heap.size]? = some (.cells #[.int .u8 7, .int .i64 n, .float .f64 f, .string t] 42 (0, 0)) := by rw [← hw1]; exact heap_alloc_new _ _
  have EB := hidMk (show (Instr.box 42 (.agg #[.int .u8 7, .int .i64 n, .float .f64 f, .string t])).run Tryd.prog w = .ok (.pointer (some ⟨w.heap.size, 0, none⟩)) w1 by rw [run_box, ← hw1]; rfl)
  have B1 := hidMk b1
  clear hw1 b1
  have c0 : w1.drew.cell? ⟨w.heap.size, 0, none⟩ = some (.int .u8 7) := (cell_of_row _ _ 0 _ _ _ n1).trans rfl
  have c1 : w1.drew.cell? ⟨w.heap.size, 1, none⟩ = some (.int .i64 n) := (cell_of_row _ _ 1 _ _ _ n1).trans rfl
  have c2 : w1.drew.cell? ⟨w.heap.size, 2, none⟩ = some (.float .f64 f) := (cell_of_row _ _ 2 _ _ _ n1).trans rfl
  have c3 : w1.drew.cell? ⟨w.heap.size, 3, none⟩ = some (.string t) := (cell_of_row _ _ 3 _ _ _ n1).trans rfl
  have d1 := hidMk (B1.out.drew)
  clear n1
  go_enter Tryd.func73, Tryd.ntmps73
  go_upto_region 1 with (first
    | (refine wpList_run rfl (exec_boxE (t := 42) (v := .agg #[.int .u8 7, .int .i64 n, .float .f64 f, .string t]) (u := .pointer (some ⟨w.heap.size, 0, none⟩)) (w2 := w1) rfl rfl EB.out) ?_)
    | fail)
  refine right1 (bx := w.heap.size) (f := f) (n := n) (t := t) _ w1 _ rfl rfl ?_ ?_ ?_ ?_
  · rintro W rfl; go_simp
  · rintro W rfl; go_simp
  · rintro W rfl; go_simp
  intro a' w' hw' ha
  subst ha
  subst hw'
  simp only [Act.put, List.setIfInBounds_toArray, List.set_cons_zero, List.set_cons_succ]
  clear c1 c2 c3 EB
  generalize w1.drew = w2 at *
  generalize e2 : (t.toList == ([] : List UInt8)) = q2
  generalize (n == 0) = q0
  generalize e1 : (f == 0) = q1
  have E1 := hidMk e1
  have E2 := hidMk e2
  clear e1 e2
  cases q1
  all_goals
    go_wp2
    go_ret
    exact ⟨by rw [E1.out, E2.out]; rfl, d1.out⟩
theorem va_store {W : World} {b : Nat} {x u : VaV} (h : W.heap[b]? = some (.cells x.c.toArray 42 (0, 0))) : (Instr.storeAt 42 (.pointer (some ⟨b, 0, none⟩)) u.v).run Tryd.prog W = .ok () (W.setRow b u.c.toArray) := by
  have e2 := run_storeVar_row (P := Tryd.prog) W b 42 42 x.c.toArray u.c.toArray h szVa rfl (by rw [List.all_toArray, List.all_eq_true]; exact u.one)
  simp only [Instr.storeAt, Instr.sureAddr, Sem.run_bind, Sem.run_pure, Result.andThen_ok, VaV.v, e2]
theorem sum_any {x : VaV} (hx : x.ok) {n : Int} (hn : -9223372036854775808 ≤ n ∧ n ≤ 9223372036854775807) (w : World) : Calls Tryd.prog 57 #[x.v, .int .i64 n] w fun e w' => e = .returned (sumV n x).v ∧ Below w.heap.size w w' := by
  obtain ⟨k, m, f, t⟩ := x
  have hk0 := hx.k0
  have hk1 := hx.k1
  simp only at hk0 hk1
  obtain ⟨b, hb⟩ : ∃ b, w.heap.size = b := ⟨_, rfl⟩
  have RI := hidMk (right7 m f t)
  have B0 : Below b w (w.alloc (.cells #[.int .u8 k, .int .i64 m, .float .f64 f, .string t] 42)) := (Below.refl _ _).alloc (by omega) _
  have n1 : (w.alloc (.cells #[.int .u8 k, .int .i64 m, .float .f64 f, .string t] 42)).heap[b]? = some (.cells #[.int .u8 k, .int .i64 m, .float .f64 f, .string t] 42 (0, 0)) := by rw [← hb]; exact heap_alloc_new _ _
  have EB := hidMk (show (Instr.box 42 (.agg #[.int .u8 k, .int .i64 m, .float .f64 f, .string t])).run Tryd.prog w = .ok (.pointer (some ⟨b, 0, none⟩)) (w.alloc (.cells #[.int .u8 k, .int .i64 m, .float .f64 f, .string t] 42)) by rw [run_box, ← hb]; rfl)
  generalize w.alloc (.cells #[.int .u8 k, .int .i64 m, .float .f64 f, .string t] 42) = w1 at *
  have l1 : b < w1.heap.size := (Array.getElem?_eq_some_iff.1 n1).1
  have B2 : Below b w1 (w1.alloc (.cells #[.int .u8 0, .int .i64 0, .float .f64 0, .string ⟨#[]⟩] 42)) := (Below.refl _ _).alloc (by omega) _
  have n2 : (w1.alloc (.cells #[.int .u8 0, .int .i64 0, .float .f64 0, .string ⟨#[]⟩] 42)).heap[w1.heap.size]? = some (.cells #[.int .u8 0, .int .i64 0, .float .f64 0, .string ⟨#[]⟩] 42 (0, 0)) := heap_alloc_new _ _
  have n1' : (w1.alloc (.cells #[.int .u8 0, .int .i64 0, .float .f64 0, .string ⟨#[]⟩] 42)).heap[b]? = some (.cells #[.int .u8 k, .int .i64 m, .float .f64 f, .string t] 42 (0, 0)) := (((Below.refl _ w1).alloc (Nat.le_refl _) _).block b l1).trans n1
  have EA := hidMk (show (Instr.alloc 42 true (.tuple #[])).run Tryd.prog w1 = .ok (.pointer (some ⟨w1.heap.size, 0, none⟩)) (w1.alloc (.cells #[.int .u8 0, .int .i64 0, .float .f64 0, .string ⟨#[]⟩] 42)) by kernel_rfl)
  obtain ⟨b2, hb2⟩ : ∃ b, w1.heap.size = b := ⟨_, rfl⟩
  rw [hb2] at EA n2 l1
  generalize w1.alloc (.cells #[.int .u8 0, .int .i64 0, .float .f64 0, .string ⟨#[]⟩] 42) = w2 at *
  have B02 := hidMk (B0.trans B2)
  have hne : b ≠ b2 := by omega
  have N1 := hidMk n1'
  have N2 := hidMk n2
  have HB := hidMk hb
  have HX := hidMk hx
  have HN := hidMk hn
  clear B0 B2 n1 n2 n1' hb hb2 hx hn
  show Calls Tryd.prog 57 #[.agg #[.int .u8 k, .int .i64 m, .float .f64 f, .string t], .int .i64 n] w _
  have c0 : w2.cell? ⟨b, 0, none⟩ = some (.int .u8 k) := (cell_of_row _ _ 0 _ _ _ N1.out).trans rfl
  have c1 : w2.cell? ⟨b, 1, none⟩ = some (.int .i64 m) := (cell_of_row _ _ 1 _ _ _ N1.out).trans rfl
  have c2 : w2.cell? ⟨b, 2, none⟩ = some (.float .f64 f) := (cell_of_row _ _ 2 _ _ _ N1.out).trans rfl
  have c3 : w2.cell? ⟨b, 3, none⟩ = some (.string t) := (cell_of_row _ _ 3 _ _ _ N1.out).trans rfl
  have LB : Hid (b ≤ w2.heap.size) := Nat.le_of_lt (Array.getElem?_eq_some_iff.1 N1.out).1
  have FINV : Hid (∀ (W : World) (x : VaV), Below b w W → W.heap[b2]? = some (.cells #[.int .u8 0, .int .i64 0, .float .f64 0, .string ⟨#[]⟩] 42 (0, 0)) → ∃ W', (Instr.storeAt 42 (.pointer (some ⟨b2, 0, none⟩)) x.v).run Tryd.prog W = .ok () W' ∧ W'.heap[b2]? = some (.cells x.c.toArray 42 (0, 0)) ∧ Below b w W') := by
    intro W x bW hW
    refine ⟨_, va_store (x := zVa) (u := x) hW, setRow_heap W b2 _ _ _ _ hW, bW.trans ((setRow_tch W b2 _).below (by have := bW.size; have := HB.out; omega) (fun j e => by simp at e; omega))⟩
  obtain ⟨q, hq⟩ : ∃ q, ((f == 0) && (t.toList == ([] : List UInt8))) = q := ⟨_, rfl⟩
  rw [hq] at RI
  have HQ := hidMk hq
  clear hq
  by_cases hk : k = 7
  · subst hk
    go_enter Tryd.func57, Tryd.ntmps57
    cases q
    · go_upto_region 3 with (first
        | (refine wpList_run rfl (exec_boxE (t := 42) (v := .agg #[.int .u8 7, .int .i64 m, .float .f64 f, .string t]) (u := .pointer (some ⟨b, 0, none⟩)) (w2 := w1) rfl rfl EB.out) ?_)
        | (refine wpList_run rfl (exec_alloc (w2 := w2) rfl EA.out) ?_)
        | (go_at_call 73; refine (RI.out _).mono ?_; rintro e w3 ⟨rfl, b3⟩; have N31 := hidMk ((b3.block b (Array.getElem?_eq_some_iff.1 N1.out).1).trans N1.out); have N32 := hidMk ((b3.block b2 (Array.getElem?_eq_some_iff.1 N2.out).1).trans N2.out); have B03 := hidMk (B02.out.trans (b3.mono LB.out)); clear b3 c0 c1 c2 c3)
        | fail)
      obtain ⟨w5, es, n5, b5⟩ := FINV.out w3 ⟨7, m, f, t⟩ B03.out N32.out
      refine sum3 (bx := b) (rx := b2) (x := ⟨7, m, f, t⟩) (w1 := w5) _ w3 _ rfl rfl rfl (fun W e => by rw [e]; exact ld_va (rng_cells N31.out)) es ?_
      intro a' w' hw' ha
      subst ha
      subst hw'
      simp only [Act.put, List.setIfInBounds_toArray, List.set_cons_zero, List.set_cons_succ]
      go_wp2
      refine bodyPost_ret (results_cell_row Tryd.results57 _ _ b2 _ _ _ _ rfl n5 Tryd.underlying42 rfl szVa) rfl ?_
      refine ⟨?_, by rw [HB.out]; exact b5⟩
      rw [sumV, if_neg]
      · rfl
      · rintro ⟨_, h⟩
        have := HQ.out
        unfold rightC at h
        rw [this] at h
        cases h
    · go_upto_region 2 with (first
        | (refine wpList_run rfl (exec_boxE (t := 42) (v := .agg #[.int .u8 7, .int .i64 m, .float .f64 f, .string t]) (u := .pointer (some ⟨b, 0, none⟩)) (w2 := w1) rfl rfl EB.out) ?_)
        | (refine wpList_run rfl (exec_alloc (w2 := w2) rfl EA.out) ?_)
        | (go_at_call 73; refine (RI.out _).mono ?_; rintro e w3 ⟨rfl, b3⟩; have N31 := hidMk ((b3.block b (Array.getElem?_eq_some_iff.1 N1.out).1).trans N1.out); have N32 := hidMk ((b3.block b2 (Array.getElem?_eq_some_iff.1 N2.out).1).trans N2.out); have B03 := hidMk (B02.out.trans (b3.mono LB.out)); clear b3 c0 c1 c2 c3)
        | fail)
      have c1 : w3.cell? ⟨b, 1, none⟩ = some (.int .i64 m) := (cell_of_row _ _ 1 _ _ _ N31.out).trans rfl
      have f1 := frozen_of_row w3 b 1 _ _ N31.out
      refine sum2 (bx := b) (n := n) (m := m) (w1 := w3.setCell ⟨b, 1, none⟩ (.int .i64 (IntKind.i64.wrap (m + n)))) _ w3 _ rfl rfl rfl (fun W e => by rw [e]; go_simp) (by go_simp) ?_
      intro a' w' hw' ha
      subst ha
      have N41 := hidMk ((Go.heap_setCell_same w3 b 1 _ 42 (.int .i64 (IntKind.i64.wrap (m + n))) N31.out))
      have N42 : Hid ((w3.setCell ⟨b, 1, none⟩ (.int .i64 (IntKind.i64.wrap (m + n)))).heap[b2]? = _) := (Go.heap_setCell_other _ _ _ _ (fun e => hne e.symm)).trans N32.out
      have B04 : Hid (Below b w (w3.setCell ⟨b, 1, none⟩ (.int .i64 (IntKind.i64.wrap (m + n))))) := B03.out.trans (Tch.below (B := b) (show Tch (fun j => j = b) w3 (w3.setCell ⟨b, 1, none⟩ (.int .i64 (IntKind.i64.wrap (m + n)))) from ⟨rfl, rfl, rfl, by simp [World.setCell], fun j _ hj => Go.heap_setCell_other _ _ _ _ hj⟩) (by have := B03.out.size; have := HB.out; omega) (fun j e => by rw [e]; exact Nat.le_refl _))
      rw [← hw'] at N41 N42 B04
      clear hw' c1 f1
      simp only [Act.put, List.setIfInBounds_toArray, List.set_cons_zero, List.set_cons_succ]
      obtain ⟨w5, es, n5, b5⟩ := FINV.out w' ⟨7, IntKind.i64.wrap (m + n), f, t⟩ B04.out N42.out
      go_upto_region 3 with fail
      refine sum3 (bx := b) (rx := b2) (x := ⟨7, IntKind.i64.wrap (m + n), f, t⟩) (w1 := w5) _ w' _ rfl rfl rfl (fun W e => by rw [e]; exact ld_va (rng_cells N41.out)) es ?_
      intro a' w' hw' ha
      subst ha
      subst hw'
      simp only [Act.put, List.setIfInBounds_toArray, List.set_cons_zero, List.set_cons_succ]
      go_wp2
      refine bodyPost_ret (results_cell_row Tryd.results57 _ _ b2 _ _ _ _ rfl n5 Tryd.underlying42 rfl szVa) rfl ?_
      refine ⟨?_, by rw [HB.out]; exact b5⟩
      rw [sumV, if_pos ⟨rfl, HQ.out⟩]
      rfl
  · have hk' : (k == 7) = false := by simpa using hk
    go_enter Tryd.func57, Tryd.ntmps57
    go_upto_region 3 with (first
      | (refine wpList_run rfl (exec_boxE (t := 42) (v := .agg #[.int .u8 k, .int .i64 m, .float .f64 f, .string t]) (u := .pointer (some ⟨b, 0, none⟩)) (w2 := w1) rfl rfl EB.out) ?_)
      | (refine wpList_run rfl (exec_alloc (w2 := w2) rfl EA.out) ?_)
      | fail)
    obtain ⟨w5, es, n5, b5⟩ := FINV.out w2 ⟨k, m, f, t⟩ B02.out N2.out
    refine sum3 (bx := b) (rx := b2) (x := ⟨k, m, f, t⟩) (w1 := w5) _ w2 _ rfl rfl rfl (fun W e => by rw [e]; exact ld_va (rng_cells N1.out)) es ?_
    intro a' w' hw' ha
    subst ha
    subst hw'
    simp only [Act.put, List.setIfInBounds_toArray, List.set_cons_zero, List.set_cons_succ]
    clear c0 c1 c2 c3
    go_wp2
    refine bodyPost_ret (results_cell_row Tryd.results57 _ _ b2 _ _ _ _ rfl n5 Tryd.underlying42 rfl szVa) rfl ?_
    exact ⟨by rw [sumV, if_neg (fun h => hk h.1)]; rfl, by rw [HB.out]; exact b5⟩
theorem va_boxes (w : World) (x : VaV) : ∃ w1 w2 b b2, b = w.heap.size ∧ b < b2 ∧ (Instr.box 42 x.v).run Tryd.prog w = .ok (.pointer (some ⟨b, 0, none⟩)) w1 ∧ (Instr.alloc 42 true (.tuple #[])).run Tryd.prog w1 = .ok (.pointer (some ⟨b2, 0, none⟩)) w2 ∧ w2.heap[b]? = some (.cells x.c.toArray 42 (0, 0)) ∧ w2.heap[b2]? = some (.cells zVa.c.toArray 42 (0, 0)) ∧ Below w.heap.size w w2 := by
  have B0 : Below w.heap.size w (w.alloc (.cells x.c.toArray 42)) := (Below.refl _ _).alloc (Nat.le_refl _) _
  have n1 : (w.alloc (.cells x.c.toArray 42)).heap[w.heap.size]? = some (.cells x.c.toArray 42 (0, 0)) := heap_alloc_new _ _
  have EB : (Instr.box 42 x.v).run Tryd.prog w = .ok (.pointer (some ⟨w.heap.size, 0, none⟩)) (w.alloc (.cells x.c.toArray 42)) := by rw [run_box]; rfl
  generalize w.alloc (.cells x.c.toArray 42) = w1 at *
  have l1 := (Array.getElem?_eq_some_iff.1 n1).1
  have B2 : Below w1.heap.size w1 (w1.alloc (.cells zVa.c.toArray 42)) := (Below.refl _ _).alloc (Nat.le_refl _) _
  exact ⟨w1, w1.alloc (.cells zVa.c.toArray 42), w.heap.size, w1.heap.size, rfl, l1, EB, by kernel_rfl, (B2.block _ l1).trans n1, heap_alloc_new _ _, B0.trans (B2.mono B0.size)⟩
theorem turns_add {w : World} {nb : Nat} {n : Int} (hn : -9223372036854775808 ≤ n ∧ n ≤ 9223372036854775807) (hb : w.heap[nb]? = some (.cells #[.int .i64 n] 2 (0, 0))) : Turns w 56 #[.pointer (some ⟨nb, 0, none⟩)] (sumV n) := by
  refine ⟨enters_of Tryd.func56 (by kernel_rfl) rfl, fun W bW x hx => ?_, fun x hx => sumV_ok hx⟩
  obtain ⟨w1, w2, b, b2, eb, hlt, EB, EA, N1, N2, B2⟩ := va_boxes W x
  have hW := (bW.block nb (Array.getElem?_eq_some_iff.1 hb).1).trans hb
  have hW2 := (B2.block nb (Array.getElem?_eq_some_iff.1 hW).1).trans hW
  have HEB := hidMk EB
  have HEA := hidMk EA
  have CS : Hid (Calls Tryd.prog 57 #[x.v, .int .i64 n] w2 fun e w' => e = .returned (sumV n x).v ∧ ∃ w3, (Instr.storeAt 42 (.pointer (some ⟨b2, 0, none⟩)) (sumV n x).v).run Tryd.prog w' = .ok () w3 ∧ (w3.heap[b2]? = some (.cells (sumV n x).c.toArray 42 (0, 0)) ∧ Below W.heap.size W w3)) := by
    refine (sum_any hx hn w2).mono ?_
    rintro e w' ⟨rfl, b'⟩
    have N2' := (b'.block b2 (Array.getElem?_eq_some_iff.1 N2).1).trans N2
    have Bw := B2.trans (b'.mono B2.size)
    refine ⟨rfl, _, va_store (x := zVa) N2', setRow_heap w' b2 _ _ _ _ N2', Bw.trans ((setRow_tch w' b2 _).below Bw.size (fun j e => by simp at e; omega))⟩
  have LV : Hid ((Instr.loadAt 42 (.pointer (some ⟨b, 0, none⟩))).run Tryd.prog w2 = .ok x.v w2) := ld_va (rng_cells N1)
  have LN : Hid ((Instr.loadAt 2 (.pointer (some ⟨nb, 0, none⟩))).run Tryd.prog w2 = .ok (.int .i64 n) w2) := by
    have c0 : w2.cell? ⟨nb, 0, none⟩ = some (.int .i64 n) := (cell_of_row w2 nb 0 _ _ _ hW2).trans rfl
    have : (Instr.loadAt 2 (.pointer (some ⟨nb, 0, none⟩))).run Tryd.prog w2 = .ok (.int .i64 n) w2 := by go_simp
    exact this
  obtain ⟨y, hy⟩ : ∃ y, sumV n x = y := ⟨_, rfl⟩
  rw [hy] at CS ⊢
  clear hy EB EA N1 N2 B2 hW hW2 eb hlt hb bW
  show Calls Tryd.prog 56 #[x.v, .pointer (some ⟨nb, 0, none⟩)] W _
  go_enter Tryd.func56, Tryd.ntmps56
  go_upto_region 1 with (first
    | (refine wpList_run rfl (exec_boxE (t := 42) (v := x.v) (u := .pointer (some ⟨b, 0, none⟩)) (w2 := w1) rfl rfl HEB.out) ?_)
    | (refine wpList_run rfl (exec_alloc (w2 := w2) rfl HEA.out) ?_)
    | fail)
  refine adda1 (nb := nb) (bx := b) (rx := b2) (x := x) (y := y) (n := n) (fun w3 => w3.heap[b2]? = some (.cells y.c.toArray 42 (0, 0)) ∧ Below W.heap.size W w3) _ w2 _ rfl rfl rfl rfl (fun W' e => by rw [e]; exact LV.out) (fun W' e => by rw [e]; exact LN.out) CS.out ?_
  intro a' w' hw' ha
  subst ha
  simp only [Act.put, List.setIfInBounds_toArray, List.set_cons_zero, List.set_cons_succ]
  have HF := hidMk hw'
  clear hw' CS LV LN HEB HEA
  go_wp2
  refine bodyPost_ret (results_cell_row Tryd.results56 _ _ b2 _ _ _ _ rfl HF.out.1 Tryd.underlying42 rfl szVa) rfl ?_
  exact ⟨rfl, HF.out.2⟩
theorem turns_id (w : World) : Turns w 59 #[] (fun x => x) := by
  refine ⟨enters_of Tryd.func59 (by kernel_rfl) rfl, fun W bW x hx => ?_, fun x hx => hx⟩
  obtain ⟨w1, w2, b, b2, eb, hlt, EB, EA, N1, N2, B2⟩ := va_boxes W x
  have HEB := hidMk EB
  have HEA := hidMk EA
  have ES := hidMk (va_store (x := zVa) (u := x) N2)
  have F2 := hidMk (And.intro (setRow_heap w2 b2 _ x.c.toArray _ _ N2) (B2.trans ((setRow_tch w2 b2 x.c.toArray).below B2.size (fun j e => by simp at e; omega))))
  have LV : Hid ((Instr.loadAt 42 (.pointer (some ⟨b, 0, none⟩))).run Tryd.prog w2 = .ok x.v w2) := ld_va (rng_cells N1)
  clear EB EA N1 N2 B2 eb hlt bW
  generalize w2.setRow b2 x.c.toArray = w3 at *
  show Calls Tryd.prog 59 #[x.v] W _
  go_enter Tryd.func59, Tryd.ntmps59
  go_upto_region 1 with (first
    | (refine wpList_run rfl (exec_boxE (t := 42) (v := x.v) (u := .pointer (some ⟨b, 0, none⟩)) (w2 := w1) rfl rfl HEB.out) ?_)
    | (refine wpList_run rfl (exec_alloc (w2 := w2) rfl HEA.out) ?_)
    | fail)
  refine addi1 (bx := b) (rx := b2) (x := x) (w1 := w3) _ w2 _ rfl rfl rfl (fun W' e => by rw [e]; exact LV.out) ES.out ?_
  intro a' w' hw' ha
  subst ha
  subst hw'
  simp only [Act.put, List.setIfInBounds_toArray, List.set_cons_zero, List.set_cons_succ]
  clear LV HEB HEA ES
  go_wp2
  refine bodyPost_ret (results_cell_row Tryd.results59 _ _ b2 _ _ _ _ rfl F2.out.1 Tryd.underlying42 rfl szVa) rfl ?_
  exact ⟨rfl, F2.out.2⟩
theorem ch_all (sn : EnV → Bool) (gv : VaV → VaV) (L : List EnV) : Rg.ch (chg gv) L (Rg.hadI sn 0 L) = chs sn gv L := by
  have := Rg.ch_had sn (chg gv) id L []
  simpa [chs] using this
theorem ch_back (sn : EnV → Bool) (gv : VaV → VaV) (L : List EnV) : Rg.ch (chg (fun x => x)) (chs sn gv L) (Rg.hadI sn 0 L) = L := by
  have h := Rg.ch_had sn (chg (fun x => x)) (fun x => if sn x then chg gv x x else x) L []
  have e : (fun x => if sn x = true then chg (fun x => x) (if sn x = true then chg gv x x else x) x else if sn x = true then chg gv x x else x) = fun x : EnV => x := by
    funext x
    by_cases h : sn x = true
    · rw [if_pos h, if_pos h]; rfl
    · rw [if_neg h, if_neg h]
  rw [List.nil_append, List.nil_append, e, List.map_id'] at h
  exact h
theorem chs_ok {sn : EnV → Bool} {gv : VaV → VaV} (hg : ∀ x : VaV, x.ok → (gv x).ok) {L : List EnV} (ok : ∀ x ∈ L, x.ok) : ∀ x ∈ chs sn gv L, x.ok := fun x hx => by
  obtain ⟨y, hy, rfl⟩ := List.mem_map.1 hx
  split
  · exact ⟨(ok y hy).i, hg _ (ok y hy).w⟩
  · exact ok y hy
theorem chs_len (sn : EnV → Bool) (gv : VaV → VaV) (L : List EnV) : (chs sn gv L).length = L.length := by simp [chs]
theorem then_lay {w4 W : World} {base : Nat} {s : Rs} (m4 : RgM w4 base s) (ko : KeysOk s.K s.P) (hb : base ≤ w4.heap.size) {p : PlK} (hp : p.ok) {v : Value} {R : List EnV} (lo : RN.Lo W base v R) (ok : ∀ y ∈ R, y.ok) (b : Below w4.heap.size w4 W) (rel : (v.ownBlock = (lvOf s.P p).ownBlock ∧ Win w4 s v) ∨ ∀ k, v.ownBlock = some k → w4.heap.size ≤ k) :
    S4 s w4 W ∧ Calls Tryd.prog 49 #[.pointer (some ⟨s.r, 0, none⟩), p.v, v] W fun e w5 => e = .returned (.tuple #[]) ∧ S4 s w4 w5 ∧ ∃ s', ONxt w4 base s p R s' w5 := by
  have m := m4.below b
  refine ⟨S4.of (tch_of b _) m, ?_⟩
  refine (lay_new (w0 := w4) m ko (Nat.le_trans hb b.size) hp lo ok (tch_of b _) (fun j hj => m4.allLt hj) rel (EH.below b)).mono ?_
  rintro e w5 ⟨rfl, s', n⟩
  exact ⟨rfl, S4.nx n, s', n⟩
theorem op_lp {w4 : World} {base : Nat} {s : Rs} (m4 : RgM w4 base s) {p : PlK} (hp : p.ok) {pb : Nat} (k1 : w4.heap[pb]? = some (.cells p.c.toArray 52 (0, 0))) : ∀ W, S4 s w4 W → (Instr.loadAt 52 (.pointer (some ⟨pb, 0, none⟩))).run Tryd.prog W = .ok p.v W := fun W hW => ld_pl hp (rng_cells (hW.ld m4 k1 (by decide) (by decide)))
theorem op_lt {w4 : World} {base b2 : Nat} {s : Rs} (m4 : RgM w4 base s) {tb : Nat} {tv : Value} {T : List (Nat × EnV)} (hb : w4.heap[tb]? = some (.cells #[tv] 101 (0, 0))) (hl : RD.Lo w4 b2 tv T) : ∀ W, S4 s w4 W → (Instr.loadAt 101 (.pointer (some ⟨tb, 0, none⟩))).run Tryd.prog W = .ok tv W := fun W hW => by
  have hk := hW.ld m4 hb (by decide) (by decide)
  obtain ⟨ta, tn, tc, et⟩ : ∃ ta tn tc, tv = .slice ta tn tc := by
    rcases hl with ⟨e, _⟩ | ⟨g, cap, cur, e, _⟩
    · exact ⟨_, _, _, e⟩
    · exact ⟨_, _, _, e⟩
  rw [et] at hk ⊢
  exact ld_sdl hk
def OpF (w : World) (base : Nat) (s : Rs) (H : List Rec) (p : PlK) (L : List EnV) (bk : Nat) (w' : World) : Prop := ∃ rc s'', rc.bk = bk ∧ OpN w base s H p L rc s'' w'
theorem op_fin {w w4 w5 : World} {base : Nat} {s s' : Rs} {H : List Rec} (h : RgAt w base s H) (b4 : Below w.heap.size w w4) {p : PlK} (hp : p.ok) {pb tb F : Nat} {tv : Value} {T : List (Nat × EnV)} {L : List EnV} (kp : w4.heap[pb]? = some (.cells p.c.toArray 52 (0, 0))) (kt : w4.heap[tb]? = some (.cells #[tv] 101 (0, 0))) (kl : RD.Lo w4 0 tv T) (nx : ONxt w4 base s p L s' w5) (hn : (liOf s.P p).length ≤ 2500000000000) (did : ∀ bk, (⟨bk, F, pb, tb, p, tv, T, liOf s.P p, L⟩ : Rec).did) :
    Calls Tryd.prog 51 #[.pointer (some ⟨s.r, 0, none⟩), .func (.func F) #[] #[.pointer (some ⟨pb, 0, none⟩), .pointer (some ⟨tb, 0, none⟩)]] w5 fun e w' => ∃ bk, e = .returned (.pointer (some ⟨bk, 0, none⟩)) ∧ OpF w base s H p L bk w' := by
  rw [← nx.r]
  refine (step_any nx.mem F #[.pointer (some ⟨pb, 0, none⟩), .pointer (some ⟨tb, 0, none⟩)]).mono ?_
  rintro e w6 ⟨rfl, hst⟩
  exact ⟨_, rfl, _, _, rfl, op_done h b4 hp kp kt kl nx hst hn (did _)⟩
structure OpK (w w3 : World) (base : Nat) (s : Rs) (H : List Rec) (p : PlK) (pb : Nat) (sf : EnV → Bool) : Prop where
  l3 : (∀ W, Below w3.heap.size w3 W → (Instr.loadAt 81 (.pointer (some ⟨s.r, 0 + 0, none⟩))).run Tryd.prog W = .ok (.map (some s.bp)) W) ∧ (∀ W, Below w3.heap.size w3 W → (Instr.loadAt 52 (.pointer (some ⟨pb, 0, none⟩))).run Tryd.prog W = .ok p.v W) ∧ (∀ W, Below w3.heap.size w3 W → (Instr.lookup 81 (.map (some s.bp)) p.v false).run Tryd.prog W = .ok (lvOf s.P p) W)
  l4 : ∀ tb tv w4, HadN w3 (Rg.hadI sf 0 (liOf s.P p)) tb tv w4 → (∀ W, S4 s w4 W → (Instr.loadAt 52 (.pointer (some ⟨pb, 0, none⟩))).run Tryd.prog W = .ok p.v W) ∧ (∀ W, S4 s w4 W → (Instr.loadAt 101 (.pointer (some ⟨tb, 0, none⟩))).run Tryd.prog W = .ok tv W) ∧ S4 s w4 w4.drew ∧ (Instr.lookup 81 (.map (some s.bp)) p.v false).run Tryd.prog w4.drew = .ok (lvOf s.P p) w4.drew ∧ RgM w4 base s ∧ base ≤ w4.heap.size
  fin : ∀ F L, (∀ bk tb tv, (⟨bk, F, pb, tb, p, tv, Rg.hadI sf 0 (liOf s.P p), liOf s.P p, L⟩ : Rec).did) → ∀ tb tv w4 w5 s', HadN w3 (Rg.hadI sf 0 (liOf s.P p)) tb tv w4 → ONxt w4 base s p L s' w5 → Calls Tryd.prog 51 #[.pointer (some ⟨s.r, 0, none⟩), .func (.func F) #[] #[.pointer (some ⟨pb, 0, none⟩), .pointer (some ⟨tb, 0, none⟩)]] w5 fun e w' => ∃ bk, e = .returned (.pointer (some ⟨bk, 0, none⟩)) ∧ OpF w base s H p L bk w'
theorem OpK.mk' {w w3 : World} {base : Nat} {s : Rs} {H : List Rec} (h : RgAt w base s H) (hb : base ≤ w.heap.size) (b3 : Below w.heap.size w w3) {p : PlK} (hp : p.ok) {pb : Nat} (nA3 : w3.heap[pb]? = some (.cells p.c.toArray 52 (0, 0))) (hn : (liOf s.P p).length ≤ 2500000000000) (sf : EnV → Bool) : OpK w w3 base s H p pb sf := by
  have h3 := h.below b3
  refine ⟨⟨fun W b => ?_, fun W b => ?_, fun W b => (h3.mem.below b).lookP p hp⟩, fun tb tv w4 hd => ?_, fun F L did tb tv w4 w5 s' hd nx => ?_⟩
  · have := (h3.mem.below b).c0
    go_simp
  · exact ld_pl hp (rng_cells ((b.block _ (Array.getElem?_eq_some_iff.1 nA3).1).trans nA3))
  · have m4 := h3.mem.below hd.bel
    have k1 := (hd.bel.block _ (Array.getElem?_eq_some_iff.1 nA3).1).trans nA3
    exact ⟨op_lp m4 hp k1, op_lt m4 hd.b hd.l, S4.of (tch_of (Below.refl w4.heap.size w4).drew _) (m4.below (Below.refl w4.heap.size w4).drew), (m4.below (Below.refl w4.heap.size w4).drew).lookP p hp, m4, by have := hd.bel.size; have := b3.size; omega⟩
  · have k1 := (hd.bel.block _ (Array.getElem?_eq_some_iff.1 nA3).1).trans nA3
    exact op_fin h (b3.trans (hd.bel.mono b3.size)) hp k1 hd.b (hd.l.mono (Nat.zero_le _)) nx hn (fun bk => did bk tb tv)
set_option maxHeartbeats 8000000 in
theorem delete_any {w : World} {base : Nat} {s : Rs} {H : List Rec} (h : RgAt w base s H) (hb : base ≤ w.heap.size) {p : PlK} (hp : p.ok) {fv : Value} {sn : IdK → Bool} (hs : Seen w fv sn) (hn : (liOf s.P p).length ≤ 2500000000000) :
    Calls Tryd.prog 17 #[.pointer (some ⟨s.r, 0, none⟩), p.v, fv] w (OpE w base s H p (Rg.res (fun y => sn y.id) (liOf s.P p))) := by
  have bA : Below w.heap.size w (w.alloc (.cells p.c.toArray 52)) := (Below.refl _ _).alloc (Nat.le_refl _) _
  have nA : (w.alloc (.cells p.c.toArray 52)).heap[w.heap.size]? = some (.cells p.c.toArray 52 (0, 0)) := heap_alloc_new _ _
  have EA := hidMk (show (Instr.box 52 p.v).run Tryd.prog w = .ok (.pointer (some ⟨w.heap.size, 0, none⟩)) (w.alloc (.cells p.c.toArray 52)) by rw [run_box]; rfl)
  generalize w.alloc (.cells p.c.toArray 52) = w3 at *
  obtain ⟨pb, hpb⟩ : ∃ pb, w.heap.size = pb := ⟨_, rfl⟩
  have h3 := h.below bA
  have okL := (h.mem.list p).2
  obtain ⟨CA, y1, EY, SY, CB⟩ := had_box (h3.mem.list p).1 okL hn (hs.below bA)
  obtain ⟨sf, hsf⟩ : ∃ sf : EnV → Bool, (fun y : EnV => sn y.id) = sf := ⟨_, rfl⟩
  rw [hsf] at CA CB ⊢
  have OK := hidMk (OpK.mk' h hb bA hp nA hn sf)
  rw [hpb] at OK EA
  have TAIL : Hid (∀ tb tv w4, HadN w3 (Rg.hadI sf 0 (liOf s.P p)) tb tv w4 → Calls Tryd.prog 50 #[lvOf s.P p, tv] w4.drew fun e w' => ∃ u, e = .returned u ∧ S4 s w4 w' ∧ Calls Tryd.prog 49 #[.pointer (some ⟨s.r, 0, none⟩), p.v, u] w' fun e w5 => e = .returned (.tuple #[]) ∧ S4 s w4 w5 ∧ ∃ s', ONxt w4 base s p (Rg.res sf (liOf s.P p)) s' w5) := by
    intro tb tv w4 hd
    obtain ⟨_, _, _, _, m4, hb4⟩ := OK.out.l4 tb tv w4 hd
    have bd : Below w4.heap.size w4 w4.drew := (Below.refl w4.heap.size w4).drew
    refine (without_all (base := base) (sn := sf) ((m4.below bd).list p).1 okL hn (hd.l.below bd) hb4).mono ?_
    rintro e w' ⟨v1, rfl, lo1, b1, rel⟩
    exact ⟨v1, rfl, then_lay m4 h.key hb4 hp lo1 (fun y hy => okL y (List.mem_filter.1 hy).1) (bd.trans b1) (rel.imp (fun q => by rw [q.1]; exact ⟨rfl, win_lv⟩) id)⟩
  have DID : Hid (∀ bk tb tv, (⟨bk, 54, pb, tb, p, tv, Rg.hadI sf 0 (liOf s.P p), liOf s.P p, Rg.res sf (liOf s.P p)⟩ : Rec).did) := fun bk tb tv => ⟨sf, rfl, .inr (.inl ⟨rfl, rfl⟩)⟩
  have HCA := hidMk CA
  have HCB := hidMk CB
  have HEY := hidMk (And.intro EY SY)
  have S3d : Below w3.heap.size w3 w3.drew := (Below.refl w3.heap.size w3).drew
  clear CA CB EY SY okL h3 nA bA hsf h hs hpb
  go_enter Tryd.func17, Tryd.ntmps17
  go_upto_region 3 with (first
    | (refine wpList_run rfl (exec_boxE (t := 52) (v := p.v) (u := .pointer (some ⟨pb, 0, none⟩)) (w2 := w3) rfl rfl EA.out) ?_)
    | fail)
  clear EA
  refine del3 (rb := s.r) (mb := s.bp) (pb := pb) (tb2 := w3.heap.size) (p := p) (lv := lvOf s.P p) (y1 := y1) (fun W => Below w3.heap.size w3 W) (fun tb tv w' => HadN w3 (Rg.hadI sf 0 (liOf s.P p)) tb tv w') _ w3 _ rfl rfl rfl rfl S3d OK.out.l3.1 OK.out.l3.2.1 OK.out.l3.2.2 HCA.out HEY.out.1 HEY.out.2 HCB.out ?_ ?_
  rotate_left
  intro tv a' w4 hd ha
  obtain ⟨tb, htb⟩ : ∃ tb, w3.heap.size = tb := ⟨_, rfl⟩
  rw [htb] at hd ha
  rotate_left
  intro tv tb a' w4 hd ha
  all_goals
    subst ha
    simp only [Act.put, List.setIfInBounds_toArray, List.set_cons_zero, List.set_cons_succ]
    obtain ⟨k1, k2, k3, k4, _⟩ := OK.out.l4 tb tv w4 hd
    have HK := hidMk (And.intro k1 (And.intro k2 (And.intro k3 k4)))
    have HT := hidMk (TAIL.out tb tv w4 hd)
    have HD := hidMk hd
    clear k1 k2 k3 k4 hd
    go_upto_region 4 with fail
    refine del4 (rb := s.r) (mb := s.bp) (pb := pb) (tb := tb) (p := p) (lv := lvOf s.P p) (tv := tv) (S4 s w4) (fun w5 => ∃ s', ONxt w4 base s p (Rg.res sf (liOf s.P p)) s' w5) _ w4 _ rfl rfl rfl rfl HK.out.2.2.1 (fun W hW => hW.lr) HK.out.1 HK.out.2.1 HK.out.2.2.2 HT.out ?_
    intro u a' w5 hf ha
    subst ha
    simp only [Act.put, List.setIfInBounds_toArray, List.set_cons_zero, List.set_cons_succ]
    obtain ⟨s', nx⟩ := hf
    have CS := hidMk (OK.out.fin _ _ DID.out tb tv w4 w5 s' HD.out nx)
    clear HK HT nx
    go_upto_region 5 with fail
    refine del5 (rb := s.r) (pb := pb) (tb := tb) (OpF w base s H p (Rg.res sf (liOf s.P p))) _ w5 _ rfl rfl rfl rfl CS.out ?_
    intro bk a' w6 hf ha
    subst ha
    simp only [Act.put, List.setIfInBounds_toArray, List.set_cons_zero, List.set_cons_succ]
    have HF := hidMk hf
    clear CS hf
    go_wp2
    go_ret
    obtain ⟨rc, s'', e, o⟩ := HF.out
    subst e
    exact ⟨rc, s'', rfl, o⟩
set_option maxHeartbeats 8000000 in
theorem add_any {w : World} {base : Nat} {s : Rs} {H : List Rec} (h : RgAt w base s H) (hb : base ≤ w.heap.size) {p : PlK} (hp : p.ok) {n : Int} (hnn : -9223372036854775808 ≤ n ∧ n ≤ 9223372036854775807) {fv : Value} {sn : IdK → Bool} (hs : Seen w fv sn) (hn : (liOf s.P p).length ≤ 2500000000000) :
    Calls Tryd.prog 18 #[.pointer (some ⟨s.r, 0, none⟩), p.v, .int .i64 n, fv] w (OpE w base s H p (chs (fun y => sn y.id) (sumV n) (liOf s.P p))) := by
  have bA : Below w.heap.size w (w.alloc (.cells p.c.toArray 52)) := (Below.refl _ _).alloc (Nat.le_refl _) _
  have nA : (w.alloc (.cells p.c.toArray 52)).heap[w.heap.size]? = some (.cells p.c.toArray 52 (0, 0)) := heap_alloc_new _ _
  have EA := hidMk (show (Instr.box 52 p.v).run Tryd.prog w = .ok (.pointer (some ⟨w.heap.size, 0, none⟩)) (w.alloc (.cells p.c.toArray 52)) by rw [run_box]; rfl)
  generalize w.alloc (.cells p.c.toArray 52) = w1 at *
  have l1 := (Array.getElem?_eq_some_iff.1 nA).1
  have bB : Below w1.heap.size w1 (w1.alloc (.cells #[.int .i64 n] 2)) := (Below.refl _ _).alloc (Nat.le_refl _) _
  have nB : (w1.alloc (.cells #[.int .i64 n] 2)).heap[w1.heap.size]? = some (.cells #[.int .i64 n] 2 (0, 0)) := heap_alloc_new _ _
  have EB := hidMk (show (Instr.box 2 (.int .i64 n)).run Tryd.prog w1 = .ok (.pointer (some ⟨w1.heap.size, 0, none⟩)) (w1.alloc (.cells #[.int .i64 n] 2)) by rw [run_box]; rfl)
  obtain ⟨pb, hpb⟩ : ∃ pb, w.heap.size = pb := ⟨_, rfl⟩
  obtain ⟨nb, hnb⟩ : ∃ nb, w1.heap.size = nb := ⟨_, rfl⟩
  generalize w1.alloc (.cells #[.int .i64 n] 2) = w3 at *
  have b3 : Below w.heap.size w w3 := bA.trans (bB.mono bA.size)
  have nA3 : w3.heap[w.heap.size]? = some (.cells p.c.toArray 52 (0, 0)) := (bB.block _ l1).trans nA
  have h3 := h.below b3
  have okL := (h.mem.list p).2
  obtain ⟨CA, y1, EY, SY, CB⟩ := had_box (h3.mem.list p).1 okL hn (hs.below b3)
  obtain ⟨sf, hsf⟩ : ∃ sf : EnV → Bool, (fun y : EnV => sn y.id) = sf := ⟨_, rfl⟩
  rw [hsf] at CA CB ⊢
  have OK := hidMk (OpK.mk' h hb b3 hp nA3 hn sf)
  rw [hpb] at OK EA
  rw [hnb] at EB nB
  have TAIL : Hid (∀ tb tv w4, HadN w3 (Rg.hadI sf 0 (liOf s.P p)) tb tv w4 → Calls Tryd.prog 55 #[lvOf s.P p, tv, .func (.func 56) #[] #[.pointer (some ⟨nb, 0, none⟩)]] w4.drew fun e w' => ∃ u, e = .returned u ∧ S4 s w4 w' ∧ Calls Tryd.prog 49 #[.pointer (some ⟨s.r, 0, none⟩), p.v, u] w' fun e w5 => e = .returned (.tuple #[]) ∧ S4 s w4 w5 ∧ ∃ s', ONxt w4 base s p (chs sf (sumV n) (liOf s.P p)) s' w5) := by
    intro tb tv w4 hd
    obtain ⟨_, _, _, _, m4, hb4⟩ := OK.out.l4 tb tv w4 hd
    have bd : Below w4.heap.size w4 w4.drew := (Below.refl w4.heap.size w4).drew
    have kn : w4.drew.heap[nb]? = _ := (bd.block nb (Array.getElem?_eq_some_iff.1 ((hd.bel.block nb (Array.getElem?_eq_some_iff.1 nB).1).trans nB)).1).trans ((hd.bel.block nb (Array.getElem?_eq_some_iff.1 nB).1).trans nB)
    refine (changed_all (base := base) (sn := sf) (L := liOf s.P p) ((m4.below bd).list p).1 okL okL rfl hn (hd.l.below bd) hb4 (turns_add hnn kn)).mono ?_
    rintro e w' ⟨v1, rfl, lo1, b1, rel⟩
    rw [ch_all] at lo1
    exact ⟨v1, rfl, then_lay m4 h.key hb4 hp lo1 (chs_ok (fun x hx => sumV_ok hx) okL) (bd.trans b1) (rel.imp (fun q => by rw [q]; exact ⟨rfl, win_lv⟩) id)⟩
  have DID : Hid (∀ bk tb tv, (⟨bk, 58, pb, tb, p, tv, Rg.hadI sf 0 (liOf s.P p), liOf s.P p, chs sf (sumV n) (liOf s.P p)⟩ : Rec).did) := fun bk tb tv => ⟨sf, rfl, .inr (.inr ⟨rfl, _, rfl⟩)⟩
  have HCA := hidMk CA
  have HCB := hidMk CB
  have HEY := hidMk (And.intro EY SY)
  have S3d : Below w3.heap.size w3 w3.drew := (Below.refl w3.heap.size w3).drew
  clear CA CB EY SY okL h3 nA bA hsf h hs hpb hnb nB bB b3 nA3 l1
  obtain ⟨LL, hLL⟩ : ∃ LL, chs sf (sumV n) (liOf s.P p) = LL := ⟨_, rfl⟩
  rw [hLL] at TAIL DID ⊢
  clear hLL
  go_enter Tryd.func18, Tryd.ntmps18
  go_upto_region 3 with (first
    | (refine wpList_run rfl (exec_boxE (t := 52) (v := p.v) (u := .pointer (some ⟨pb, 0, none⟩)) (w2 := w1) rfl rfl EA.out) ?_)
    | (refine wpList_run rfl (exec_boxE (t := 2) (v := .int .i64 n) (u := .pointer (some ⟨nb, 0, none⟩)) (w2 := w3) rfl rfl EB.out) ?_)
    | fail)
  clear EA EB
  refine add3 (rb := s.r) (mb := s.bp) (pb := pb) (tb2 := w3.heap.size) (p := p) (lv := lvOf s.P p) (y1 := y1) (fun W => Below w3.heap.size w3 W) (fun tb tv w' => HadN w3 (Rg.hadI sf 0 (liOf s.P p)) tb tv w') _ w3 _ rfl rfl rfl rfl S3d OK.out.l3.1 OK.out.l3.2.1 OK.out.l3.2.2 HCA.out HEY.out.1 HEY.out.2 HCB.out ?_ ?_
  rotate_left
  intro tv a' w4 hd ha
  obtain ⟨tb, htb⟩ : ∃ tb, w3.heap.size = tb := ⟨_, rfl⟩
  rw [htb] at hd ha
  rotate_left
  intro tv tb a' w4 hd ha
  all_goals
    subst ha
    simp only [Act.put, List.setIfInBounds_toArray, List.set_cons_zero, List.set_cons_succ]
    obtain ⟨k1, k2, k3, k4, _⟩ := OK.out.l4 tb tv w4 hd
    have HK := hidMk (And.intro k1 (And.intro k2 (And.intro k3 k4)))
    have HT := hidMk (TAIL.out tb tv w4 hd)
    have HD := hidMk hd
    clear k1 k2 k3 k4 hd
    go_upto_region 4 with fail
    refine add4 (rb := s.r) (mb := s.bp) (pb := pb) (tb := tb) (p := p) (lv := lvOf s.P p) (tv := tv) (nb := nb) (S4 s w4) (fun w5 => ∃ s', ONxt w4 base s p LL s' w5) _ w4 _ rfl rfl rfl rfl rfl HK.out.2.2.1 (fun W hW => hW.lr) HK.out.1 HK.out.2.1 HK.out.2.2.2 HT.out ?_
    intro u a' w5 hf ha
    subst ha
    simp only [Act.put, List.setIfInBounds_toArray, List.set_cons_zero, List.set_cons_succ]
    obtain ⟨s', nx⟩ := hf
    have CS := hidMk (OK.out.fin _ _ DID.out tb tv w4 w5 s' HD.out nx)
    clear HK HT nx
    go_upto_region 5 with fail
    refine add5 (rb := s.r) (pb := pb) (tb := tb) (OpF w base s H p LL) _ w5 _ rfl rfl rfl rfl CS.out ?_
    intro bk a' w6 hf ha
    subst ha
    simp only [Act.put, List.setIfInBounds_toArray, List.set_cons_zero, List.set_cons_succ]
    have HF := hidMk hf
    clear CS hf
    go_wp2
    go_ret
    obtain ⟨rc, s'', e, o⟩ := HF.out
    subst e
    exact ⟨rc, s'', rfl, o⟩
def und5_o0 : Oper := ⟨some 17, .move (.tmp 1), 54, "regs.go:98", #[], none⟩
def und5_o1 : Oper := ⟨some 18, .nilCheck (.tmp 17), 0, "regs.go:98", #[⟨0, .data⟩], none⟩
def und5_o2 : Oper := ⟨some 19, .fieldAddr 111 (.tmp 18) 1, 0, "regs.go:98", #[⟨1, .data⟩], none⟩
def und5_o3 : Oper := ⟨some 20, .load 106 (.tmp 19), 106, "regs.go:98", #[⟨2, .data⟩], none⟩
def und5_o4 : Oper := ⟨some 21, .move (.tmp 0), 26, "regs.go:98", #[], none⟩
def und5_o5 : Oper := ⟨some 22, .call { callee := Callee.value (.tmp 20), args := #[.tmp 21], argTypes := #[26] }, 0, "regs.go:98", #[⟨3, .data⟩, ⟨4, .data⟩], none⟩
def und5_ops : Array Oper := #[und5_o0, und5_o1, und5_o2, und5_o3, und5_o4, und5_o5]
theorem und5 {rb bk F : Nat} {caps : Array Value} (Fin : World → Prop) (a : Act) (w : World) (Q : Exit → Act → World → Prop) (zz : a.tmps.size = 30)
    (t0 : a.tmps.getD 0 undef = .pointer (some ⟨rb, 0, none⟩))
    (t1 : a.tmps.getD 1 undef = .pointer (some ⟨bk, 0, none⟩))
    (V1 : ∀ W, W = w → (Instr.loadAt 106 (.pointer (some ⟨bk, 0 + 1, none⟩))).run Tryd.prog W = .ok (.func (.func F) #[] caps) W) (EN : ∀ vs W, (callFunc F vs).run Tryd.prog W = .ok (.enter F vs) W) (CB : Calls Tryd.prog F (#[.pointer (some ⟨rb, 0, none⟩)] ++ caps) w fun e w' => e = .returned (.tuple #[]) ∧ Fin w')
    (h : ∀ (a' : Act) (w' : World), Fin w' → a' = ((((((a).put (some 17) (.pointer (some ⟨bk, 0, none⟩))).put (some 18) (.pointer (some ⟨bk, 0, none⟩))).put (some 19) (.pointer (some ⟨bk, 0 + 1, none⟩))).put (some 20) (.func (.func F) #[] caps)).put (some 21) (.pointer (some ⟨rb, 0, none⟩))).put (some 22) (.tuple #[]) → Q .normal a' w') :
    (Code.region 5 und5_ops false).wp Tryd.prog Q a w := by
  refine z0 rfl ?_
  refine zv rfl (exec_move rfl (zi t1 rfl)) ?_
  refine zv rfl (exec_nilCheck rfl (zg zz rfl)) ?_
  refine zv rfl (exec_fieldAt rfl (zg zz rfl) (fg_111_1 _ _ _)) ?_
  refine zv rfl (exec_load rfl (zg zz rfl) (V1 _ rfl)) ?_
  refine zv rfl (exec_move rfl (zi t0 rfl)) ?_
  refine zc rfl (exec_cv1 rfl (zg zz rfl) (zg zz rfl) EN) (CB) (fun e x5 hx => ?_)
  obtain ⟨rfl, HF⟩ := hx
  refine ⟨_, rfl, ?_⟩
  exact ze rfl (h _ _ (HF) rfl)
def und6_o0 : Oper := ⟨some 23, .move (.tmp 0), 26, "regs.go:99", #[], none⟩
def und6_o1 : Oper := ⟨some 24, .move (.tmp 1), 54, "regs.go:99", #[], none⟩
def und6_o2 : Oper := ⟨some 25, .nilCheck (.tmp 24), 0, "regs.go:99", #[⟨1, .data⟩], none⟩
def und6_o3 : Oper := ⟨some 26, .fieldAddr 111 (.tmp 25) 0, 0, "regs.go:99", #[⟨2, .data⟩], none⟩
def und6_o4 : Oper := ⟨some 27, .load 54 (.tmp 26), 54, "regs.go:99", #[⟨3, .data⟩], none⟩
def und6_o5 : Oper := ⟨some 28, .nilCheck (.tmp 23), 0, "regs.go:99", #[⟨0, .data⟩, ⟨0, .phase⟩, ⟨1, .phase⟩, ⟨2, .phase⟩, ⟨3, .phase⟩, ⟨4, .phase⟩], none⟩
def und6_o6 : Oper := ⟨some 29, .fieldAddr 84 (.tmp 28) 2, 0, "regs.go:99", #[⟨5, .data⟩, ⟨0, .phase⟩, ⟨1, .phase⟩, ⟨2, .phase⟩, ⟨3, .phase⟩, ⟨4, .phase⟩], none⟩
def und6_o7 : Oper := ⟨none, .store 54 (.tmp 29) (.tmp 27), 0, "regs.go:99", #[⟨6, .data⟩, ⟨4, .data⟩, ⟨0, .phase⟩, ⟨1, .phase⟩, ⟨2, .phase⟩, ⟨3, .phase⟩, ⟨4, .phase⟩], none⟩
def und6_ops : Array Oper := #[und6_o0, und6_o1, und6_o2, und6_o3, und6_o4, und6_o5, und6_o6, und6_o7]
theorem und6 {rb bk : Nat} {la : Option Addr} {w1 : World} (a : Act) (w : World) (Q : Exit → Act → World → Prop) (zz : a.tmps.size = 30)
    (t0 : a.tmps.getD 0 undef = .pointer (some ⟨rb, 0, none⟩))
    (t1 : a.tmps.getD 1 undef = .pointer (some ⟨bk, 0, none⟩))
    (V1 : ∀ W, W = w → (Instr.loadAt 54 (.pointer (some ⟨bk, 0 + 0, none⟩))).run Tryd.prog W = .ok (.pointer la) W) (ES : (Instr.storeAt 54 (.pointer (some ⟨rb, 0 + 2, none⟩)) (.pointer la)).run Tryd.prog w = .ok () w1)
    (h : ∀ (a' : Act) (w' : World), w' = w1 → a' = (((((((a).put (some 23) (.pointer (some ⟨rb, 0, none⟩))).put (some 24) (.pointer (some ⟨bk, 0, none⟩))).put (some 25) (.pointer (some ⟨bk, 0, none⟩))).put (some 26) (.pointer (some ⟨bk, 0 + 0, none⟩))).put (some 27) (.pointer la)).put (some 28) (.pointer (some ⟨rb, 0, none⟩))).put (some 29) (.pointer (some ⟨rb, 0 + 2, none⟩)) → Q .normal a' w') :
    (Code.region 6 und6_ops false).wp Tryd.prog Q a w := by
  refine z0 rfl ?_
  refine zv rfl (exec_move rfl (zi t0 rfl)) ?_
  refine zv rfl (exec_move rfl (zi t1 rfl)) ?_
  refine zv rfl (exec_nilCheck rfl (zg zz rfl)) ?_
  refine zv rfl (exec_fieldAt rfl (zg zz rfl) (fg_111_0 _ _ _)) ?_
  refine zv rfl (exec_load rfl (zg zz rfl) (V1 _ rfl)) ?_
  refine zv rfl (exec_nilCheck rfl (zg zz rfl)) ?_
  refine zv rfl (exec_fieldAt rfl (zg zz rfl) (fg_84_2 _ _ _)) ?_
  refine zs rfl (exec_store rfl (zg zz rfl) (zg zz rfl) ES) ?_
  exact ze rfl (h _ _ (rfl) rfl)
def BrE (w : World) (base : Nat) (s : Rs) (p : PlK) (L : List EnV) (e : Ending) (w' : World) : Prop := e = .returned (.tuple #[]) ∧ ∃ s', ONxt w base s p L s' w'
set_option maxHeartbeats 8000000 in
theorem bring_del {w : World} {base : Nat} {s : Rs} {r : Rec} {la : Option Addr} (m : RgM w base s) (ko : KeysOk s.K s.P) (hb : base ≤ w.heap.size) (ra : r.at w la) {sn : EnV → Bool} (hT : r.T = Rg.hadI sn 0 r.bef) (hf : liOf s.P r.p = Rg.res sn r.bef) :
    Calls Tryd.prog 54 #[.pointer (some ⟨s.r, 0, none⟩), .pointer (some ⟨r.pb, 0, none⟩), .pointer (some ⟨r.tb, 0, none⟩)] w (BrE w base s r.p r.bef) := by
  have bd : Below w.heap.size w w.drew := (Below.refl w.heap.size w).drew
  have md := m.below bd
  have LP := hidMk (op_lp m ra.ok ra.p)
  have LT := hidMk (op_lt m ra.t ra.l)
  have S0 := hidMk (S4.of (tch_of bd _) md)
  have LK := hidMk (md.lookP r.p ra.ok)
  have CA : Hid (Calls Tryd.prog 53 #[lvOf s.P r.p, r.tv] w.drew fun e w' => ∃ u, e = .returned u ∧ S4 s w w' ∧ Calls Tryd.prog 49 #[.pointer (some ⟨s.r, 0, none⟩), r.p.v, u] w' fun e w5 => e = .returned (.tuple #[]) ∧ S4 s w w5 ∧ ∃ s', ONxt w base s r.p r.bef s' w5) := by
    refine (with_all (w := w.drew) (base := base) (sn := sn) (L := r.bef) (by rw [← hf]; exact (md.list r.p).1) ra.bok ra.bn (by rw [← hT]; exact ra.l.below bd) hb).mono ?_
    rintro e w' ⟨v, rfl, lo, b, rel⟩
    exact ⟨v, rfl, then_lay m ko hb ra.ok lo ra.bok (bd.trans b) (rel.imp (fun q => by rw [q]; exact ⟨rfl, win_lv⟩) id)⟩
  clear m md ra hT hf bd
  go_enter Tryd.func54, Tryd.ntmps54
  go_upto_region 0 with fail
  refine delb0 (rb := s.r) (mb := s.bp) (pb := r.pb) (tb := r.tb) (p := r.p) (lv := lvOf s.P r.p) (tv := r.tv) (S4 s w) (fun w5 => ∃ s', ONxt w base s r.p r.bef s' w5) _ w _ rfl rfl rfl rfl S0.out (fun W hW => hW.lr) LP.out LT.out LK.out CA.out ?_
  intro u a' w5 hf ha
  subst ha
  simp only [Act.put, List.setIfInBounds_toArray, List.set_cons_zero, List.set_cons_succ]
  have HF := hidMk hf
  clear hf CA LP LT S0 LK
  go_wp2
  go_end0
  exact ⟨rfl, HF.out⟩
set_option maxHeartbeats 8000000 in
theorem bring_add {w : World} {base : Nat} {s : Rs} {r : Rec} {la : Option Addr} (m : RgM w base s) (ko : KeysOk s.K s.P) (hb : base ≤ w.heap.size) (ra : r.at w la) {sn : EnV → Bool} {gv : VaV → VaV} (hT : r.T = Rg.hadI sn 0 r.bef) (hf : liOf s.P r.p = chs sn gv r.bef) :
    Calls Tryd.prog 58 #[.pointer (some ⟨s.r, 0, none⟩), .pointer (some ⟨r.pb, 0, none⟩), .pointer (some ⟨r.tb, 0, none⟩)] w (BrE w base s r.p r.bef) := by
  have bd : Below w.heap.size w w.drew := (Below.refl w.heap.size w).drew
  have md := m.below bd
  have LP := hidMk (op_lp m ra.ok ra.p)
  have LT := hidMk (op_lt m ra.t ra.l)
  have S0 := hidMk (S4.of (tch_of bd _) md)
  have LK := hidMk (md.lookP r.p ra.ok)
  have CA : Hid (Calls Tryd.prog 55 #[lvOf s.P r.p, r.tv, .func (.func 59) #[] #[]] w.drew fun e w' => ∃ u, e = .returned u ∧ S4 s w w' ∧ Calls Tryd.prog 49 #[.pointer (some ⟨s.r, 0, none⟩), r.p.v, u] w' fun e w5 => e = .returned (.tuple #[]) ∧ S4 s w w5 ∧ ∃ s', ONxt w base s r.p r.bef s' w5) := by
    have hl := md.list r.p
    rw [hf] at hl
    refine (changed_all (w := w.drew) (base := base) (sn := sn) (L := r.bef) (M := chs sn gv r.bef) hl.1 hl.2 ra.bok (chs_len ..) ra.bn (by rw [← hT]; exact ra.l.below bd) hb (turns_id w.drew)).mono ?_
    rintro e w' ⟨v, rfl, lo, b, rel⟩
    rw [ch_back] at lo
    exact ⟨v, rfl, then_lay m ko hb ra.ok lo ra.bok (bd.trans b) (rel.imp (fun q => by rw [q]; exact ⟨rfl, win_lv⟩) id)⟩
  clear m md ra hT hf bd
  go_enter Tryd.func58, Tryd.ntmps58
  go_upto_region 0 with fail
  refine addb0 (rb := s.r) (mb := s.bp) (pb := r.pb) (tb := r.tb) (p := r.p) (lv := lvOf s.P r.p) (tv := r.tv) (S4 s w) (fun w5 => ∃ s', ONxt w base s r.p r.bef s' w5) _ w _ rfl rfl rfl rfl S0.out (fun W hW => hW.lr) LP.out LT.out LK.out CA.out ?_
  intro u a' w5 hf ha
  subst ha
  simp only [Act.put, List.setIfInBounds_toArray, List.set_cons_zero, List.set_cons_succ]
  have HF := hidMk hf
  clear hf CA LP LT S0 LK
  go_wp2
  go_end0
  exact ⟨rfl, HF.out⟩
set_option maxHeartbeats 8000000 in
theorem bring_put {w : World} {base : Nat} {s : Rs} {r : Rec} {la : Option Addr} (m : RgM w base s) (ko : KeysOk s.K s.P) (hb : base ≤ w.heap.size) (ra : r.at w la) {sn : EnV → Bool} {x : EnV} (hT : r.T = Rg.hadI sn 0 r.bef) (hf : liOf s.P r.p = Rg.res sn r.bef ++ [x]) :
    Calls Tryd.prog 52 #[.pointer (some ⟨s.r, 0, none⟩), .pointer (some ⟨r.pb, 0, none⟩), .pointer (some ⟨r.tb, 0, none⟩)] w (BrE w base s r.p r.bef) := by
  have bd : Below w.heap.size w w.drew := (Below.refl w.heap.size w).drew
  have bdd : Below w.heap.size w w.drew.drew := bd.drew
  have md := m.below bd
  have mdd := m.below bdd
  have hl := mdd.list r.p
  rw [hf] at hl
  have hle := Rg.res_len sn r.bef 0
  have hbn := ra.bn
  obtain ⟨a, c, ev, hat, hc, hcm, _⟩ := hl.1.open RN_is hl.2
  obtain ⟨v', hv', lo', ob'⟩ := RowT.Lo.cut RN_is hl.2 hl.1 (n := (Rg.res sn r.bef).length) (by simp)
  rw [List.take_left] at lo'
  have hv2 := hv' a c ev
  subst hv2
  have LP := hidMk (op_lp m ra.ok ra.p)
  have LT := hidMk (op_lt m ra.t ra.l)
  have S0 := hidMk (S4.of (tch_of bd _) md)
  have S1 := hidMk (S4.of (tch_of bdd _) mdd)
  have LK := hidMk (md.lookP r.p ra.ok)
  have LR := hidMk (S4.of (tch_of bd _) md).lr
  rw [ev] at LK
  obtain ⟨d, hd⟩ : ∃ d, (Rg.res sn r.bef).length = d := ⟨_, rfl⟩
  have hn : (Rg.res sn r.bef ++ [x]).length = d + 1 := by simp [hd]
  rw [hn] at LK ev hc
  rw [hd] at lo' ob'
  have HD : d + 1 ≤ 9223372036854775800 := by omega
  have WC : Hid (Win w s (.slice a d d)) := by
    by_cases ha : a = none
    · subst ha
      exact fun b' n' c' e' => by cases e'
    · exact win_of ev ha rfl (by omega) (fun h => by omega)
  have CC : Hid (Calls Tryd.prog 45 #[.slice a (d + 1) c, .int .i64 (d : Int)] w.drew.drew fun e w' => ∃ cv, e = .returned cv ∧ S4 s w w' ∧ Calls Tryd.prog 53 #[cv, r.tv] w' fun e w' => ∃ u, e = .returned u ∧ S4 s w w' ∧ Calls Tryd.prog 49 #[.pointer (some ⟨s.r, 0, none⟩), r.p.v, u] w' fun e w5 => e = .returned (.tuple #[]) ∧ S4 s w w5 ∧ ∃ s', ONxt w base s r.p r.bef s' w5) := by
    refine (cut_any a (n := d + 1) (c := c) (m := d) (by omega) w.drew.drew).mono ?_
    rintro e w' ⟨rfl, rfl⟩
    refine ⟨_, rfl, S1.out, ?_⟩
    refine (with_all (w := w.drew.drew) (base := base) (sn := sn) (L := r.bef) lo' ra.bok ra.bn (by rw [← hT]; exact ra.l.below bdd) hb).mono ?_
    rintro e w' ⟨v, rfl, lo, b, rel⟩
    exact ⟨v, rfl, then_lay m ko hb ra.ok lo ra.bok (bdd.trans b) (rel.imp (fun q => by rw [q]; exact ⟨ob', WC.out⟩) id)⟩
  clear m md mdd ra hT hf bd bdd hl hle hbn ev hat hc hcm hv' lo' ob' hd hn WC
  go_enter Tryd.func52, Tryd.ntmps52
  go_upto_region 0 with fail
  refine putb0 (rb := s.r) (mb := s.bp) (pb := r.pb) (p := r.p) (lv := .slice a (d + 1) c) (S4 s w) _ w _ rfl rfl rfl S0.out (fun W hW => hW.1.lr) (fun W hW => LP.out W hW.1) (fun W hW => by rw [hW.2]; exact LK.out) ?_
  intro a' w5 hw5 ha
  subst ha
  subst hw5
  simp only [Act.put, List.setIfInBounds_toArray, List.set_cons_zero, List.set_cons_succ]
  go_upto_region 1 with fail
  refine putb1 (rb := s.r) (mb := s.bp) (pb := r.pb) (tb := r.tb) (n := d + 1) (lc := c) (d := d) (la := a) (p := r.p) (tv := r.tv) (S4 s w) (fun w5 => ∃ s', ONxt w base s r.p r.bef s' w5) _ w.drew _ rfl rfl rfl rfl rfl rfl HD S1.out LP.out LT.out CC.out ?_
  intro cv u a' w5 hf ha
  subst ha
  simp only [Act.put, List.setIfInBounds_toArray, List.set_cons_zero, List.set_cons_succ]
  have HF := hidMk hf
  clear hf CC LP LT S0 LK S1 LR
  go_wp2
  go_end0
  exact ⟨rfl, HF.out⟩
theorem bring_any {w : World} {base : Nat} {s : Rs} {r : Rec} {la : Option Addr} (m : RgM w base s) (ko : KeysOk s.K s.P) (hb : base ≤ w.heap.size) (ra : r.at w la) (did : r.did) (hf : liOf s.P r.p = r.aft) :
    Calls Tryd.prog r.F (#[.pointer (some ⟨s.r, 0, none⟩)] ++ #[.pointer (some ⟨r.pb, 0, none⟩), .pointer (some ⟨r.tb, 0, none⟩)]) w (BrE w base s r.p r.bef) ∧ ∀ vs (W : World), (callFunc r.F vs).run Tryd.prog W = .ok (.enter r.F vs) W := by
  obtain ⟨sn, hT, ⟨e, x, ea⟩ | ⟨e, ea⟩ | ⟨e, gv, ea⟩⟩ := did
  · rw [e]
    exact ⟨bring_put m ko hb ra hT (hf.trans ea), enters_of Tryd.func52 (by kernel_rfl) rfl⟩
  · rw [e]
    exact ⟨bring_del m ko hb ra hT (hf.trans ea), enters_of Tryd.func54 (by kernel_rfl) rfl⟩
  · rw [e]
    exact ⟨bring_add m ko hb ra hT (hf.trans ea), enters_of Tryd.func58 (by kernel_rfl) rfl⟩
section
variable {P : Program} (w : World)
theorem run_neq_ptr_same {tp te : TypeId} {j : TypeInfo} (a : Addr) (hp : P.underlying tp = some (.pointer te)) (hte : P.info? te = some j) :
    (binOp .neq tp (.pointer (some a)) (.pointer (some a))).run P w = .ok (.bool false) w := by
  have h : ∀ d : Nat, (Op.equalIn (d + 1) tp (.pointer (some a)) (.pointer (some a))).run P w = .ok true w := fun d => by
    simp [Op.equalIn, run_underlying hp, sizeOf, typeInfo, hte, run_sameAddr_same]
  simp only [binOp]
  simp [Op.equal, Op.maxDepth, h 9999]
theorem run_neq_ptr_other {tp te : TypeId} {j : TypeInfo} {a b : Addr} {ca cb : Array Value} {ta tb : TypeId} (hp : P.underlying tp = some (.pointer te)) (hte : P.info? te = some j) (hsz : j.size ≠ 0)
    (hne : a ≠ b) (ha : w.heap[a.block]? = some (.cells ca ta (0, 0))) (hb : w.heap[b.block]? = some (.cells cb tb (0, 0))) :
    (binOp .neq tp (.pointer (some a)) (.pointer (some b))).run P w = .ok (.bool true) w := by
  have h : ∀ d : Nat, (Op.equalIn (d + 1) tp (.pointer (some a)) (.pointer (some b))).run P w = .ok false w := fun d => by
    simp [Op.equalIn, run_underlying hp, sizeOf, typeInfo, hte, hsz, run_sameAddr_other w hne ha hb]
  simp only [binOp]
  simp [Op.equal, Op.maxDepth, h 9999]
theorem run_neq_ptr_none {tp te : TypeId} (a : Addr) (hp : P.underlying tp = some (.pointer te)) :
    (binOp .neq tp (.pointer (some a)) (.pointer none)).run P w = .ok (.bool true) w := by
  have h : ∀ d : Nat, (Op.equalIn (d + 1) tp (.pointer (some a)) (.pointer none)).run P w = .ok false w := fun d => by
    simp [Op.equalIn, run_underlying hp]
  simp only [binOp]
  simp [Op.equal, Op.maxDepth, h 9999]
end
theorem szBackG : (Tryd.prog.info? 111).map (·.size) = some 2 := by kernel_rfl
theorem back_infoG : ∃ j, Tryd.prog.info? 111 = some j ∧ j.size ≠ 0 := by
  obtain ⟨j, h1, h2⟩ := Option.map_eq_some_iff.1 szBackG
  exact ⟨j, h1, by rw [h2]; decide⟩
theorem neq_backG (a : Addr) (w : World) : (binOp .neq 54 (.pointer (some a)) (.pointer (some a))).run Tryd.prog w = .ok (.bool false) w := by
  obtain ⟨j, hj, _⟩ := back_infoG
  exact run_neq_ptr_same w a Tryd.underlying54 hj
theorem guard_backG (x y : Operand) (p q : Option Addr) (w : World) (op : BinOp) : (eqGuard op 54 x y (.pointer p) (.pointer q)).run Tryd.prog w = .ok () w := by
  unfold eqGuard
  cases op <;> simp
def IsBk (w : World) (bk : Nat) : Prop := ∃ c, w.heap[bk]? = some (.cells c 111 (0, 0))
theorem Hist.isBk {w : World} : ∀ {H : List Rec}, Hist w H → ∀ a, ptrH H = some a → IsBk w a.block
  | [], _, a, e => by cases e
  | r :: H, h, a, e => by injection e with e; rw [← e]; exact ⟨_, h.1.b⟩
theorem neq_other {w : World} {H : List Rec} (hh : Hist w H) {bk : Nat} (hb : IsBk w bk) (hne : ptrH H ≠ some ⟨bk, 0, none⟩) : (binOp .neq 54 (.pointer (some ⟨bk, 0, none⟩)) (.pointer (ptrH H))).run Tryd.prog w = .ok (.bool true) w := by
  cases e : ptrH H with
  | none => exact run_neq_ptr_none w _ Tryd.underlying54
  | some a =>
    obtain ⟨c1, h1⟩ := hb
    obtain ⟨c2, h2⟩ := hh.isBk a e
    obtain ⟨j, hj, hz⟩ := back_infoG
    exact run_neq_ptr_other w Tryd.underlying54 hj hz (fun q => hne (by rw [e, ← q])) h1 h2
def UnE (w : World) (base : Nat) (s : Rs) (H : List Rec) (r : Rec) (e : Ending) (w' : World) : Prop := e = .returned (.int .i64 0) ∧ ∃ s', RgAt w' base s' H ∧ s'.r = s.r ∧ (∀ q, liOf s'.P q = if q = r.p then r.bef else liOf s.P q) ∧ (∀ j, s'.all j → s.all j ∨ w.heap.size ≤ j) ∧ Tch s.all w w' ∧ ER s w s' w'
theorem undo_endG {w w3 : World} {base : Nat} {s s1 : Rs} {r : Rec} {H : List Rec} (h : RgAt w base s (r :: H)) (nx : ONxt w base s r.p r.bef s1 w3) : ∃ w4, (Instr.storeAt 54 (.pointer (some ⟨s.r, 0 + 2, none⟩)) (.pointer (ptrH H))).run Tryd.prog w3 = .ok () w4 ∧ ∃ s', RgAt w4 base s' H ∧ s'.r = s.r ∧ (∀ q, liOf s'.P q = if q = r.p then r.bef else liOf s.P q) ∧ (∀ j, s'.all j → s.all j ∨ w.heap.size ≤ j) ∧ Tch s.all w w4 ∧ ER s w s' w4 := by
  have hc3 := nx.mem.cell
  have c2 := nx.mem.c2
  have f2 := frozen_of_row w3 s1.r 2 _ _ hc3
  rw [nx.r] at c2 f2
  have ES : (Instr.storeAt 54 (.pointer (some ⟨s.r, 0 + 2, none⟩)) (.pointer (ptrH H))).run Tryd.prog w3 = .ok () (w3.setCell ⟨s.r, 2, none⟩ (.pointer (ptrH H))) := by go_simp
  have o2 : ∀ j, j ≠ s.r → (w3.setCell ⟨s.r, 2, none⟩ (.pointer (ptrH H))).heap[j]? = w3.heap[j]? := fun j hj => Go.heap_setCell_other _ _ _ _ hj
  have hc := Go.heap_setCell_same w3 s1.r 2 _ 84 (.pointer (ptrH H)) hc3
  rw [nx.r] at hc
  have z2 : (w3.setCell ⟨s.r, 2, none⟩ (.pointer (ptrH H))).heap.size = w3.heap.size := by simp [World.setCell]
  generalize hw4 : w3.setCell ⟨s.r, 2, none⟩ (.pointer (ptrH H)) = w4 at *
  have t2 : Tch (fun j => j = s.r) w3 w4 := ⟨by rw [← hw4]; rfl, by rw [← hw4]; rfl, by rw [← hw4]; rfl, by omega, fun j _ hj => o2 j hj⟩
  have m4 : RgM w4 base { s1 with last := ptrH H } := nx.mem.setLast (by rw [nx.r]; exact hc) (fun j _ hj => o2 j (by rw [← nx.r]; exact hj))
  have rall : s.all s.r := .inl (by simp [Rs.bl])
  have t4 : Tch s.all w w4 := nx.tch.trans' t2 (fun j _ e => by rw [e]; exact rall)
  refine ⟨w4, ES, { s1 with last := ptrH H }, ⟨m4, nx.key, rfl, ?_, ?_⟩, nx.r, nx.li, nx.al, t4, ⟨nx.z.l, nx.z.h.tch t2 (fun j cu hj e => nx.mem.blNot hj (by rw [e, ← nx.r]; simp [Rs.bl]))⟩⟩
  · exact Hist.keep t4 (fun j c ty fr h1 h2 h3 => h.mem.other h1 h2 h3) h.hist.2
  · exact h.hok.2.2.congr (fun q => nx.li q)
attribute [local go_sem] run_neq_ptr_none
theorem undo_any {w : World} {base : Nat} {s : Rs} {r : Rec} {H : List Rec} (h : RgAt w base s (r :: H)) (hb : base ≤ w.heap.size) :
    Calls Tryd.prog 19 #[.pointer (some ⟨s.r, 0, none⟩), .pointer (some ⟨r.bk, 0, none⟩)] w (UnE w base s H r) := by
  have ra := h.hist.1
  obtain ⟨BR, EN⟩ := bring_any h.mem h.key hb ra h.hok.2.1 h.hok.1
  have HBR := hidMk BR
  have HEN := hidMk EN
  have c2 : w.cell? ⟨s.r, 2, none⟩ = some (.pointer (some ⟨r.bk, 0, none⟩)) := by have := h.mem.c2; rw [h.last] at this; exact this
  have c1 : w.cell? ⟨r.bk, 1, none⟩ = some (.func (.func r.F) #[] #[.pointer (some ⟨r.pb, 0, none⟩), .pointer (some ⟨r.tb, 0, none⟩)]) := by rw [cell_of_row _ _ 1 _ _ _ ra.b]; rfl
  have V1 : Hid ((Instr.loadAt 106 (.pointer (some ⟨r.bk, 0 + 1, none⟩))).run Tryd.prog w = .ok (.func (.func r.F) #[] #[.pointer (some ⟨r.pb, 0, none⟩), .pointer (some ⟨r.tb, 0, none⟩)]) w) := by
    have : (Instr.loadAt 106 (.pointer (some ⟨r.bk, 0 + 1, none⟩))).run Tryd.prog w = .ok (.func (.func r.F) #[] #[.pointer (some ⟨r.pb, 0, none⟩), .pointer (some ⟨r.tb, 0, none⟩)]) w := by go_simp
    exact this
  have B3 : Hid (∀ w3 s1, ONxt w base s r.p r.bef s1 w3 → (Instr.loadAt 54 (.pointer (some ⟨r.bk, 0 + 0, none⟩))).run Tryd.prog w3 = .ok (.pointer (ptrH H)) w3) := by
    intro w3 s1 nx
    have hk : w3.heap[r.bk]? = _ := (nx.tch.block _ (Array.getElem?_eq_some_iff.1 ra.b).1 (h.mem.other ra.b (by decide) (by decide))).trans ra.b
    have c0 : w3.cell? ⟨r.bk, 0, none⟩ = some (.pointer (ptrH H)) := by rw [cell_of_row _ _ 0 _ _ _ hk]; rfl
    go_simp
  have HH := hidMk h
  clear h ra c1 BR EN
  go_enter Tryd.func19, Tryd.ntmps19
  go_upto_region 5 with (first
    | (refine wpList_val rfl (exec_binOp rfl rfl rfl (guard_backG _ _ _ _ _ _) (neq_backG _ _)) ?_)
    | fail)
  refine und5 (rb := s.r) (bk := r.bk) (F := r.F) (caps := #[.pointer (some ⟨r.pb, 0, none⟩), .pointer (some ⟨r.tb, 0, none⟩)]) (fun w3 => ∃ s1, ONxt w base s r.p r.bef s1 w3) _ w _ rfl rfl rfl (fun W e => by rw [e]; exact V1.out) HEN.out HBR.out ?_
  intro a' w3 hf ha
  subst ha
  simp only [Act.put, List.setIfInBounds_toArray, List.set_cons_zero, List.set_cons_succ]
  clear V1 HEN HBR c2
  obtain ⟨s1, nx⟩ := hf
  obtain ⟨w4, es, fin⟩ := undo_endG HH.out nx
  have L3 := hidMk (B3.out w3 s1 nx)
  have HF := hidMk fin
  have HES := hidMk es
  clear B3 nx HH fin es
  go_upto_region 6 with fail
  refine und6 (rb := s.r) (bk := r.bk) (la := ptrH H) (w1 := w4) _ w3 _ rfl rfl rfl (fun W e => by rw [e]; exact L3.out) HES.out ?_
  intro a' w5 hw5 ha
  subst ha
  subst hw5
  simp only [Act.put, List.setIfInBounds_toArray, List.set_cons_zero, List.set_cons_succ]
  clear L3 HES
  go_wp2
  go_ret
  exact ⟨rfl, HF.out⟩
theorem undo_not {w : World} {base : Nat} {s : Rs} {H : List Rec} (h : RgAt w base s H) {bk : Nat} (hb : IsBk w bk) (hne : ptrH H ≠ some ⟨bk, 0, none⟩) :
    Calls Tryd.prog 19 #[.pointer (some ⟨s.r, 0, none⟩), .pointer (some ⟨bk, 0, none⟩)] w fun e w' => e = .returned (.int .i64 2) ∧ w' = w := by
  have c2 : w.cell? ⟨s.r, 2, none⟩ = some (.pointer (ptrH H)) := by have := h.mem.c2; rw [h.last] at this; exact this
  have NE := hidMk (neq_other h.hist hb hne)
  clear h hb hne
  go_enter Tryd.func19, Tryd.ntmps19
  go_wp2_with (first
    | (refine wpList_val rfl (exec_binOp rfl rfl rfl (guard_backG _ _ _ _ _ _) NE.out) ?_)
    | fail)
  go_ret
  exact ⟨rfl, rfl⟩
theorem undo_nil (r : Nat) (w : World) : Calls Tryd.prog 19 #[.pointer (some ⟨r, 0, none⟩), .pointer none] w fun e w' => e = .returned (.int .i64 2) ∧ w' = w := by
  go_enter Tryd.func19, Tryd.ntmps19
  go_wp2
  go_ret
  exact ⟨rfl, rfl⟩
def ent3_o0 : Oper := ⟨some 7, .move (.tmp 0), 26, "regs.go:141", #[], none⟩
def ent3_o1 : Oper := ⟨some 8, .nilCheck (.tmp 7), 0, "regs.go:141", #[⟨0, .data⟩], none⟩
def ent3_o2 : Oper := ⟨some 9, .fieldAddr 84 (.tmp 8) 0, 0, "regs.go:141", #[⟨1, .data⟩], none⟩
def ent3_o3 : Oper := ⟨some 10, .load 81 (.tmp 9), 81, "regs.go:141", #[⟨2, .data⟩], none⟩
def ent3_o4 : Oper := ⟨some 11, .load 52 (.tmp 3), 52, "regs.go:141", #[], none⟩
def ent3_o5 : Oper := ⟨some 12, .lookup 81 (.tmp 10) (.tmp 11) false, 60, "regs.go:141", #[⟨3, .data⟩, ⟨4, .data⟩], none⟩
def ent3_o6 : Oper := ⟨some 13, .call { callee := Callee.value (Operand.func 60), args := #[.tmp 12], argTypes := #[60] }, 60, "regs.go:141", #[⟨5, .data⟩], none⟩
def ent3_o7 : Oper := ⟨some 4, .assign (.tmp 13), 60, "regs.go:141", #[⟨6, .data⟩, ⟨6, .chain⟩, ⟨0, .phase⟩, ⟨1, .phase⟩, ⟨2, .phase⟩, ⟨3, .phase⟩, ⟨4, .phase⟩, ⟨5, .phase⟩, ⟨6, .phase⟩], none⟩
def ent3_ops : Array Oper := #[ent3_o0, ent3_o1, ent3_o2, ent3_o3, ent3_o4, ent3_o5, ent3_o6, ent3_o7]
theorem ent3 {rb mb pb : Nat} {p : PlK} {lv : Value} (S : World → Prop) (Fin : Value → World → Prop) (a : Act) (w : World) (Q : Exit → Act → World → Prop) (zz : a.tmps.size = 14)
    (t0 : a.tmps.getD 0 undef = .pointer (some ⟨rb, 0, none⟩))
    (t3 : a.tmps.getD 3 undef = .pointer (some ⟨pb, 0, none⟩))
    (h0 : S w.drew) (LR : ∀ W, S W → (Instr.loadAt 81 (.pointer (some ⟨rb, 0 + 0, none⟩))).run Tryd.prog W = .ok (.map (some mb)) W) (LP : ∀ W, S W → (Instr.loadAt 52 (.pointer (some ⟨pb, 0, none⟩))).run Tryd.prog W = .ok (p.v) W) (LK : ∀ W, S W → (Instr.lookup 81 (.map (some mb)) p.v false).run Tryd.prog W = .ok lv W) (CA : Calls Tryd.prog 60 #[lv] w.drew fun e w' => ∃ u, e = .returned u ∧ S w' ∧ Fin u w')
    (h : ∀ (u : Value) (a' : Act) (w' : World), Fin u w' → a' = ((((((((a).put (some 7) (.pointer (some ⟨rb, 0, none⟩))).put (some 8) (.pointer (some ⟨rb, 0, none⟩))).put (some 9) (.pointer (some ⟨rb, 0 + 0, none⟩))).put (some 10) (.map (some mb))).put (some 11) (p.v)).put (some 12) (lv)).put (some 13) (u)).put (some 4) (u) → Q .normal a' w') :
    (Code.region 3 ent3_ops true).wp Tryd.prog Q a w := by
  refine y0 (fun w' => S w') (h0) (fun hHeld => ?_)
  refine yv 0 rfl rfl (fun w1 hw => exec_move rfl (zi t0 rfl)) hHeld ?_
  refine yv 1 rfl rfl (fun w1 hw => exec_nilCheck rfl (zg zz rfl)) hHeld ?_
  refine yv 2 rfl rfl (fun w1 hw => exec_fieldAt rfl (zg zz rfl) (fg_84_0 _ _ _)) hHeld ?_
  refine yv 3 rfl rfl (fun w1 hw => exec_load rfl (zg zz rfl) (LR _ hw)) hHeld ?_
  refine yv 4 rfl rfl (fun w1 hw => exec_load rfl (zi t3 rfl) (LP _ hw)) hHeld ?_
  refine yv (v := lv) 5 rfl rfl (fun w1 hw => exec_lookup rfl (zg zz rfl) (zg zz rfl) (LK _ hw)) hHeld ?_
  refine yc 6 rfl rfl (exec_c1 rfl (zg zz rfl)) (CA) (fun e x6 hx => ?_)
  obtain ⟨u, rfl, S1, HF⟩ := hx
  replace h := h u
  refine ⟨_, rfl, S1, fun hHeld => ?_⟩
  refine yv 7 rfl rfl (fun w1 hw => exec_assign rfl (zg zz rfl)) hHeld ?_
  exact ye rfl (h _ _ (HF) rfl)
end Go.Proofs.YtldlljobofnmmaaDoor
