import Derived.Test.YtldlljobofnmmabDoorZr
import Derived.Test.YtldlljobofnmmabDoorRgl
namespace Go.Proofs.YtldlljobofnmmabDoor
open Go.RowKit
set_option linter.unusedVariables false
set_option linter.unusedSimpArgs false

set_option maxRecDepth 100000 in
theorem build_en0 (w : World) (k n f s : Value) (a0 a1 a2 a3 a4 a5 a6 a7 a8 a9 a10 a11 a12 a13 a14 a15 a16 a17 a18 a19 a20 a21 a22 a23 a24 a25 a26 a27 a28 a29 a30 a31 a32 : Value) : (Instr.build 65 #[(0, .agg [a0, a1, a2, a3, a4, a5, a6, a7, a8, a9, a10, a11, a12, a13, a14, a15, a16, a17, a18, a19, a20, a21, a22, a23, a24, a25, a26, a27, a28, a29, a30, a31, a32].toArray), (1, .agg [k, n, f, s].toArray)]).run Tryd.prog w = .ok (.agg ([a0, a1, a2, a3, a4, a5, a6, a7, a8, a9, a10, a11, a12, a13, a14, a15, a16, a17, a18, a19, a20, a21, a22, a23, a24, a25, a26, a27, a28, a29, a30, a31, a32] ++ [k, n, f, s]).toArray) w := by kernel_rfl
set_option maxRecDepth 100000 in
theorem build_en (w : World) {i : IdK} (hi : i.ok) (x : VaV) : (Instr.build 65 #[(0, i.v), (1, x.v)]).run Tryd.prog w = .ok (EnV.a ⟨i, x⟩) w := by
  have h := IdK.len hi
  unfold EnV.a EnV.c IdK.v VaV.v VaV.c
  simp only
  generalize i.c = l at *
  match l, h with
  | a0 :: a1 :: a2 :: a3 :: a4 :: a5 :: a6 :: a7 :: a8 :: a9 :: a10 :: a11 :: a12 :: a13 :: a14 :: a15 :: a16 :: a17 :: a18 :: a19 :: a20 :: a21 :: a22 :: a23 :: a24 :: a25 :: a26 :: a27 :: a28 :: a29 :: a30 :: a31 :: a32 :: [], _ => exact build_en0 w _ _ _ _ a0 a1 a2 a3 a4 a5 a6 a7 a8 a9 a10 a11 a12 a13 a14 a15 a16 a17 a18 a19 a20 a21 a22 a23 a24 a25 a26 a27 a28 a29 a30 a31 a32
theorem exec_ben {w : World} {a : Act} {o : Oper} {x y : Operand} {i : IdK} {v : VaV} (hi : i.ok) (ho : o.op = .build 65 #[(0, x), (1, y)]) (hx : a.eval x = i.v) (hy : a.eval y = v.v) : (execOp a.eval o).run Tryd.prog w = .ok (.value (EnV.a ⟨i, v⟩)) w :=
  exec_build ho (by simp [hx, hy]) (build_en w hi v)
theorem exec_sub1 {w : World} {a : Act} {o : Oper} {x y : Operand} {n d : Nat} (ho : o.op = .binOp .sub 3 x y 3) (hx : a.eval x = .int .i64 (n : Int)) (hy : a.eval y = .int .i64 1) (hd : d + 1 = n) (hs : n ≤ 9223372036854775800) : (execOp a.eval o).run Tryd.prog w = .ok (.value (.int .i64 (d : Int))) w := by
  refine exec_binOp ho hx hy ?_ ?_
  · kernel_rfl
  · have e : IntKind.i64.wrap ((n : Int) - 1) = (d : Int) := by rw [IntKind.wrap_i64]; omega
    have h : (binOp .sub 3 (.int .i64 (n : Int)) (.int .i64 1)).run Tryd.prog w = .ok (.int .i64 (IntKind.i64.wrap ((n : Int) - 1))) w := by kernel_rfl
    rw [h, e]
def put0_o0 : Oper := { dst := some 6, op := Op.box 34 (Operand.tmp 1), type := 0, pos := "regs.go:48", after := #[], guard := none }
def put0_o1 : Oper := { dst := some 7, op := Op.box 32 (Operand.tmp 2), type := 0, pos := "regs.go:48", after := #[], guard := none }
def put0_o2 : Oper := { dst := some 8, op := Op.box 39 (Operand.tmp 3), type := 0, pos := "regs.go:48", after := #[], guard := none }
def put0_o3 : Oper := { dst := some 10, op := Op.assign (Operand.const (Value.pointer none)), type := 27, pos := "regs.go:48", after := #[], guard := none }
def put0_ops : Array Oper := #[put0_o0, put0_o1, put0_o2, put0_o3]
set_option maxRecDepth 100000 in
set_option maxHeartbeats 4000000 in
theorem put0 {b0 b1 b2 : Nat} {p : PlK} {id : IdK} {x : VaV} {w1 w2 w3 : World} (a : Act) (w : World) (Q : Exit → Act → World → Prop) (zz : a.tmps.size = 41)
    (t1 : a.tmps.getD 1 undef = p.v)
    (t2 : a.tmps.getD 2 undef = id.v)
    (t3 : a.tmps.getD 3 undef = x.v)
    (E0 : (Instr.box 34 p.v).run Tryd.prog w = .ok (.pointer (some ⟨b0, 0, none⟩)) w1) (E1 : (Instr.box 32 id.v).run Tryd.prog w1 = .ok (.pointer (some ⟨b1, 0, none⟩)) w2) (E2 : (Instr.box 39 x.v).run Tryd.prog w2 = .ok (.pointer (some ⟨b2, 0, none⟩)) w3)
    (h : ∀ (a' : Act) (w' : World), w' = w3 → a' = ((((a).put (some 6) (.pointer (some ⟨b0, 0, none⟩))).put (some 7) (.pointer (some ⟨b1, 0, none⟩))).put (some 8) (.pointer (some ⟨b2, 0, none⟩))).put (some 10) (.pointer none) → Q .normal a' w') :
    (Code.region 0 put0_ops false).wp Tryd.prog Q a w := by
  refine z0 rfl ?_
  refine zv (v := .pointer (some ⟨b0, 0, none⟩)) rfl (exec_boxE rfl (zi t1 rfl) E0) ?_
  refine zv (v := .pointer (some ⟨b1, 0, none⟩)) rfl (exec_boxE rfl (zi t2 rfl) E1) ?_
  refine zv (v := .pointer (some ⟨b2, 0, none⟩)) rfl (exec_boxE rfl (zi t3 rfl) E2) ?_
  refine zv rfl (exec_assign rfl rfl) ?_
  exact ze rfl (h _ _ (rfl) rfl)
def put3_o0 : Oper := { dst := some 14, op := Op.move (Operand.tmp 0), type := 25, pos := "regs.go:52", after := #[], guard := none }
def put3_o1 : Oper := { dst := some 15, op := Op.nilCheck (Operand.tmp 14), type := 0, pos := "regs.go:52", after := #[{ on := 0, ground := Ground.data }], guard := none }
def put3_o2 : Oper := { dst := some 16, op := Op.fieldAddr 69 (Operand.tmp 15) 0, type := 0, pos := "regs.go:52", after := #[{ on := 1, ground := Ground.data }], guard := none }
def put3_o3 : Oper := { dst := some 17, op := Op.load 66 (Operand.tmp 16), type := 66, pos := "regs.go:52", after := #[{ on := 2, ground := Ground.data }], guard := none }
def put3_o4 : Oper := { dst := some 18, op := Op.load 34 (Operand.tmp 6), type := 34, pos := "regs.go:52", after := #[], guard := none }
def put3_o5 : Oper := { dst := some 19, op := Op.lookup 66 (Operand.tmp 17) (Operand.tmp 18) false, type := 44, pos := "regs.go:52", after := #[{ on := 3, ground := Ground.data }, { on := 4, ground := Ground.data }], guard := none }
def put3_o6 : Oper := { dst := some 20, op := Op.move (Operand.tmp 4), type := 63, pos := "regs.go:52", after := #[], guard := none }
def put3_o7 : Oper := { dst := some 21, op := Op.call { callee := Callee.value (Operand.func 27), args := #[Operand.tmp 19, Operand.tmp 20], argTypes := #[44, 63] }, type := 83, pos := "regs.go:52", after := #[{ on := 5, ground := Ground.data }, { on := 6, ground := Ground.data }], guard := none }
def put3_o8 : Oper := { dst := some 11, op := Op.alloc 83, type := 0, pos := "regs.go:52", after := #[], guard := none }
def put3_o9 : Oper := { dst := none, op := Op.store 83 (Operand.tmp 11) (Operand.tmp 21), type := 0, pos := "regs.go:52", after := #[{ on := 8, ground := Ground.data }, { on := 7, ground := Ground.data }, { on := 7, ground := Ground.chain }, { on := 0, ground := Ground.phase }, { on := 1, ground := Ground.phase }, { on := 2, ground := Ground.phase }, { on := 3, ground := Ground.phase }, { on := 4, ground := Ground.phase }, { on := 5, ground := Ground.phase }, { on := 6, ground := Ground.phase }, { on := 7, ground := Ground.phase }, { on := 8, ground := Ground.phase }], guard := none }
def put3_ops : Array Oper := #[put3_o0, put3_o1, put3_o2, put3_o3, put3_o4, put3_o5, put3_o6, put3_o7, put3_o8, put3_o9]
set_option maxRecDepth 100000 in
set_option maxHeartbeats 4000000 in
theorem put3 {rb mb pb tb2 : Nat} {p : PlK} {fv lv : Value} {y1 : World} (S : World → Prop) (Fin : Nat → Value → World → Prop) (a : Act) (w : World) (Q : Exit → Act → World → Prop) (hsz : a.tmps.size = 41)
    (t0 : a.tmps.getD 0 undef = .pointer (some ⟨rb, 0, none⟩))
    (t4 : a.tmps.getD 4 undef = fv)
    (t6 : a.tmps.getD 6 undef = .pointer (some ⟨pb, 0, none⟩))
    (h0 : S w.drew) (LR : ∀ W, S W → (Instr.loadAt 66 (.pointer (some ⟨rb, 0 + 0, none⟩))).run Tryd.prog W = .ok (.map (some mb)) W) (LP : ∀ W, S W → (Instr.loadAt 34 (.pointer (some ⟨pb, 0, none⟩))).run Tryd.prog W = .ok (p.v) W) (LK : ∀ W, S W → (Instr.lookup 66 (.map (some mb)) p.v false).run Tryd.prog W = .ok lv W) (CA : Calls Tryd.prog 27 #[lv, fv] w.drew fun e w' => ∃ tv tb wa wb, e = .returned tv ∧ S w' ∧ (Instr.alloc 83 true (.tuple #[])).run Tryd.prog w' = .ok (.pointer (some ⟨tb, 0, none⟩)) wa ∧ S wa ∧ (Instr.storeAt 83 (.pointer (some ⟨tb, 0, none⟩)) tv).run Tryd.prog wa = .ok () wb ∧ S wb ∧ Fin tb tv wb) (EB : (Instr.alloc 83 true (.tuple #[])).run Tryd.prog w.drew = .ok (.pointer (some ⟨tb2, 0, none⟩)) y1) (S4 : S y1) (CB : Calls Tryd.prog 27 #[lv, fv] y1 fun e w' => ∃ tv wb, e = .returned tv ∧ S w' ∧ (Instr.storeAt 83 (.pointer (some ⟨tb2, 0, none⟩)) tv).run Tryd.prog w' = .ok () wb ∧ S wb ∧ Fin tb2 tv wb)
    (h1 : ∀ (tv : Value) (tb : Nat) (a' : Act) (w' : World), Fin tb tv w' → a' = (((((((((a).put (some 14) (.pointer (some ⟨rb, 0, none⟩))).put (some 15) (.pointer (some ⟨rb, 0, none⟩))).put (some 16) (.pointer (some ⟨rb, 0 + 0, none⟩))).put (some 17) (.map (some mb))).put (some 18) (p.v)).put (some 19) (lv)).put (some 20) (fv)).put (some 21) (tv)).put (some 11) (.pointer (some ⟨tb, 0, none⟩)) → Q .normal a' w')
    (h2 : ∀ (tv : Value) (a' : Act) (w' : World), Fin tb2 tv w' → a' = (((((((((a).put (some 14) (.pointer (some ⟨rb, 0, none⟩))).put (some 15) (.pointer (some ⟨rb, 0, none⟩))).put (some 16) (.pointer (some ⟨rb, 0 + 0, none⟩))).put (some 17) (.map (some mb))).put (some 18) (p.v)).put (some 19) (lv)).put (some 20) (fv)).put (some 11) (.pointer (some ⟨tb2, 0, none⟩))).put (some 21) (tv) → Q .normal a' w') :
    (Code.region 3 put3_ops true).wp Tryd.prog Q a w := by
  refine wp_region_noPanic ?_
  refine wp_region_held_drew (S := fun w' => S w') (by kernel_rfl) (h0) (fun hHeld => ?_)
  refine wpAnyH_take (i := 0) (oi := put3_o0) (v := .pointer (some ⟨rb, 0, none⟩)) rfl (by kernel_rfl) (by kernel_rfl) (by kernel_rfl) (fun _ _ _ h => h) (Or.inl ⟨by rfl, fun w1 hw => exec_move rfl t0⟩) hHeld ?_
  change wpAnyH _ _ _ _ _ _ _ (a.put (some 14) (.pointer (some ⟨rb, 0, none⟩))) _
  obtain ⟨a1, e1⟩ : ∃ act, act = a.put (some 14) (.pointer (some ⟨rb, 0, none⟩)) := ⟨_, rfl⟩
  rw [← e1] at h1 h2 ⊢
  have z1 := pz e1 hsz
  replace t4 := pk e1 t4 (by decide)
  replace t6 := pk e1 t6 (by decide)
  clear t0
  have t14 := pq e1 hsz (by decide)
  clear e1 hsz
  refine wpAnyH_take (i := 1) (oi := put3_o1) (v := .pointer (some ⟨rb, 0, none⟩)) rfl (by kernel_rfl) (by kernel_rfl) (by kernel_rfl) (fun _ _ _ h => h) (Or.inl ⟨by rfl, fun w1 hw => exec_nilCheck rfl t14⟩) hHeld ?_
  change wpAnyH _ _ _ _ _ _ _ (a1.put (some 15) (.pointer (some ⟨rb, 0, none⟩))) _
  obtain ⟨a2, e2⟩ : ∃ act, act = a1.put (some 15) (.pointer (some ⟨rb, 0, none⟩)) := ⟨_, rfl⟩
  rw [← e2] at h1 h2 ⊢
  have z2 := pz e2 z1
  replace t4 := pk e2 t4 (by decide)
  replace t6 := pk e2 t6 (by decide)
  clear t14
  have t15 := pq e2 z1 (by decide)
  clear e2 z1
  refine wpAnyH_take (i := 2) (oi := put3_o2) (v := .pointer (some ⟨rb, 0 + 0, none⟩)) rfl (by kernel_rfl) (by kernel_rfl) (by kernel_rfl) (fun _ _ _ h => h) (Or.inl ⟨by rfl, fun w1 hw => exec_fieldAt rfl t15 (fg_69_0 _ _ _)⟩) hHeld ?_
  change wpAnyH _ _ _ _ _ _ _ (a2.put (some 16) (.pointer (some ⟨rb, 0 + 0, none⟩))) _
  obtain ⟨a3, e3⟩ : ∃ act, act = a2.put (some 16) (.pointer (some ⟨rb, 0 + 0, none⟩)) := ⟨_, rfl⟩
  rw [← e3] at h1 h2 ⊢
  have z3 := pz e3 z2
  replace t4 := pk e3 t4 (by decide)
  replace t6 := pk e3 t6 (by decide)
  clear t15
  have t16 := pq e3 z2 (by decide)
  clear e3 z2
  refine wpAnyH_take (i := 3) (oi := put3_o3) (v := .map (some mb)) rfl (by kernel_rfl) (by kernel_rfl) (by kernel_rfl) (fun _ _ _ h => h) (Or.inl ⟨by rfl, fun w1 hw => exec_load rfl t16 (LR _ hw)⟩) hHeld ?_
  change wpAnyH _ _ _ _ _ _ _ (a3.put (some 17) (.map (some mb))) _
  obtain ⟨a4, e4⟩ : ∃ act, act = a3.put (some 17) (.map (some mb)) := ⟨_, rfl⟩
  rw [← e4] at h1 h2 ⊢
  have z4 := pz e4 z3
  replace t4 := pk e4 t4 (by decide)
  replace t6 := pk e4 t6 (by decide)
  clear t16
  have t17 := pq e4 z3 (by decide)
  clear e4 z3
  refine wpAnyH_take (i := 4) (oi := put3_o4) (v := p.v) rfl (by kernel_rfl) (by kernel_rfl) (by kernel_rfl) (fun _ _ _ h => h) (Or.inl ⟨by rfl, fun w1 hw => exec_load rfl t6 (LP _ hw)⟩) hHeld ?_
  change wpAnyH _ _ _ _ _ _ _ (a4.put (some 18) (p.v)) _
  obtain ⟨a5, e5⟩ : ∃ act, act = a4.put (some 18) (p.v) := ⟨_, rfl⟩
  rw [← e5] at h1 h2 ⊢
  have z5 := pz e5 z4
  replace t4 := pk e5 t4 (by decide)
  replace t17 := pk e5 t17 (by decide)
  clear t6
  have t18 := pq e5 z4 (by decide)
  clear e5 z4
  refine wpAnyH_take (i := 5) (oi := put3_o5) (v := lv) rfl (by kernel_rfl) (by kernel_rfl) (by kernel_rfl) (fun _ _ _ h => h) (Or.inl ⟨by rfl, fun w1 hw => exec_lookup rfl t17 t18 (LK _ hw)⟩) hHeld ?_
  change wpAnyH _ _ _ _ _ _ _ (a5.put (some 19) (lv)) _
  obtain ⟨a6, e6⟩ : ∃ act, act = a5.put (some 19) (lv) := ⟨_, rfl⟩
  rw [← e6] at h1 h2 ⊢
  have z6 := pz e6 z5
  replace t4 := pk e6 t4 (by decide)
  clear t17 t18
  have t19 := pq e6 z5 (by decide)
  clear e6 z5
  refine wpAnyH_take (i := 6) (oi := put3_o6) (v := fv) rfl (by kernel_rfl) (by kernel_rfl) (by kernel_rfl) (fun _ _ _ h => h) (Or.inl ⟨by rfl, fun w1 hw => exec_move rfl t4⟩) hHeld ?_
  change wpAnyH _ _ _ _ _ _ _ (a6.put (some 20) (fv)) _
  obtain ⟨a7, e7⟩ : ∃ act, act = a6.put (some 20) (fv) := ⟨_, rfl⟩
  rw [← e7] at h1 h2 ⊢
  have z7 := pz e7 z6
  replace t19 := pk e7 t19 (by decide)
  clear t4
  have t20 := pq e7 z6 (by decide)
  clear e7 z6
  refine wpAnyH_ready (rs := [7, 8]) (by kernel_rfl) (by simp) ?_
  refine AllReadyH.cons (o := put3_o7) rfl (fun K hK => ?_) (AllReadyH.cons (o := put3_o8) rfl (fun K hK => ?_) (AllReadyH.nil))
  · clear h2
    rw [if_pos (by rfl)]
    unfold put3_o7 at hK ⊢
    go_simp
    refine (CA).mono ?_
    rintro e x8 ⟨tv, tb, wa, wb, rfl, S1, EA, S2, ES, S3, HF⟩
    try go_wp2_with fail
    replace h1 := h1 tv tb
    refine hK.out _ _ (S1) (fun hHeld => ?_)
    clear hK K
    change wpAnyH _ _ _ _ _ _ _ (a7.put (some 21) (tv)) _
    obtain ⟨a8, e8⟩ : ∃ act, act = a7.put (some 21) (tv) := ⟨_, rfl⟩
    rw [← e8] at h1 ⊢
    have z8 := pz e8 z7
    clear t19 t20
    have t21 := pq e8 z7 (by decide)
    clear e8 z7
    refine wpAnyH_ready (rs := [8]) (by kernel_rfl) (by simp) ?_
    refine AllReadyH.cons (o := put3_o8) rfl (fun K hK => ?_) AllReadyH.nil
    have X := exec_alloc (P := Tryd.prog) (a := a8) (o := put3_o8) rfl EA
    rw [if_pos (by rfl), Oper.wp, X]
    show K _ _
    clear X
    refine hK.out _ _ (S2) (fun hHeld => ?_)
    clear hK K
    change wpAnyH _ _ _ _ _ _ _ (a8.put (some 11) (.pointer (some ⟨tb, 0, none⟩))) _
    obtain ⟨a9, e9⟩ : ∃ act, act = a8.put (some 11) (.pointer (some ⟨tb, 0, none⟩)) := ⟨_, rfl⟩
    rw [← e9] at h1 ⊢
    have z9 := pz e9 z8
    replace t21 := pk e9 t21 (by decide)
    have t11 := pq e9 z8 (by decide)
    clear e9 z8
    refine wpAnyH_ready (rs := [9]) (by kernel_rfl) (by simp) ?_
    refine AllReadyH.cons (o := put3_o9) rfl (fun K hK => ?_) AllReadyH.nil
    have X := exec_store (P := Tryd.prog) (a := a9) (o := put3_o9) rfl t11 t21 ES
    rw [if_pos (by rfl), Oper.wp, X]
    show K _ _
    clear X
    refine hK.out _ _ (S3) (fun hHeld => ?_)
    clear hK K
    exact wpAnyH_done (by kernel_rfl) (NoPanic.normal (h1 _ _ (HF) rfl)) _
  · clear h1
    have X := exec_alloc (P := Tryd.prog) (a := a7) (o := put3_o8) rfl EB
    rw [if_pos (by rfl), Oper.wp, X]
    show K _ _
    clear X
    refine hK.out _ _ (S4) (fun hHeld => ?_)
    clear hK K
    change wpAnyH _ _ _ _ _ _ _ (a7.put (some 11) (.pointer (some ⟨tb2, 0, none⟩))) _
    obtain ⟨a11, e11⟩ : ∃ act, act = a7.put (some 11) (.pointer (some ⟨tb2, 0, none⟩)) := ⟨_, rfl⟩
    rw [← e11] at h2 ⊢
    have z11 := pz e11 z7
    replace t19 := pk e11 t19 (by decide)
    replace t20 := pk e11 t20 (by decide)
    have t11 := pq e11 z7 (by decide)
    clear e11 z7
    refine wpAnyH_ready (rs := [7]) (by kernel_rfl) (by simp) ?_
    refine AllReadyH.cons (o := put3_o7) rfl (fun K hK => ?_) AllReadyH.nil
    rw [if_pos (by rfl)]
    unfold put3_o7 at hK ⊢
    go_simp
    refine (CB).mono ?_
    rintro e x12 ⟨tv, wb, rfl, S5, ES, S6, HF⟩
    try go_wp2_with fail
    replace h2 := h2 tv
    refine hK.out _ _ (S5) (fun hHeld => ?_)
    clear hK K
    change wpAnyH _ _ _ _ _ _ _ (a11.put (some 21) (tv)) _
    obtain ⟨a12, e12⟩ : ∃ act, act = a11.put (some 21) (tv) := ⟨_, rfl⟩
    rw [← e12] at h2 ⊢
    have z12 := pz e12 z11
    replace t11 := pk e12 t11 (by decide)
    clear t19 t20
    have t21 := pq e12 z11 (by decide)
    clear e12 z11
    refine wpAnyH_ready (rs := [9]) (by kernel_rfl) (by simp) ?_
    refine AllReadyH.cons (o := put3_o9) rfl (fun K hK => ?_) AllReadyH.nil
    have X := exec_store (P := Tryd.prog) (a := a12) (o := put3_o9) rfl t11 t21 ES
    rw [if_pos (by rfl), Oper.wp, X]
    show K _ _
    clear X
    refine hK.out _ _ (S6) (fun hHeld => ?_)
    clear hK K
    exact wpAnyH_done (by kernel_rfl) (NoPanic.normal (h2 _ _ (HF) rfl)) _
def put4_o0 : Oper := { dst := some 22, op := Op.move (Operand.tmp 0), type := 25, pos := "regs.go:53", after := #[], guard := none }
def put4_o1 : Oper := { dst := some 23, op := Op.load 34 (Operand.tmp 6), type := 34, pos := "regs.go:53", after := #[], guard := none }
def put4_o2 : Oper := { dst := some 24, op := Op.move (Operand.tmp 0), type := 25, pos := "regs.go:53", after := #[], guard := none }
def put4_o3 : Oper := { dst := some 25, op := Op.nilCheck (Operand.tmp 24), type := 0, pos := "regs.go:53", after := #[{ on := 2, ground := Ground.data }], guard := none }
def put4_o4 : Oper := { dst := some 26, op := Op.fieldAddr 69 (Operand.tmp 25) 0, type := 0, pos := "regs.go:53", after := #[{ on := 3, ground := Ground.data }], guard := none }
def put4_o5 : Oper := { dst := some 27, op := Op.load 66 (Operand.tmp 26), type := 66, pos := "regs.go:53", after := #[{ on := 4, ground := Ground.data }], guard := none }
def put4_o6 : Oper := { dst := some 28, op := Op.load 34 (Operand.tmp 6), type := 34, pos := "regs.go:53", after := #[], guard := none }
def put4_o7 : Oper := { dst := some 29, op := Op.lookup 66 (Operand.tmp 27) (Operand.tmp 28) false, type := 44, pos := "regs.go:53", after := #[{ on := 5, ground := Ground.data }, { on := 6, ground := Ground.data }], guard := none }
def put4_o8 : Oper := { dst := some 30, op := Op.load 83 (Operand.tmp 11), type := 83, pos := "regs.go:53", after := #[], guard := none }
def put4_o9 : Oper := { dst := some 31, op := Op.call { callee := Callee.value (Operand.func 29), args := #[Operand.tmp 29, Operand.tmp 30], argTypes := #[44, 83] }, type := 44, pos := "regs.go:53", after := #[{ on := 7, ground := Ground.data }, { on := 8, ground := Ground.data }], guard := none }
def put4_o10 : Oper := { dst := some 32, op := Op.load 32 (Operand.tmp 7), type := 32, pos := "regs.go:53", after := #[], guard := none }
def put4_o11 : Oper := { dst := some 33, op := Op.load 39 (Operand.tmp 8), type := 39, pos := "regs.go:53", after := #[], guard := none }
def put4_o12 : Oper := { dst := some 34, op := Op.build 65 #[(0, Operand.tmp 32), (1, Operand.tmp 33)], type := 65, pos := "regs.go:53", after := #[{ on := 10, ground := Ground.data }, { on := 11, ground := Ground.data }], guard := none }
def put4_o13 : Oper := { dst := some 35, op := Op.buildSlice 44 1 #[(0, Operand.tmp 34)], type := 44, pos := "regs.go:53", after := #[{ on := 12, ground := Ground.data }], guard := none }
def put4_o14 : Oper := { dst := some 36, op := Op.call { callee := Callee.builtin Builtin.append, args := #[Operand.tmp 31, Operand.tmp 35], argTypes := #[44, 44] }, type := 44, pos := "regs.go:53", after := #[{ on := 9, ground := Ground.data }, { on := 13, ground := Ground.data }, { on := 9, ground := Ground.chain }], guard := none }
def put4_o15 : Oper := { dst := some 37, op := Op.call { callee := Callee.value (Operand.func 28), args := #[Operand.tmp 22, Operand.tmp 23, Operand.tmp 36], argTypes := #[25, 34, 44] }, type := 0, pos := "regs.go:53", after := #[{ on := 0, ground := Ground.data }, { on := 1, ground := Ground.data }, { on := 14, ground := Ground.data }, { on := 14, ground := Ground.chain }], guard := none }
def put4_ops : Array Oper := #[put4_o0, put4_o1, put4_o2, put4_o3, put4_o4, put4_o5, put4_o6, put4_o7, put4_o8, put4_o9, put4_o10, put4_o11, put4_o12, put4_o13, put4_o14, put4_o15]
set_option maxRecDepth 100000 in
set_option maxHeartbeats 4000000 in
theorem put4 {rb mb pb ib vb tb : Nat} {p : PlK} {id : IdK} {x : VaV} {lv tv sv2 : Value} {y1 : World} (S Fin : World → Prop) (a : Act) (w : World) (Q : Exit → Act → World → Prop) (hsz : a.tmps.size = 41)
    (t0 : a.tmps.getD 0 undef = .pointer (some ⟨rb, 0, none⟩))
    (t6 : a.tmps.getD 6 undef = .pointer (some ⟨pb, 0, none⟩))
    (t7 : a.tmps.getD 7 undef = .pointer (some ⟨ib, 0, none⟩))
    (t8 : a.tmps.getD 8 undef = .pointer (some ⟨vb, 0, none⟩))
    (t11 : a.tmps.getD 11 undef = .pointer (some ⟨tb, 0, none⟩))
    (hid : id.ok) (h0 : S w.drew) (LR : ∀ W, S W → (Instr.loadAt 66 (.pointer (some ⟨rb, 0 + 0, none⟩))).run Tryd.prog W = .ok (.map (some mb)) W) (LP : ∀ W, S W → (Instr.loadAt 34 (.pointer (some ⟨pb, 0, none⟩))).run Tryd.prog W = .ok (p.v) W) (LI : ∀ W, S W → (Instr.loadAt 32 (.pointer (some ⟨ib, 0, none⟩))).run Tryd.prog W = .ok (id.v) W) (LV : ∀ W, S W → (Instr.loadAt 39 (.pointer (some ⟨vb, 0, none⟩))).run Tryd.prog W = .ok (x.v) W) (LT : ∀ W, S W → (Instr.loadAt 83 (.pointer (some ⟨tb, 0, none⟩))).run Tryd.prog W = .ok (tv) W) (L1 : (Instr.lookup 66 (.map (some mb)) p.v false).run Tryd.prog w.drew = .ok lv w.drew) (CA : Calls Tryd.prog 29 #[lv, tv] w.drew fun e w' => ∃ v1 sv w2 u w3, e = .returned v1 ∧ S w' ∧ (Instr.buildSlice 44 1 #[(0, EnV.a ⟨id, x⟩)]).run Tryd.prog w' = .ok sv w2 ∧ S w2 ∧ (Builtin.append_ #[44, 44] 44 #[v1, sv]).run Tryd.prog w2 = .ok u w3 ∧ S w3 ∧ Calls Tryd.prog 28 #[.pointer (some ⟨rb, 0, none⟩), p.v, u] w3 fun e w4 => e = .returned (.tuple #[]) ∧ S w4 ∧ Fin w4) (EB2 : (Instr.buildSlice 44 1 #[(0, EnV.a ⟨id, x⟩)]).run Tryd.prog w.drew = .ok sv2 y1) (SB : S y1) (L2 : (Instr.lookup 66 (.map (some mb)) p.v false).run Tryd.prog y1 = .ok lv y1) (CB : Calls Tryd.prog 29 #[lv, tv] y1 fun e w' => ∃ v1 u y3, e = .returned v1 ∧ S w' ∧ (Builtin.append_ #[44, 44] 44 #[v1, sv2]).run Tryd.prog w' = .ok u y3 ∧ S y3 ∧ Calls Tryd.prog 28 #[.pointer (some ⟨rb, 0, none⟩), p.v, u] y3 fun e w4 => e = .returned (.tuple #[]) ∧ S w4 ∧ Fin w4)
    (h1 : ∀ (v1 sv u : Value) (a' : Act) (w' : World), Fin w' → a' = ((((((((((((((((a).put (some 22) (.pointer (some ⟨rb, 0, none⟩))).put (some 23) (p.v)).put (some 24) (.pointer (some ⟨rb, 0, none⟩))).put (some 25) (.pointer (some ⟨rb, 0, none⟩))).put (some 26) (.pointer (some ⟨rb, 0 + 0, none⟩))).put (some 27) (.map (some mb))).put (some 28) (p.v)).put (some 30) (tv)).put (some 32) (id.v)).put (some 33) (x.v)).put (some 34) (EnV.a ⟨id, x⟩)).put (some 29) (lv)).put (some 31) (v1)).put (some 35) (sv)).put (some 36) (u)).put (some 37) (.tuple #[]) → Q .normal a' w')
    (h2 : ∀ (v1 u : Value) (a' : Act) (w' : World), Fin w' → a' = ((((((((((((((((a).put (some 22) (.pointer (some ⟨rb, 0, none⟩))).put (some 23) (p.v)).put (some 24) (.pointer (some ⟨rb, 0, none⟩))).put (some 25) (.pointer (some ⟨rb, 0, none⟩))).put (some 26) (.pointer (some ⟨rb, 0 + 0, none⟩))).put (some 27) (.map (some mb))).put (some 28) (p.v)).put (some 30) (tv)).put (some 32) (id.v)).put (some 33) (x.v)).put (some 34) (EnV.a ⟨id, x⟩)).put (some 29) (lv)).put (some 35) (sv2)).put (some 31) (v1)).put (some 36) (u)).put (some 37) (.tuple #[]) → Q .normal a' w')
    (h3 : ∀ (v1 u : Value) (a' : Act) (w' : World), Fin w' → a' = ((((((((((((((((a).put (some 22) (.pointer (some ⟨rb, 0, none⟩))).put (some 23) (p.v)).put (some 24) (.pointer (some ⟨rb, 0, none⟩))).put (some 25) (.pointer (some ⟨rb, 0, none⟩))).put (some 26) (.pointer (some ⟨rb, 0 + 0, none⟩))).put (some 27) (.map (some mb))).put (some 28) (p.v)).put (some 30) (tv)).put (some 32) (id.v)).put (some 33) (x.v)).put (some 34) (EnV.a ⟨id, x⟩)).put (some 35) (sv2)).put (some 29) (lv)).put (some 31) (v1)).put (some 36) (u)).put (some 37) (.tuple #[]) → Q .normal a' w') :
    (Code.region 4 put4_ops true).wp Tryd.prog Q a w := by
  refine wp_region_noPanic ?_
  refine wp_region_held_drew (S := fun w' => S w') (by kernel_rfl) (h0) (fun hHeld => ?_)
  refine wpAnyH_take (i := 0) (oi := put4_o0) (v := .pointer (some ⟨rb, 0, none⟩)) rfl (by kernel_rfl) (by kernel_rfl) (by kernel_rfl) (fun _ _ _ h => h) (Or.inl ⟨by rfl, fun w1 hw => exec_move rfl t0⟩) hHeld ?_
  change wpAnyH _ _ _ _ _ _ _ (a.put (some 22) (.pointer (some ⟨rb, 0, none⟩))) _
  obtain ⟨a1, e1⟩ : ∃ act, act = a.put (some 22) (.pointer (some ⟨rb, 0, none⟩)) := ⟨_, rfl⟩
  rw [← e1] at h1 h2 h3 ⊢
  have z1 := pz e1 hsz
  replace t0 := pk e1 t0 (by decide)
  replace t6 := pk e1 t6 (by decide)
  replace t7 := pk e1 t7 (by decide)
  replace t8 := pk e1 t8 (by decide)
  replace t11 := pk e1 t11 (by decide)
  have t22 := pq e1 hsz (by decide)
  clear e1 hsz
  refine wpAnyH_take (i := 1) (oi := put4_o1) (v := p.v) rfl (by kernel_rfl) (by kernel_rfl) (by kernel_rfl) (fun _ _ _ h => h) (Or.inl ⟨by rfl, fun w1 hw => exec_load rfl t6 (LP _ hw)⟩) hHeld ?_
  change wpAnyH _ _ _ _ _ _ _ (a1.put (some 23) (p.v)) _
  obtain ⟨a2, e2⟩ : ∃ act, act = a1.put (some 23) (p.v) := ⟨_, rfl⟩
  rw [← e2] at h1 h2 h3 ⊢
  have z2 := pz e2 z1
  replace t0 := pk e2 t0 (by decide)
  replace t6 := pk e2 t6 (by decide)
  replace t7 := pk e2 t7 (by decide)
  replace t8 := pk e2 t8 (by decide)
  replace t11 := pk e2 t11 (by decide)
  replace t22 := pk e2 t22 (by decide)
  have t23 := pq e2 z1 (by decide)
  clear e2 z1
  refine wpAnyH_take (i := 2) (oi := put4_o2) (v := .pointer (some ⟨rb, 0, none⟩)) rfl (by kernel_rfl) (by kernel_rfl) (by kernel_rfl) (fun _ _ _ h => h) (Or.inl ⟨by rfl, fun w1 hw => exec_move rfl t0⟩) hHeld ?_
  change wpAnyH _ _ _ _ _ _ _ (a2.put (some 24) (.pointer (some ⟨rb, 0, none⟩))) _
  obtain ⟨a3, e3⟩ : ∃ act, act = a2.put (some 24) (.pointer (some ⟨rb, 0, none⟩)) := ⟨_, rfl⟩
  rw [← e3] at h1 h2 h3 ⊢
  have z3 := pz e3 z2
  replace t6 := pk e3 t6 (by decide)
  replace t7 := pk e3 t7 (by decide)
  replace t8 := pk e3 t8 (by decide)
  replace t11 := pk e3 t11 (by decide)
  replace t22 := pk e3 t22 (by decide)
  replace t23 := pk e3 t23 (by decide)
  clear t0
  have t24 := pq e3 z2 (by decide)
  clear e3 z2
  refine wpAnyH_take (i := 3) (oi := put4_o3) (v := .pointer (some ⟨rb, 0, none⟩)) rfl (by kernel_rfl) (by kernel_rfl) (by kernel_rfl) (fun _ _ _ h => h) (Or.inl ⟨by rfl, fun w1 hw => exec_nilCheck rfl t24⟩) hHeld ?_
  change wpAnyH _ _ _ _ _ _ _ (a3.put (some 25) (.pointer (some ⟨rb, 0, none⟩))) _
  obtain ⟨a4, e4⟩ : ∃ act, act = a3.put (some 25) (.pointer (some ⟨rb, 0, none⟩)) := ⟨_, rfl⟩
  rw [← e4] at h1 h2 h3 ⊢
  have z4 := pz e4 z3
  replace t6 := pk e4 t6 (by decide)
  replace t7 := pk e4 t7 (by decide)
  replace t8 := pk e4 t8 (by decide)
  replace t11 := pk e4 t11 (by decide)
  replace t22 := pk e4 t22 (by decide)
  replace t23 := pk e4 t23 (by decide)
  clear t24
  have t25 := pq e4 z3 (by decide)
  clear e4 z3
  refine wpAnyH_take (i := 4) (oi := put4_o4) (v := .pointer (some ⟨rb, 0 + 0, none⟩)) rfl (by kernel_rfl) (by kernel_rfl) (by kernel_rfl) (fun _ _ _ h => h) (Or.inl ⟨by rfl, fun w1 hw => exec_fieldAt rfl t25 (fg_69_0 _ _ _)⟩) hHeld ?_
  change wpAnyH _ _ _ _ _ _ _ (a4.put (some 26) (.pointer (some ⟨rb, 0 + 0, none⟩))) _
  obtain ⟨a5, e5⟩ : ∃ act, act = a4.put (some 26) (.pointer (some ⟨rb, 0 + 0, none⟩)) := ⟨_, rfl⟩
  rw [← e5] at h1 h2 h3 ⊢
  have z5 := pz e5 z4
  replace t6 := pk e5 t6 (by decide)
  replace t7 := pk e5 t7 (by decide)
  replace t8 := pk e5 t8 (by decide)
  replace t11 := pk e5 t11 (by decide)
  replace t22 := pk e5 t22 (by decide)
  replace t23 := pk e5 t23 (by decide)
  clear t25
  have t26 := pq e5 z4 (by decide)
  clear e5 z4
  refine wpAnyH_take (i := 5) (oi := put4_o5) (v := .map (some mb)) rfl (by kernel_rfl) (by kernel_rfl) (by kernel_rfl) (fun _ _ _ h => h) (Or.inl ⟨by rfl, fun w1 hw => exec_load rfl t26 (LR _ hw)⟩) hHeld ?_
  change wpAnyH _ _ _ _ _ _ _ (a5.put (some 27) (.map (some mb))) _
  obtain ⟨a6, e6⟩ : ∃ act, act = a5.put (some 27) (.map (some mb)) := ⟨_, rfl⟩
  rw [← e6] at h1 h2 h3 ⊢
  have z6 := pz e6 z5
  replace t6 := pk e6 t6 (by decide)
  replace t7 := pk e6 t7 (by decide)
  replace t8 := pk e6 t8 (by decide)
  replace t11 := pk e6 t11 (by decide)
  replace t22 := pk e6 t22 (by decide)
  replace t23 := pk e6 t23 (by decide)
  clear t26
  have t27 := pq e6 z5 (by decide)
  clear e6 z5
  refine wpAnyH_take (i := 6) (oi := put4_o6) (v := p.v) rfl (by kernel_rfl) (by kernel_rfl) (by kernel_rfl) (fun _ _ _ h => h) (Or.inl ⟨by rfl, fun w1 hw => exec_load rfl t6 (LP _ hw)⟩) hHeld ?_
  change wpAnyH _ _ _ _ _ _ _ (a6.put (some 28) (p.v)) _
  obtain ⟨a7, e7⟩ : ∃ act, act = a6.put (some 28) (p.v) := ⟨_, rfl⟩
  rw [← e7] at h1 h2 h3 ⊢
  have z7 := pz e7 z6
  replace t7 := pk e7 t7 (by decide)
  replace t8 := pk e7 t8 (by decide)
  replace t11 := pk e7 t11 (by decide)
  replace t22 := pk e7 t22 (by decide)
  replace t23 := pk e7 t23 (by decide)
  replace t27 := pk e7 t27 (by decide)
  clear t6
  have t28 := pq e7 z6 (by decide)
  clear e7 z6
  refine wpAnyH_take (i := 8) (oi := put4_o8) (v := tv) rfl (by kernel_rfl) (by kernel_rfl) (by kernel_rfl) (fun _ _ _ h => h) (Or.inl ⟨by rfl, fun w1 hw => exec_load rfl t11 (LT _ hw)⟩) hHeld ?_
  change wpAnyH _ _ _ _ _ _ _ (a7.put (some 30) (tv)) _
  obtain ⟨a8, e8⟩ : ∃ act, act = a7.put (some 30) (tv) := ⟨_, rfl⟩
  rw [← e8] at h1 h2 h3 ⊢
  have z8 := pz e8 z7
  replace t7 := pk e8 t7 (by decide)
  replace t8 := pk e8 t8 (by decide)
  replace t22 := pk e8 t22 (by decide)
  replace t23 := pk e8 t23 (by decide)
  replace t27 := pk e8 t27 (by decide)
  replace t28 := pk e8 t28 (by decide)
  clear t11
  have t30 := pq e8 z7 (by decide)
  clear e8 z7
  refine wpAnyH_take (i := 10) (oi := put4_o10) (v := id.v) rfl (by kernel_rfl) (by kernel_rfl) (by kernel_rfl) (fun _ _ _ h => h) (Or.inl ⟨by rfl, fun w1 hw => exec_load rfl t7 (LI _ hw)⟩) hHeld ?_
  change wpAnyH _ _ _ _ _ _ _ (a8.put (some 32) (id.v)) _
  obtain ⟨a9, e9⟩ : ∃ act, act = a8.put (some 32) (id.v) := ⟨_, rfl⟩
  rw [← e9] at h1 h2 h3 ⊢
  have z9 := pz e9 z8
  replace t8 := pk e9 t8 (by decide)
  replace t22 := pk e9 t22 (by decide)
  replace t23 := pk e9 t23 (by decide)
  replace t27 := pk e9 t27 (by decide)
  replace t28 := pk e9 t28 (by decide)
  replace t30 := pk e9 t30 (by decide)
  clear t7
  have t32 := pq e9 z8 (by decide)
  clear e9 z8
  refine wpAnyH_take (i := 11) (oi := put4_o11) (v := x.v) rfl (by kernel_rfl) (by kernel_rfl) (by kernel_rfl) (fun _ _ _ h => h) (Or.inl ⟨by rfl, fun w1 hw => exec_load rfl t8 (LV _ hw)⟩) hHeld ?_
  change wpAnyH _ _ _ _ _ _ _ (a9.put (some 33) (x.v)) _
  obtain ⟨a10, e10⟩ : ∃ act, act = a9.put (some 33) (x.v) := ⟨_, rfl⟩
  rw [← e10] at h1 h2 h3 ⊢
  have z10 := pz e10 z9
  replace t22 := pk e10 t22 (by decide)
  replace t23 := pk e10 t23 (by decide)
  replace t27 := pk e10 t27 (by decide)
  replace t28 := pk e10 t28 (by decide)
  replace t30 := pk e10 t30 (by decide)
  replace t32 := pk e10 t32 (by decide)
  clear t8
  have t33 := pq e10 z9 (by decide)
  clear e10 z9
  refine wpAnyH_take (i := 12) (oi := put4_o12) (v := EnV.a ⟨id, x⟩) rfl (by kernel_rfl) (by kernel_rfl) (by kernel_rfl) (fun _ _ _ h => h) (Or.inl ⟨by rfl, fun w1 hw => exec_ben hid rfl t32 t33⟩) hHeld ?_
  change wpAnyH _ _ _ _ _ _ _ (a10.put (some 34) (EnV.a ⟨id, x⟩)) _
  obtain ⟨a11, e11⟩ : ∃ act, act = a10.put (some 34) (EnV.a ⟨id, x⟩) := ⟨_, rfl⟩
  rw [← e11] at h1 h2 h3 ⊢
  have z11 := pz e11 z10
  replace t22 := pk e11 t22 (by decide)
  replace t23 := pk e11 t23 (by decide)
  replace t27 := pk e11 t27 (by decide)
  replace t28 := pk e11 t28 (by decide)
  replace t30 := pk e11 t30 (by decide)
  clear t32 t33
  have t34 := pq e11 z10 (by decide)
  clear e11 z10
  refine wpAnyH_ready (rs := [7, 13]) (by kernel_rfl) (by simp) ?_
  refine AllReadyH.cons (o := put4_o7) rfl (fun K hK => ?_) (AllReadyH.cons (o := put4_o13) rfl (fun K hK => ?_) (AllReadyH.nil))
  · clear h3
    have X := exec_lookup (P := Tryd.prog) (a := a11) (o := put4_o7) rfl t27 t28 L1
    rw [if_pos (by rfl), Oper.wp, X]
    show K _ _
    clear X
    refine hK.out _ _ (h0) (fun hHeld => ?_)
    clear hK K
    change wpAnyH _ _ _ _ _ _ _ (a11.put (some 29) (lv)) _
    obtain ⟨a12, e12⟩ : ∃ act, act = a11.put (some 29) (lv) := ⟨_, rfl⟩
    rw [← e12] at h1 h2 ⊢
    have z12 := pz e12 z11
    replace t22 := pk e12 t22 (by decide)
    replace t23 := pk e12 t23 (by decide)
    replace t30 := pk e12 t30 (by decide)
    replace t34 := pk e12 t34 (by decide)
    clear t27 t28
    have t29 := pq e12 z11 (by decide)
    clear e12 z11
    refine wpAnyH_ready (rs := [9, 13]) (by kernel_rfl) (by simp) ?_
    refine AllReadyH.cons (o := put4_o9) rfl (fun K hK => ?_) (AllReadyH.cons (o := put4_o13) rfl (fun K hK => ?_) (AllReadyH.nil))
    · clear h2
      rw [if_pos (by rfl)]
      unfold put4_o9 at hK ⊢
      go_simp
      refine (CA).mono ?_
      rintro e x13 ⟨v1, sv, w2, u, w3, rfl, S1, EB, S2, EA, S3, CL⟩
      try go_wp2_with fail
      replace h1 := h1 v1 sv u
      refine hK.out _ _ (S1) (fun hHeld => ?_)
      clear hK K
      change wpAnyH _ _ _ _ _ _ _ (a12.put (some 31) (v1)) _
      obtain ⟨a13, e13⟩ : ∃ act, act = a12.put (some 31) (v1) := ⟨_, rfl⟩
      rw [← e13] at h1 ⊢
      have z13 := pz e13 z12
      replace t22 := pk e13 t22 (by decide)
      replace t23 := pk e13 t23 (by decide)
      replace t34 := pk e13 t34 (by decide)
      clear t30 t29
      have t31 := pq e13 z12 (by decide)
      clear e13 z12
      refine wpAnyH_ready (rs := [13]) (by kernel_rfl) (by simp) ?_
      refine AllReadyH.cons (o := put4_o13) rfl (fun K hK => ?_) AllReadyH.nil
      have X := exec_buildSlice (P := Tryd.prog) (a := a13) (o := put4_o13) rfl t34 EB
      rw [if_pos (by rfl), Oper.wp, X]
      show K _ _
      clear X
      refine hK.out _ _ (S2) (fun hHeld => ?_)
      clear hK K
      change wpAnyH _ _ _ _ _ _ _ (a13.put (some 35) (sv)) _
      obtain ⟨a14, e14⟩ : ∃ act, act = a13.put (some 35) (sv) := ⟨_, rfl⟩
      rw [← e14] at h1 ⊢
      have z14 := pz e14 z13
      replace t22 := pk e14 t22 (by decide)
      replace t23 := pk e14 t23 (by decide)
      replace t31 := pk e14 t31 (by decide)
      clear t34
      have t35 := pq e14 z13 (by decide)
      clear e14 z13
      refine wpAnyH_ready (rs := [14]) (by kernel_rfl) (by simp) ?_
      refine AllReadyH.cons (o := put4_o14) rfl (fun K hK => ?_) AllReadyH.nil
      have X := exec_append (P := Tryd.prog) (a := a14) (o := put4_o14) rfl t31 t35 EA
      rw [if_pos (by rfl), Oper.wp, X]
      show K _ _
      clear X
      refine hK.out _ _ (S3) (fun hHeld => ?_)
      clear hK K
      change wpAnyH _ _ _ _ _ _ _ (a14.put (some 36) (u)) _
      obtain ⟨a15, e15⟩ : ∃ act, act = a14.put (some 36) (u) := ⟨_, rfl⟩
      rw [← e15] at h1 ⊢
      have z15 := pz e15 z14
      replace t22 := pk e15 t22 (by decide)
      replace t23 := pk e15 t23 (by decide)
      clear t31 t35
      have t36 := pq e15 z14 (by decide)
      clear e15 z14
      refine wpAnyH_ready (rs := [15]) (by kernel_rfl) (by simp) ?_
      refine AllReadyH.cons (o := put4_o15) rfl (fun K hK => ?_) AllReadyH.nil
      rw [if_pos (by rfl)]
      unfold put4_o15 at hK ⊢
      go_simp
      refine (CL).mono ?_
      rintro e x16 ⟨rfl, S4, HF⟩
      try go_wp2_with fail
      skip
      refine hK.out _ _ (S4) (fun hHeld => ?_)
      clear hK K
      change wpAnyH _ _ _ _ _ _ _ (a15.put (some 37) (.tuple #[])) _
      obtain ⟨a16, e16⟩ : ∃ act, act = a15.put (some 37) (.tuple #[]) := ⟨_, rfl⟩
      rw [← e16] at h1 ⊢
      have z16 := pz e16 z15
      clear t22 t23 t36
      clear e16 z15
      exact wpAnyH_done (by kernel_rfl) (NoPanic.normal (h1 _ _ (HF) rfl)) _
    · clear h1
      have X := exec_buildSlice (P := Tryd.prog) (a := a12) (o := put4_o13) rfl t34 EB2
      rw [if_pos (by rfl), Oper.wp, X]
      show K _ _
      clear X
      refine hK.out _ _ (SB) (fun hHeld => ?_)
      clear hK K
      change wpAnyH _ _ _ _ _ _ _ (a12.put (some 35) (sv2)) _
      obtain ⟨a17, e17⟩ : ∃ act, act = a12.put (some 35) (sv2) := ⟨_, rfl⟩
      rw [← e17] at h2 ⊢
      have z17 := pz e17 z12
      replace t22 := pk e17 t22 (by decide)
      replace t23 := pk e17 t23 (by decide)
      replace t30 := pk e17 t30 (by decide)
      replace t29 := pk e17 t29 (by decide)
      clear t34
      have t35 := pq e17 z12 (by decide)
      clear e17 z12
      refine wpAnyH_ready (rs := [9]) (by kernel_rfl) (by simp) ?_
      refine AllReadyH.cons (o := put4_o9) rfl (fun K hK => ?_) AllReadyH.nil
      rw [if_pos (by rfl)]
      unfold put4_o9 at hK ⊢
      go_simp
      refine (CB).mono ?_
      rintro e x18 ⟨v1, u, y3, rfl, S2, EA, S3, CL⟩
      try go_wp2_with fail
      replace h2 := h2 v1 u
      refine hK.out _ _ (S2) (fun hHeld => ?_)
      clear hK K
      change wpAnyH _ _ _ _ _ _ _ (a17.put (some 31) (v1)) _
      obtain ⟨a18, e18⟩ : ∃ act, act = a17.put (some 31) (v1) := ⟨_, rfl⟩
      rw [← e18] at h2 ⊢
      have z18 := pz e18 z17
      replace t22 := pk e18 t22 (by decide)
      replace t23 := pk e18 t23 (by decide)
      replace t35 := pk e18 t35 (by decide)
      clear t30 t29
      have t31 := pq e18 z17 (by decide)
      clear e18 z17
      refine wpAnyH_ready (rs := [14]) (by kernel_rfl) (by simp) ?_
      refine AllReadyH.cons (o := put4_o14) rfl (fun K hK => ?_) AllReadyH.nil
      have X := exec_append (P := Tryd.prog) (a := a18) (o := put4_o14) rfl t31 t35 EA
      rw [if_pos (by rfl), Oper.wp, X]
      show K _ _
      clear X
      refine hK.out _ _ (S3) (fun hHeld => ?_)
      clear hK K
      change wpAnyH _ _ _ _ _ _ _ (a18.put (some 36) (u)) _
      obtain ⟨a19, e19⟩ : ∃ act, act = a18.put (some 36) (u) := ⟨_, rfl⟩
      rw [← e19] at h2 ⊢
      have z19 := pz e19 z18
      replace t22 := pk e19 t22 (by decide)
      replace t23 := pk e19 t23 (by decide)
      clear t35 t31
      have t36 := pq e19 z18 (by decide)
      clear e19 z18
      refine wpAnyH_ready (rs := [15]) (by kernel_rfl) (by simp) ?_
      refine AllReadyH.cons (o := put4_o15) rfl (fun K hK => ?_) AllReadyH.nil
      rw [if_pos (by rfl)]
      unfold put4_o15 at hK ⊢
      go_simp
      refine (CL).mono ?_
      rintro e x20 ⟨rfl, S4, HF⟩
      try go_wp2_with fail
      skip
      refine hK.out _ _ (S4) (fun hHeld => ?_)
      clear hK K
      change wpAnyH _ _ _ _ _ _ _ (a19.put (some 37) (.tuple #[])) _
      obtain ⟨a20, e20⟩ : ∃ act, act = a19.put (some 37) (.tuple #[]) := ⟨_, rfl⟩
      rw [← e20] at h2 ⊢
      have z20 := pz e20 z19
      clear t22 t23 t36
      clear e20 z19
      exact wpAnyH_done (by kernel_rfl) (NoPanic.normal (h2 _ _ (HF) rfl)) _
  · clear h1 h2
    have X := exec_buildSlice (P := Tryd.prog) (a := a11) (o := put4_o13) rfl t34 EB2
    rw [if_pos (by rfl), Oper.wp, X]
    show K _ _
    clear X
    refine hK.out _ _ (SB) (fun hHeld => ?_)
    clear hK K
    change wpAnyH _ _ _ _ _ _ _ (a11.put (some 35) (sv2)) _
    obtain ⟨a21, e21⟩ : ∃ act, act = a11.put (some 35) (sv2) := ⟨_, rfl⟩
    rw [← e21] at h3 ⊢
    have z21 := pz e21 z11
    replace t22 := pk e21 t22 (by decide)
    replace t23 := pk e21 t23 (by decide)
    replace t27 := pk e21 t27 (by decide)
    replace t28 := pk e21 t28 (by decide)
    replace t30 := pk e21 t30 (by decide)
    clear t34
    have t35 := pq e21 z11 (by decide)
    clear e21 z11
    refine wpAnyH_ready (rs := [7]) (by kernel_rfl) (by simp) ?_
    refine AllReadyH.cons (o := put4_o7) rfl (fun K hK => ?_) AllReadyH.nil
    have X := exec_lookup (P := Tryd.prog) (a := a21) (o := put4_o7) rfl t27 t28 L2
    rw [if_pos (by rfl), Oper.wp, X]
    show K _ _
    clear X
    refine hK.out _ _ (SB) (fun hHeld => ?_)
    clear hK K
    change wpAnyH _ _ _ _ _ _ _ (a21.put (some 29) (lv)) _
    obtain ⟨a22, e22⟩ : ∃ act, act = a21.put (some 29) (lv) := ⟨_, rfl⟩
    rw [← e22] at h3 ⊢
    have z22 := pz e22 z21
    replace t22 := pk e22 t22 (by decide)
    replace t23 := pk e22 t23 (by decide)
    replace t30 := pk e22 t30 (by decide)
    replace t35 := pk e22 t35 (by decide)
    clear t27 t28
    have t29 := pq e22 z21 (by decide)
    clear e22 z21
    refine wpAnyH_ready (rs := [9]) (by kernel_rfl) (by simp) ?_
    refine AllReadyH.cons (o := put4_o9) rfl (fun K hK => ?_) AllReadyH.nil
    rw [if_pos (by rfl)]
    unfold put4_o9 at hK ⊢
    go_simp
    refine (CB).mono ?_
    rintro e x23 ⟨v1, u, y3, rfl, S2, EA, S3, CL⟩
    try go_wp2_with fail
    replace h3 := h3 v1 u
    refine hK.out _ _ (S2) (fun hHeld => ?_)
    clear hK K
    change wpAnyH _ _ _ _ _ _ _ (a22.put (some 31) (v1)) _
    obtain ⟨a23, e23⟩ : ∃ act, act = a22.put (some 31) (v1) := ⟨_, rfl⟩
    rw [← e23] at h3 ⊢
    have z23 := pz e23 z22
    replace t22 := pk e23 t22 (by decide)
    replace t23 := pk e23 t23 (by decide)
    replace t35 := pk e23 t35 (by decide)
    clear t30 t29
    have t31 := pq e23 z22 (by decide)
    clear e23 z22
    refine wpAnyH_ready (rs := [14]) (by kernel_rfl) (by simp) ?_
    refine AllReadyH.cons (o := put4_o14) rfl (fun K hK => ?_) AllReadyH.nil
    have X := exec_append (P := Tryd.prog) (a := a23) (o := put4_o14) rfl t31 t35 EA
    rw [if_pos (by rfl), Oper.wp, X]
    show K _ _
    clear X
    refine hK.out _ _ (S3) (fun hHeld => ?_)
    clear hK K
    change wpAnyH _ _ _ _ _ _ _ (a23.put (some 36) (u)) _
    obtain ⟨a24, e24⟩ : ∃ act, act = a23.put (some 36) (u) := ⟨_, rfl⟩
    rw [← e24] at h3 ⊢
    have z24 := pz e24 z23
    replace t22 := pk e24 t22 (by decide)
    replace t23 := pk e24 t23 (by decide)
    clear t35 t31
    have t36 := pq e24 z23 (by decide)
    clear e24 z23
    refine wpAnyH_ready (rs := [15]) (by kernel_rfl) (by simp) ?_
    refine AllReadyH.cons (o := put4_o15) rfl (fun K hK => ?_) AllReadyH.nil
    rw [if_pos (by rfl)]
    unfold put4_o15 at hK ⊢
    go_simp
    refine (CL).mono ?_
    rintro e x25 ⟨rfl, S4, HF⟩
    try go_wp2_with fail
    skip
    refine hK.out _ _ (S4) (fun hHeld => ?_)
    clear hK K
    change wpAnyH _ _ _ _ _ _ _ (a24.put (some 37) (.tuple #[])) _
    obtain ⟨a25, e25⟩ : ∃ act, act = a24.put (some 37) (.tuple #[]) := ⟨_, rfl⟩
    rw [← e25] at h3 ⊢
    have z25 := pz e25 z24
    clear t22 t23 t36
    clear e25 z24
    exact wpAnyH_done (by kernel_rfl) (NoPanic.normal (h3 _ _ (HF) rfl)) _
def put5_o0 : Oper := { dst := some 38, op := Op.move (Operand.tmp 0), type := 25, pos := "regs.go:54", after := #[], guard := none }
def put5_o1 : Oper := { dst := some 39, op := Op.makeFunc (Fn.func 31) #[] #[Operand.tmp 6, Operand.tmp 11], type := 79, pos := "regs.go:54", after := #[], guard := none }
def put5_o2 : Oper := { dst := some 40, op := Op.call { callee := Callee.value (Operand.func 30), args := #[Operand.tmp 38, Operand.tmp 39], argTypes := #[25, 79] }, type := 27, pos := "regs.go:54", after := #[{ on := 0, ground := Ground.data }, { on := 1, ground := Ground.data }], guard := none }
def put5_o3 : Oper := { dst := some 10, op := Op.assign (Operand.tmp 40), type := 27, pos := "regs.go:54", after := #[{ on := 2, ground := Ground.data }, { on := 2, ground := Ground.chain }, { on := 0, ground := Ground.phase }, { on := 1, ground := Ground.phase }, { on := 2, ground := Ground.phase }], guard := none }
def put5_ops : Array Oper := #[put5_o0, put5_o1, put5_o2, put5_o3]
set_option maxRecDepth 100000 in
set_option maxHeartbeats 4000000 in
theorem put5 {rb pb tb : Nat} (Fin : Nat → World → Prop) (a : Act) (w : World) (Q : Exit → Act → World → Prop) (zz : a.tmps.size = 41)
    (t0 : a.tmps.getD 0 undef = .pointer (some ⟨rb, 0, none⟩))
    (t6 : a.tmps.getD 6 undef = .pointer (some ⟨pb, 0, none⟩))
    (t11 : a.tmps.getD 11 undef = .pointer (some ⟨tb, 0, none⟩))
    (CS : Calls Tryd.prog 30 #[.pointer (some ⟨rb, 0, none⟩), .func (.func 31) #[] #[.pointer (some ⟨pb, 0, none⟩), .pointer (some ⟨tb, 0, none⟩)]] w fun e w' => ∃ bk, e = .returned (.pointer (some ⟨bk, 0, none⟩)) ∧ Fin bk w')
    (h : ∀ (bk : Nat) (a' : Act) (w' : World), Fin bk w' → a' = ((((a).put (some 38) (.pointer (some ⟨rb, 0, none⟩))).put (some 39) (.func (.func 31) #[] #[.pointer (some ⟨pb, 0, none⟩), .pointer (some ⟨tb, 0, none⟩)])).put (some 40) (.pointer (some ⟨bk, 0, none⟩))).put (some 10) (.pointer (some ⟨bk, 0, none⟩)) → Q .normal a' w') :
    (Code.region 5 put5_ops false).wp Tryd.prog Q a w := by
  refine z0 rfl ?_
  refine zv rfl (exec_move rfl (zi t0 rfl)) ?_
  refine zv (v := .func (.func 31) #[] #[.pointer (some ⟨pb, 0, none⟩), .pointer (some ⟨tb, 0, none⟩)]) rfl (exec_mkf2 rfl (zi t6 rfl) (zi t11 rfl)) ?_
  refine zc rfl (exec_c2 rfl (zg zz rfl) (zg zz rfl)) (CS) (fun e x2 hx => ?_)
  obtain ⟨bk, rfl, HF⟩ := hx
  replace h := h bk
  refine ⟨_, rfl, ?_⟩
  refine zv rfl (exec_assign rfl (zg zz rfl)) ?_
  exact ze rfl (h _ _ (HF) rfl)
def del3_o0 : Oper := { dst := some 10, op := Op.move (Operand.tmp 0), type := 25, pos := "regs.go:65", after := #[], guard := none }
def del3_o1 : Oper := { dst := some 11, op := Op.nilCheck (Operand.tmp 10), type := 0, pos := "regs.go:65", after := #[{ on := 0, ground := Ground.data }], guard := none }
def del3_o2 : Oper := { dst := some 12, op := Op.fieldAddr 69 (Operand.tmp 11) 0, type := 0, pos := "regs.go:65", after := #[{ on := 1, ground := Ground.data }], guard := none }
def del3_o3 : Oper := { dst := some 13, op := Op.load 66 (Operand.tmp 12), type := 66, pos := "regs.go:65", after := #[{ on := 2, ground := Ground.data }], guard := none }
def del3_o4 : Oper := { dst := some 14, op := Op.load 34 (Operand.tmp 4), type := 34, pos := "regs.go:65", after := #[], guard := none }
def del3_o5 : Oper := { dst := some 15, op := Op.lookup 66 (Operand.tmp 13) (Operand.tmp 14) false, type := 44, pos := "regs.go:65", after := #[{ on := 3, ground := Ground.data }, { on := 4, ground := Ground.data }], guard := none }
def del3_o6 : Oper := { dst := some 16, op := Op.move (Operand.tmp 2), type := 63, pos := "regs.go:65", after := #[], guard := none }
def del3_o7 : Oper := { dst := some 17, op := Op.call { callee := Callee.value (Operand.func 27), args := #[Operand.tmp 15, Operand.tmp 16], argTypes := #[44, 63] }, type := 83, pos := "regs.go:65", after := #[{ on := 5, ground := Ground.data }, { on := 6, ground := Ground.data }], guard := none }
def del3_o8 : Oper := { dst := some 7, op := Op.alloc 83, type := 0, pos := "regs.go:65", after := #[], guard := none }
def del3_o9 : Oper := { dst := none, op := Op.store 83 (Operand.tmp 7) (Operand.tmp 17), type := 0, pos := "regs.go:65", after := #[{ on := 8, ground := Ground.data }, { on := 7, ground := Ground.data }, { on := 7, ground := Ground.chain }, { on := 0, ground := Ground.phase }, { on := 1, ground := Ground.phase }, { on := 2, ground := Ground.phase }, { on := 3, ground := Ground.phase }, { on := 4, ground := Ground.phase }, { on := 5, ground := Ground.phase }, { on := 6, ground := Ground.phase }, { on := 7, ground := Ground.phase }, { on := 8, ground := Ground.phase }], guard := none }
def del3_ops : Array Oper := #[del3_o0, del3_o1, del3_o2, del3_o3, del3_o4, del3_o5, del3_o6, del3_o7, del3_o8, del3_o9]
set_option maxRecDepth 100000 in
set_option maxHeartbeats 4000000 in
theorem del3 {rb mb pb tb2 : Nat} {p : PlK} {fv lv : Value} {y1 : World} (S : World → Prop) (Fin : Nat → Value → World → Prop) (a : Act) (w : World) (Q : Exit → Act → World → Prop) (hsz : a.tmps.size = 32)
    (t0 : a.tmps.getD 0 undef = .pointer (some ⟨rb, 0, none⟩))
    (t2 : a.tmps.getD 2 undef = fv)
    (t4 : a.tmps.getD 4 undef = .pointer (some ⟨pb, 0, none⟩))
    (h0 : S w.drew) (LR : ∀ W, S W → (Instr.loadAt 66 (.pointer (some ⟨rb, 0 + 0, none⟩))).run Tryd.prog W = .ok (.map (some mb)) W) (LP : ∀ W, S W → (Instr.loadAt 34 (.pointer (some ⟨pb, 0, none⟩))).run Tryd.prog W = .ok (p.v) W) (LK : ∀ W, S W → (Instr.lookup 66 (.map (some mb)) p.v false).run Tryd.prog W = .ok lv W) (CA : Calls Tryd.prog 27 #[lv, fv] w.drew fun e w' => ∃ tv tb wa wb, e = .returned tv ∧ S w' ∧ (Instr.alloc 83 true (.tuple #[])).run Tryd.prog w' = .ok (.pointer (some ⟨tb, 0, none⟩)) wa ∧ S wa ∧ (Instr.storeAt 83 (.pointer (some ⟨tb, 0, none⟩)) tv).run Tryd.prog wa = .ok () wb ∧ S wb ∧ Fin tb tv wb) (EB : (Instr.alloc 83 true (.tuple #[])).run Tryd.prog w.drew = .ok (.pointer (some ⟨tb2, 0, none⟩)) y1) (S4 : S y1) (CB : Calls Tryd.prog 27 #[lv, fv] y1 fun e w' => ∃ tv wb, e = .returned tv ∧ S w' ∧ (Instr.storeAt 83 (.pointer (some ⟨tb2, 0, none⟩)) tv).run Tryd.prog w' = .ok () wb ∧ S wb ∧ Fin tb2 tv wb)
    (h1 : ∀ (tv : Value) (tb : Nat) (a' : Act) (w' : World), Fin tb tv w' → a' = (((((((((a).put (some 10) (.pointer (some ⟨rb, 0, none⟩))).put (some 11) (.pointer (some ⟨rb, 0, none⟩))).put (some 12) (.pointer (some ⟨rb, 0 + 0, none⟩))).put (some 13) (.map (some mb))).put (some 14) (p.v)).put (some 15) (lv)).put (some 16) (fv)).put (some 17) (tv)).put (some 7) (.pointer (some ⟨tb, 0, none⟩)) → Q .normal a' w')
    (h2 : ∀ (tv : Value) (a' : Act) (w' : World), Fin tb2 tv w' → a' = (((((((((a).put (some 10) (.pointer (some ⟨rb, 0, none⟩))).put (some 11) (.pointer (some ⟨rb, 0, none⟩))).put (some 12) (.pointer (some ⟨rb, 0 + 0, none⟩))).put (some 13) (.map (some mb))).put (some 14) (p.v)).put (some 15) (lv)).put (some 16) (fv)).put (some 7) (.pointer (some ⟨tb2, 0, none⟩))).put (some 17) (tv) → Q .normal a' w') :
    (Code.region 3 del3_ops true).wp Tryd.prog Q a w := by
  refine wp_region_noPanic ?_
  refine wp_region_held_drew (S := fun w' => S w') (by kernel_rfl) (h0) (fun hHeld => ?_)
  refine wpAnyH_take (i := 0) (oi := del3_o0) (v := .pointer (some ⟨rb, 0, none⟩)) rfl (by kernel_rfl) (by kernel_rfl) (by kernel_rfl) (fun _ _ _ h => h) (Or.inl ⟨by rfl, fun w1 hw => exec_move rfl t0⟩) hHeld ?_
  change wpAnyH _ _ _ _ _ _ _ (a.put (some 10) (.pointer (some ⟨rb, 0, none⟩))) _
  obtain ⟨a1, e1⟩ : ∃ act, act = a.put (some 10) (.pointer (some ⟨rb, 0, none⟩)) := ⟨_, rfl⟩
  rw [← e1] at h1 h2 ⊢
  have z1 := pz e1 hsz
  replace t2 := pk e1 t2 (by decide)
  replace t4 := pk e1 t4 (by decide)
  clear t0
  have t10 := pq e1 hsz (by decide)
  clear e1 hsz
  refine wpAnyH_take (i := 1) (oi := del3_o1) (v := .pointer (some ⟨rb, 0, none⟩)) rfl (by kernel_rfl) (by kernel_rfl) (by kernel_rfl) (fun _ _ _ h => h) (Or.inl ⟨by rfl, fun w1 hw => exec_nilCheck rfl t10⟩) hHeld ?_
  change wpAnyH _ _ _ _ _ _ _ (a1.put (some 11) (.pointer (some ⟨rb, 0, none⟩))) _
  obtain ⟨a2, e2⟩ : ∃ act, act = a1.put (some 11) (.pointer (some ⟨rb, 0, none⟩)) := ⟨_, rfl⟩
  rw [← e2] at h1 h2 ⊢
  have z2 := pz e2 z1
  replace t2 := pk e2 t2 (by decide)
  replace t4 := pk e2 t4 (by decide)
  clear t10
  have t11 := pq e2 z1 (by decide)
  clear e2 z1
  refine wpAnyH_take (i := 2) (oi := del3_o2) (v := .pointer (some ⟨rb, 0 + 0, none⟩)) rfl (by kernel_rfl) (by kernel_rfl) (by kernel_rfl) (fun _ _ _ h => h) (Or.inl ⟨by rfl, fun w1 hw => exec_fieldAt rfl t11 (fg_69_0 _ _ _)⟩) hHeld ?_
  change wpAnyH _ _ _ _ _ _ _ (a2.put (some 12) (.pointer (some ⟨rb, 0 + 0, none⟩))) _
  obtain ⟨a3, e3⟩ : ∃ act, act = a2.put (some 12) (.pointer (some ⟨rb, 0 + 0, none⟩)) := ⟨_, rfl⟩
  rw [← e3] at h1 h2 ⊢
  have z3 := pz e3 z2
  replace t2 := pk e3 t2 (by decide)
  replace t4 := pk e3 t4 (by decide)
  clear t11
  have t12 := pq e3 z2 (by decide)
  clear e3 z2
  refine wpAnyH_take (i := 3) (oi := del3_o3) (v := .map (some mb)) rfl (by kernel_rfl) (by kernel_rfl) (by kernel_rfl) (fun _ _ _ h => h) (Or.inl ⟨by rfl, fun w1 hw => exec_load rfl t12 (LR _ hw)⟩) hHeld ?_
  change wpAnyH _ _ _ _ _ _ _ (a3.put (some 13) (.map (some mb))) _
  obtain ⟨a4, e4⟩ : ∃ act, act = a3.put (some 13) (.map (some mb)) := ⟨_, rfl⟩
  rw [← e4] at h1 h2 ⊢
  have z4 := pz e4 z3
  replace t2 := pk e4 t2 (by decide)
  replace t4 := pk e4 t4 (by decide)
  clear t12
  have t13 := pq e4 z3 (by decide)
  clear e4 z3
  refine wpAnyH_take (i := 4) (oi := del3_o4) (v := p.v) rfl (by kernel_rfl) (by kernel_rfl) (by kernel_rfl) (fun _ _ _ h => h) (Or.inl ⟨by rfl, fun w1 hw => exec_load rfl t4 (LP _ hw)⟩) hHeld ?_
  change wpAnyH _ _ _ _ _ _ _ (a4.put (some 14) (p.v)) _
  obtain ⟨a5, e5⟩ : ∃ act, act = a4.put (some 14) (p.v) := ⟨_, rfl⟩
  rw [← e5] at h1 h2 ⊢
  have z5 := pz e5 z4
  replace t2 := pk e5 t2 (by decide)
  replace t13 := pk e5 t13 (by decide)
  clear t4
  have t14 := pq e5 z4 (by decide)
  clear e5 z4
  refine wpAnyH_take (i := 5) (oi := del3_o5) (v := lv) rfl (by kernel_rfl) (by kernel_rfl) (by kernel_rfl) (fun _ _ _ h => h) (Or.inl ⟨by rfl, fun w1 hw => exec_lookup rfl t13 t14 (LK _ hw)⟩) hHeld ?_
  change wpAnyH _ _ _ _ _ _ _ (a5.put (some 15) (lv)) _
  obtain ⟨a6, e6⟩ : ∃ act, act = a5.put (some 15) (lv) := ⟨_, rfl⟩
  rw [← e6] at h1 h2 ⊢
  have z6 := pz e6 z5
  replace t2 := pk e6 t2 (by decide)
  clear t13 t14
  have t15 := pq e6 z5 (by decide)
  clear e6 z5
  refine wpAnyH_take (i := 6) (oi := del3_o6) (v := fv) rfl (by kernel_rfl) (by kernel_rfl) (by kernel_rfl) (fun _ _ _ h => h) (Or.inl ⟨by rfl, fun w1 hw => exec_move rfl t2⟩) hHeld ?_
  change wpAnyH _ _ _ _ _ _ _ (a6.put (some 16) (fv)) _
  obtain ⟨a7, e7⟩ : ∃ act, act = a6.put (some 16) (fv) := ⟨_, rfl⟩
  rw [← e7] at h1 h2 ⊢
  have z7 := pz e7 z6
  replace t15 := pk e7 t15 (by decide)
  clear t2
  have t16 := pq e7 z6 (by decide)
  clear e7 z6
  refine wpAnyH_ready (rs := [7, 8]) (by kernel_rfl) (by simp) ?_
  refine AllReadyH.cons (o := del3_o7) rfl (fun K hK => ?_) (AllReadyH.cons (o := del3_o8) rfl (fun K hK => ?_) (AllReadyH.nil))
  · clear h2
    rw [if_pos (by rfl)]
    unfold del3_o7 at hK ⊢
    go_simp
    refine (CA).mono ?_
    rintro e x8 ⟨tv, tb, wa, wb, rfl, S1, EA, S2, ES, S3, HF⟩
    try go_wp2_with fail
    replace h1 := h1 tv tb
    refine hK.out _ _ (S1) (fun hHeld => ?_)
    clear hK K
    change wpAnyH _ _ _ _ _ _ _ (a7.put (some 17) (tv)) _
    obtain ⟨a8, e8⟩ : ∃ act, act = a7.put (some 17) (tv) := ⟨_, rfl⟩
    rw [← e8] at h1 ⊢
    have z8 := pz e8 z7
    clear t15 t16
    have t17 := pq e8 z7 (by decide)
    clear e8 z7
    refine wpAnyH_ready (rs := [8]) (by kernel_rfl) (by simp) ?_
    refine AllReadyH.cons (o := del3_o8) rfl (fun K hK => ?_) AllReadyH.nil
    have X := exec_alloc (P := Tryd.prog) (a := a8) (o := del3_o8) rfl EA
    rw [if_pos (by rfl), Oper.wp, X]
    show K _ _
    clear X
    refine hK.out _ _ (S2) (fun hHeld => ?_)
    clear hK K
    change wpAnyH _ _ _ _ _ _ _ (a8.put (some 7) (.pointer (some ⟨tb, 0, none⟩))) _
    obtain ⟨a9, e9⟩ : ∃ act, act = a8.put (some 7) (.pointer (some ⟨tb, 0, none⟩)) := ⟨_, rfl⟩
    rw [← e9] at h1 ⊢
    have z9 := pz e9 z8
    replace t17 := pk e9 t17 (by decide)
    have t7 := pq e9 z8 (by decide)
    clear e9 z8
    refine wpAnyH_ready (rs := [9]) (by kernel_rfl) (by simp) ?_
    refine AllReadyH.cons (o := del3_o9) rfl (fun K hK => ?_) AllReadyH.nil
    have X := exec_store (P := Tryd.prog) (a := a9) (o := del3_o9) rfl t7 t17 ES
    rw [if_pos (by rfl), Oper.wp, X]
    show K _ _
    clear X
    refine hK.out _ _ (S3) (fun hHeld => ?_)
    clear hK K
    exact wpAnyH_done (by kernel_rfl) (NoPanic.normal (h1 _ _ (HF) rfl)) _
  · clear h1
    have X := exec_alloc (P := Tryd.prog) (a := a7) (o := del3_o8) rfl EB
    rw [if_pos (by rfl), Oper.wp, X]
    show K _ _
    clear X
    refine hK.out _ _ (S4) (fun hHeld => ?_)
    clear hK K
    change wpAnyH _ _ _ _ _ _ _ (a7.put (some 7) (.pointer (some ⟨tb2, 0, none⟩))) _
    obtain ⟨a11, e11⟩ : ∃ act, act = a7.put (some 7) (.pointer (some ⟨tb2, 0, none⟩)) := ⟨_, rfl⟩
    rw [← e11] at h2 ⊢
    have z11 := pz e11 z7
    replace t15 := pk e11 t15 (by decide)
    replace t16 := pk e11 t16 (by decide)
    have t7 := pq e11 z7 (by decide)
    clear e11 z7
    refine wpAnyH_ready (rs := [7]) (by kernel_rfl) (by simp) ?_
    refine AllReadyH.cons (o := del3_o7) rfl (fun K hK => ?_) AllReadyH.nil
    rw [if_pos (by rfl)]
    unfold del3_o7 at hK ⊢
    go_simp
    refine (CB).mono ?_
    rintro e x12 ⟨tv, wb, rfl, S5, ES, S6, HF⟩
    try go_wp2_with fail
    replace h2 := h2 tv
    refine hK.out _ _ (S5) (fun hHeld => ?_)
    clear hK K
    change wpAnyH _ _ _ _ _ _ _ (a11.put (some 17) (tv)) _
    obtain ⟨a12, e12⟩ : ∃ act, act = a11.put (some 17) (tv) := ⟨_, rfl⟩
    rw [← e12] at h2 ⊢
    have z12 := pz e12 z11
    replace t7 := pk e12 t7 (by decide)
    clear t15 t16
    have t17 := pq e12 z11 (by decide)
    clear e12 z11
    refine wpAnyH_ready (rs := [9]) (by kernel_rfl) (by simp) ?_
    refine AllReadyH.cons (o := del3_o9) rfl (fun K hK => ?_) AllReadyH.nil
    have X := exec_store (P := Tryd.prog) (a := a12) (o := del3_o9) rfl t7 t17 ES
    rw [if_pos (by rfl), Oper.wp, X]
    show K _ _
    clear X
    refine hK.out _ _ (S6) (fun hHeld => ?_)
    clear hK K
    exact wpAnyH_done (by kernel_rfl) (NoPanic.normal (h2 _ _ (HF) rfl)) _
def del4_o0 : Oper := { dst := some 18, op := Op.move (Operand.tmp 0), type := 25, pos := "regs.go:66", after := #[], guard := none }
def del4_o1 : Oper := { dst := some 19, op := Op.load 34 (Operand.tmp 4), type := 34, pos := "regs.go:66", after := #[], guard := none }
def del4_o2 : Oper := { dst := some 20, op := Op.move (Operand.tmp 0), type := 25, pos := "regs.go:66", after := #[], guard := none }
def del4_o3 : Oper := { dst := some 21, op := Op.nilCheck (Operand.tmp 20), type := 0, pos := "regs.go:66", after := #[{ on := 2, ground := Ground.data }], guard := none }
def del4_o4 : Oper := { dst := some 22, op := Op.fieldAddr 69 (Operand.tmp 21) 0, type := 0, pos := "regs.go:66", after := #[{ on := 3, ground := Ground.data }], guard := none }
def del4_o5 : Oper := { dst := some 23, op := Op.load 66 (Operand.tmp 22), type := 66, pos := "regs.go:66", after := #[{ on := 4, ground := Ground.data }], guard := none }
def del4_o6 : Oper := { dst := some 24, op := Op.load 34 (Operand.tmp 4), type := 34, pos := "regs.go:66", after := #[], guard := none }
def del4_o7 : Oper := { dst := some 25, op := Op.lookup 66 (Operand.tmp 23) (Operand.tmp 24) false, type := 44, pos := "regs.go:66", after := #[{ on := 5, ground := Ground.data }, { on := 6, ground := Ground.data }], guard := none }
def del4_o8 : Oper := { dst := some 26, op := Op.load 83 (Operand.tmp 7), type := 83, pos := "regs.go:66", after := #[], guard := none }
def del4_o9 : Oper := { dst := some 27, op := Op.call { callee := Callee.value (Operand.func 29), args := #[Operand.tmp 25, Operand.tmp 26], argTypes := #[44, 83] }, type := 44, pos := "regs.go:66", after := #[{ on := 7, ground := Ground.data }, { on := 8, ground := Ground.data }], guard := none }
def del4_o10 : Oper := { dst := some 28, op := Op.call { callee := Callee.value (Operand.func 28), args := #[Operand.tmp 18, Operand.tmp 19, Operand.tmp 27], argTypes := #[25, 34, 44] }, type := 0, pos := "regs.go:66", after := #[{ on := 0, ground := Ground.data }, { on := 1, ground := Ground.data }, { on := 9, ground := Ground.data }, { on := 9, ground := Ground.chain }], guard := none }
def del4_ops : Array Oper := #[del4_o0, del4_o1, del4_o2, del4_o3, del4_o4, del4_o5, del4_o6, del4_o7, del4_o8, del4_o9, del4_o10]
set_option maxRecDepth 100000 in
set_option maxHeartbeats 4000000 in
theorem del4 {rb mb pb tb : Nat} {p : PlK} {lv tv : Value} (S Fin : World → Prop) (a : Act) (w : World) (Q : Exit → Act → World → Prop) (zz : a.tmps.size = 32)
    (t0 : a.tmps.getD 0 undef = .pointer (some ⟨rb, 0, none⟩))
    (t4 : a.tmps.getD 4 undef = .pointer (some ⟨pb, 0, none⟩))
    (t7 : a.tmps.getD 7 undef = .pointer (some ⟨tb, 0, none⟩))
    (h0 : S w.drew) (LR : ∀ W, S W → (Instr.loadAt 66 (.pointer (some ⟨rb, 0 + 0, none⟩))).run Tryd.prog W = .ok (.map (some mb)) W) (LP : ∀ W, S W → (Instr.loadAt 34 (.pointer (some ⟨pb, 0, none⟩))).run Tryd.prog W = .ok (p.v) W) (LT : ∀ W, S W → (Instr.loadAt 83 (.pointer (some ⟨tb, 0, none⟩))).run Tryd.prog W = .ok (tv) W) (L1 : (Instr.lookup 66 (.map (some mb)) p.v false).run Tryd.prog w.drew = .ok lv w.drew) (CA : Calls Tryd.prog 29 #[lv, tv] w.drew fun e w' => ∃ u, e = .returned u ∧ S w' ∧ Calls Tryd.prog 28 #[.pointer (some ⟨rb, 0, none⟩), p.v, u] w' fun e w4 => e = .returned (.tuple #[]) ∧ S w4 ∧ Fin w4)
    (h : ∀ (u : Value) (a' : Act) (w' : World), Fin w' → a' = (((((((((((a).put (some 18) (.pointer (some ⟨rb, 0, none⟩))).put (some 19) (p.v)).put (some 20) (.pointer (some ⟨rb, 0, none⟩))).put (some 21) (.pointer (some ⟨rb, 0, none⟩))).put (some 22) (.pointer (some ⟨rb, 0 + 0, none⟩))).put (some 23) (.map (some mb))).put (some 24) (p.v)).put (some 26) (tv)).put (some 25) (lv)).put (some 27) (u)).put (some 28) (.tuple #[]) → Q .normal a' w') :
    (Code.region 4 del4_ops true).wp Tryd.prog Q a w := by
  refine y0 (fun w' => S w') (h0) (fun hHeld => ?_)
  refine yv 0 rfl rfl (fun w1 hw => exec_move rfl (zi t0 rfl)) hHeld ?_
  refine yv 1 rfl rfl (fun w1 hw => exec_load rfl (zi t4 rfl) (LP _ hw)) hHeld ?_
  refine yv 2 rfl rfl (fun w1 hw => exec_move rfl (zi t0 rfl)) hHeld ?_
  refine yv 3 rfl rfl (fun w1 hw => exec_nilCheck rfl (zg zz rfl)) hHeld ?_
  refine yv 4 rfl rfl (fun w1 hw => exec_fieldAt rfl (zg zz rfl) (fg_69_0 _ _ _)) hHeld ?_
  refine yv 5 rfl rfl (fun w1 hw => exec_load rfl (zg zz rfl) (LR _ hw)) hHeld ?_
  refine yv 6 rfl rfl (fun w1 hw => exec_load rfl (zi t4 rfl) (LP _ hw)) hHeld ?_
  refine yv 8 rfl rfl (fun w1 hw => exec_load rfl (zi t7 rfl) (LT _ hw)) hHeld ?_
  refine yr (v := lv) 7 rfl rfl (exec_lookup rfl (zg zz rfl) (zg zz rfl) L1) (h0) (fun hHeld => ?_)
  refine yc 9 rfl rfl (exec_c2 rfl (zg zz rfl) (zg zz rfl)) (CA) (fun e x9 hx => ?_)
  obtain ⟨u, rfl, S1, CL⟩ := hx
  replace h := h u
  refine ⟨_, rfl, S1, fun hHeld => ?_⟩
  refine yc 10 rfl rfl (exec_c3 rfl (zg zz rfl) (zg zz rfl) (zg zz rfl)) (CL) (fun e x10 hx => ?_)
  obtain ⟨rfl, S2, HF⟩ := hx
  refine ⟨_, rfl, S2, fun hHeld => ?_⟩
  exact ye rfl (h _ _ (HF) rfl)
def del5_o0 : Oper := { dst := some 29, op := Op.move (Operand.tmp 0), type := 25, pos := "regs.go:67", after := #[], guard := none }
def del5_o1 : Oper := { dst := some 30, op := Op.makeFunc (Fn.func 39) #[] #[Operand.tmp 4, Operand.tmp 7], type := 79, pos := "regs.go:67", after := #[], guard := none }
def del5_o2 : Oper := { dst := some 31, op := Op.call { callee := Callee.value (Operand.func 30), args := #[Operand.tmp 29, Operand.tmp 30], argTypes := #[25, 79] }, type := 27, pos := "regs.go:67", after := #[{ on := 0, ground := Ground.data }, { on := 1, ground := Ground.data }], guard := none }
def del5_o3 : Oper := { dst := some 6, op := Op.assign (Operand.tmp 31), type := 27, pos := "regs.go:67", after := #[{ on := 2, ground := Ground.data }, { on := 2, ground := Ground.chain }, { on := 0, ground := Ground.phase }, { on := 1, ground := Ground.phase }, { on := 2, ground := Ground.phase }], guard := none }
def del5_ops : Array Oper := #[del5_o0, del5_o1, del5_o2, del5_o3]
set_option maxRecDepth 100000 in
set_option maxHeartbeats 4000000 in
theorem del5 {rb pb tb : Nat} (Fin : Nat → World → Prop) (a : Act) (w : World) (Q : Exit → Act → World → Prop) (zz : a.tmps.size = 32)
    (t0 : a.tmps.getD 0 undef = .pointer (some ⟨rb, 0, none⟩))
    (t4 : a.tmps.getD 4 undef = .pointer (some ⟨pb, 0, none⟩))
    (t7 : a.tmps.getD 7 undef = .pointer (some ⟨tb, 0, none⟩))
    (CS : Calls Tryd.prog 30 #[.pointer (some ⟨rb, 0, none⟩), .func (.func 39) #[] #[.pointer (some ⟨pb, 0, none⟩), .pointer (some ⟨tb, 0, none⟩)]] w fun e w' => ∃ bk, e = .returned (.pointer (some ⟨bk, 0, none⟩)) ∧ Fin bk w')
    (h : ∀ (bk : Nat) (a' : Act) (w' : World), Fin bk w' → a' = ((((a).put (some 29) (.pointer (some ⟨rb, 0, none⟩))).put (some 30) (.func (.func 39) #[] #[.pointer (some ⟨pb, 0, none⟩), .pointer (some ⟨tb, 0, none⟩)])).put (some 31) (.pointer (some ⟨bk, 0, none⟩))).put (some 6) (.pointer (some ⟨bk, 0, none⟩)) → Q .normal a' w') :
    (Code.region 5 del5_ops false).wp Tryd.prog Q a w := by
  refine z0 rfl ?_
  refine zv rfl (exec_move rfl (zi t0 rfl)) ?_
  refine zv (v := .func (.func 39) #[] #[.pointer (some ⟨pb, 0, none⟩), .pointer (some ⟨tb, 0, none⟩)]) rfl (exec_mkf2 rfl (zi t4 rfl) (zi t7 rfl)) ?_
  refine zc rfl (exec_c2 rfl (zg zz rfl) (zg zz rfl)) (CS) (fun e x2 hx => ?_)
  obtain ⟨bk, rfl, HF⟩ := hx
  replace h := h bk
  refine ⟨_, rfl, ?_⟩
  refine zv rfl (exec_assign rfl (zg zz rfl)) ?_
  exact ze rfl (h _ _ (HF) rfl)
def delb0_o0 : Oper := { dst := some 4, op := Op.move (Operand.tmp 0), type := 25, pos := "regs.go:68", after := #[], guard := none }
def delb0_o1 : Oper := { dst := some 5, op := Op.load 34 (Operand.tmp 1), type := 34, pos := "regs.go:68", after := #[], guard := none }
def delb0_o2 : Oper := { dst := some 6, op := Op.move (Operand.tmp 0), type := 25, pos := "regs.go:68", after := #[], guard := none }
def delb0_o3 : Oper := { dst := some 7, op := Op.nilCheck (Operand.tmp 6), type := 0, pos := "regs.go:68", after := #[{ on := 2, ground := Ground.data }], guard := none }
def delb0_o4 : Oper := { dst := some 8, op := Op.fieldAddr 69 (Operand.tmp 7) 0, type := 0, pos := "regs.go:68", after := #[{ on := 3, ground := Ground.data }], guard := none }
def delb0_o5 : Oper := { dst := some 9, op := Op.load 66 (Operand.tmp 8), type := 66, pos := "regs.go:68", after := #[{ on := 4, ground := Ground.data }], guard := none }
def delb0_o6 : Oper := { dst := some 10, op := Op.load 34 (Operand.tmp 1), type := 34, pos := "regs.go:68", after := #[], guard := none }
def delb0_o7 : Oper := { dst := some 11, op := Op.lookup 66 (Operand.tmp 9) (Operand.tmp 10) false, type := 44, pos := "regs.go:68", after := #[{ on := 5, ground := Ground.data }, { on := 6, ground := Ground.data }], guard := none }
def delb0_o8 : Oper := { dst := some 12, op := Op.load 83 (Operand.tmp 2), type := 83, pos := "regs.go:68", after := #[], guard := none }
def delb0_o9 : Oper := { dst := some 13, op := Op.call { callee := Callee.value (Operand.func 32), args := #[Operand.tmp 11, Operand.tmp 12], argTypes := #[44, 83] }, type := 44, pos := "regs.go:68", after := #[{ on := 7, ground := Ground.data }, { on := 8, ground := Ground.data }], guard := none }
def delb0_o10 : Oper := { dst := some 14, op := Op.call { callee := Callee.value (Operand.func 28), args := #[Operand.tmp 4, Operand.tmp 5, Operand.tmp 13], argTypes := #[25, 34, 44] }, type := 0, pos := "regs.go:68", after := #[{ on := 0, ground := Ground.data }, { on := 1, ground := Ground.data }, { on := 9, ground := Ground.data }, { on := 9, ground := Ground.chain }], guard := none }
def delb0_ops : Array Oper := #[delb0_o0, delb0_o1, delb0_o2, delb0_o3, delb0_o4, delb0_o5, delb0_o6, delb0_o7, delb0_o8, delb0_o9, delb0_o10]
set_option maxRecDepth 100000 in
set_option maxHeartbeats 4000000 in
theorem delb0 {rb mb pb tb : Nat} {p : PlK} {lv tv : Value} (S Fin : World → Prop) (a : Act) (w : World) (Q : Exit → Act → World → Prop) (zz : a.tmps.size = 15)
    (t0 : a.tmps.getD 0 undef = .pointer (some ⟨rb, 0, none⟩))
    (t1 : a.tmps.getD 1 undef = .pointer (some ⟨pb, 0, none⟩))
    (t2 : a.tmps.getD 2 undef = .pointer (some ⟨tb, 0, none⟩))
    (h0 : S w.drew) (LR : ∀ W, S W → (Instr.loadAt 66 (.pointer (some ⟨rb, 0 + 0, none⟩))).run Tryd.prog W = .ok (.map (some mb)) W) (LP : ∀ W, S W → (Instr.loadAt 34 (.pointer (some ⟨pb, 0, none⟩))).run Tryd.prog W = .ok (p.v) W) (LT : ∀ W, S W → (Instr.loadAt 83 (.pointer (some ⟨tb, 0, none⟩))).run Tryd.prog W = .ok (tv) W) (L1 : (Instr.lookup 66 (.map (some mb)) p.v false).run Tryd.prog w.drew = .ok lv w.drew) (CA : Calls Tryd.prog 32 #[lv, tv] w.drew fun e w' => ∃ u, e = .returned u ∧ S w' ∧ Calls Tryd.prog 28 #[.pointer (some ⟨rb, 0, none⟩), p.v, u] w' fun e w4 => e = .returned (.tuple #[]) ∧ S w4 ∧ Fin w4)
    (h : ∀ (u : Value) (a' : Act) (w' : World), Fin w' → a' = (((((((((((a).put (some 4) (.pointer (some ⟨rb, 0, none⟩))).put (some 5) (p.v)).put (some 6) (.pointer (some ⟨rb, 0, none⟩))).put (some 7) (.pointer (some ⟨rb, 0, none⟩))).put (some 8) (.pointer (some ⟨rb, 0 + 0, none⟩))).put (some 9) (.map (some mb))).put (some 10) (p.v)).put (some 12) (tv)).put (some 11) (lv)).put (some 13) (u)).put (some 14) (.tuple #[]) → Q .normal a' w') :
    (Code.region 0 delb0_ops true).wp Tryd.prog Q a w := by
  refine y0 (fun w' => S w') (h0) (fun hHeld => ?_)
  refine yv 0 rfl rfl (fun w1 hw => exec_move rfl (zi t0 rfl)) hHeld ?_
  refine yv 1 rfl rfl (fun w1 hw => exec_load rfl (zi t1 rfl) (LP _ hw)) hHeld ?_
  refine yv 2 rfl rfl (fun w1 hw => exec_move rfl (zi t0 rfl)) hHeld ?_
  refine yv 3 rfl rfl (fun w1 hw => exec_nilCheck rfl (zg zz rfl)) hHeld ?_
  refine yv 4 rfl rfl (fun w1 hw => exec_fieldAt rfl (zg zz rfl) (fg_69_0 _ _ _)) hHeld ?_
  refine yv 5 rfl rfl (fun w1 hw => exec_load rfl (zg zz rfl) (LR _ hw)) hHeld ?_
  refine yv 6 rfl rfl (fun w1 hw => exec_load rfl (zi t1 rfl) (LP _ hw)) hHeld ?_
  refine yv 8 rfl rfl (fun w1 hw => exec_load rfl (zi t2 rfl) (LT _ hw)) hHeld ?_
  refine yr (v := lv) 7 rfl rfl (exec_lookup rfl (zg zz rfl) (zg zz rfl) L1) (h0) (fun hHeld => ?_)
  refine yc 9 rfl rfl (exec_c2 rfl (zg zz rfl) (zg zz rfl)) (CA) (fun e x9 hx => ?_)
  obtain ⟨u, rfl, S1, CL⟩ := hx
  replace h := h u
  refine ⟨_, rfl, S1, fun hHeld => ?_⟩
  refine yc 10 rfl rfl (exec_c3 rfl (zg zz rfl) (zg zz rfl) (zg zz rfl)) (CL) (fun e x10 hx => ?_)
  obtain ⟨rfl, S2, HF⟩ := hx
  refine ⟨_, rfl, S2, fun hHeld => ?_⟩
  exact ye rfl (h _ _ (HF) rfl)
def add3_o0 : Oper := { dst := some 12, op := Op.move (Operand.tmp 0), type := 25, pos := "regs.go:77", after := #[], guard := none }
def add3_o1 : Oper := { dst := some 13, op := Op.nilCheck (Operand.tmp 12), type := 0, pos := "regs.go:77", after := #[{ on := 0, ground := Ground.data }], guard := none }
def add3_o2 : Oper := { dst := some 14, op := Op.fieldAddr 69 (Operand.tmp 13) 0, type := 0, pos := "regs.go:77", after := #[{ on := 1, ground := Ground.data }], guard := none }
def add3_o3 : Oper := { dst := some 15, op := Op.load 66 (Operand.tmp 14), type := 66, pos := "regs.go:77", after := #[{ on := 2, ground := Ground.data }], guard := none }
def add3_o4 : Oper := { dst := some 16, op := Op.load 34 (Operand.tmp 5), type := 34, pos := "regs.go:77", after := #[], guard := none }
def add3_o5 : Oper := { dst := some 17, op := Op.lookup 66 (Operand.tmp 15) (Operand.tmp 16) false, type := 44, pos := "regs.go:77", after := #[{ on := 3, ground := Ground.data }, { on := 4, ground := Ground.data }], guard := none }
def add3_o6 : Oper := { dst := some 18, op := Op.move (Operand.tmp 3), type := 63, pos := "regs.go:77", after := #[], guard := none }
def add3_o7 : Oper := { dst := some 19, op := Op.call { callee := Callee.value (Operand.func 27), args := #[Operand.tmp 17, Operand.tmp 18], argTypes := #[44, 63] }, type := 83, pos := "regs.go:77", after := #[{ on := 5, ground := Ground.data }, { on := 6, ground := Ground.data }], guard := none }
def add3_o8 : Oper := { dst := some 9, op := Op.alloc 83, type := 0, pos := "regs.go:77", after := #[], guard := none }
def add3_o9 : Oper := { dst := none, op := Op.store 83 (Operand.tmp 9) (Operand.tmp 19), type := 0, pos := "regs.go:77", after := #[{ on := 8, ground := Ground.data }, { on := 7, ground := Ground.data }, { on := 7, ground := Ground.chain }, { on := 0, ground := Ground.phase }, { on := 1, ground := Ground.phase }, { on := 2, ground := Ground.phase }, { on := 3, ground := Ground.phase }, { on := 4, ground := Ground.phase }, { on := 5, ground := Ground.phase }, { on := 6, ground := Ground.phase }, { on := 7, ground := Ground.phase }, { on := 8, ground := Ground.phase }], guard := none }
def add3_ops : Array Oper := #[add3_o0, add3_o1, add3_o2, add3_o3, add3_o4, add3_o5, add3_o6, add3_o7, add3_o8, add3_o9]
set_option maxRecDepth 100000 in
set_option maxHeartbeats 4000000 in
theorem add3 {rb mb pb tb2 : Nat} {p : PlK} {fv lv : Value} {y1 : World} (S : World → Prop) (Fin : Nat → Value → World → Prop) (a : Act) (w : World) (Q : Exit → Act → World → Prop) (hsz : a.tmps.size = 35)
    (t0 : a.tmps.getD 0 undef = .pointer (some ⟨rb, 0, none⟩))
    (t3 : a.tmps.getD 3 undef = fv)
    (t5 : a.tmps.getD 5 undef = .pointer (some ⟨pb, 0, none⟩))
    (h0 : S w.drew) (LR : ∀ W, S W → (Instr.loadAt 66 (.pointer (some ⟨rb, 0 + 0, none⟩))).run Tryd.prog W = .ok (.map (some mb)) W) (LP : ∀ W, S W → (Instr.loadAt 34 (.pointer (some ⟨pb, 0, none⟩))).run Tryd.prog W = .ok (p.v) W) (LK : ∀ W, S W → (Instr.lookup 66 (.map (some mb)) p.v false).run Tryd.prog W = .ok lv W) (CA : Calls Tryd.prog 27 #[lv, fv] w.drew fun e w' => ∃ tv tb wa wb, e = .returned tv ∧ S w' ∧ (Instr.alloc 83 true (.tuple #[])).run Tryd.prog w' = .ok (.pointer (some ⟨tb, 0, none⟩)) wa ∧ S wa ∧ (Instr.storeAt 83 (.pointer (some ⟨tb, 0, none⟩)) tv).run Tryd.prog wa = .ok () wb ∧ S wb ∧ Fin tb tv wb) (EB : (Instr.alloc 83 true (.tuple #[])).run Tryd.prog w.drew = .ok (.pointer (some ⟨tb2, 0, none⟩)) y1) (S4 : S y1) (CB : Calls Tryd.prog 27 #[lv, fv] y1 fun e w' => ∃ tv wb, e = .returned tv ∧ S w' ∧ (Instr.storeAt 83 (.pointer (some ⟨tb2, 0, none⟩)) tv).run Tryd.prog w' = .ok () wb ∧ S wb ∧ Fin tb2 tv wb)
    (h1 : ∀ (tv : Value) (tb : Nat) (a' : Act) (w' : World), Fin tb tv w' → a' = (((((((((a).put (some 12) (.pointer (some ⟨rb, 0, none⟩))).put (some 13) (.pointer (some ⟨rb, 0, none⟩))).put (some 14) (.pointer (some ⟨rb, 0 + 0, none⟩))).put (some 15) (.map (some mb))).put (some 16) (p.v)).put (some 17) (lv)).put (some 18) (fv)).put (some 19) (tv)).put (some 9) (.pointer (some ⟨tb, 0, none⟩)) → Q .normal a' w')
    (h2 : ∀ (tv : Value) (a' : Act) (w' : World), Fin tb2 tv w' → a' = (((((((((a).put (some 12) (.pointer (some ⟨rb, 0, none⟩))).put (some 13) (.pointer (some ⟨rb, 0, none⟩))).put (some 14) (.pointer (some ⟨rb, 0 + 0, none⟩))).put (some 15) (.map (some mb))).put (some 16) (p.v)).put (some 17) (lv)).put (some 18) (fv)).put (some 9) (.pointer (some ⟨tb2, 0, none⟩))).put (some 19) (tv) → Q .normal a' w') :
    (Code.region 3 add3_ops true).wp Tryd.prog Q a w := by
  refine wp_region_noPanic ?_
  refine wp_region_held_drew (S := fun w' => S w') (by kernel_rfl) (h0) (fun hHeld => ?_)
  refine wpAnyH_take (i := 0) (oi := add3_o0) (v := .pointer (some ⟨rb, 0, none⟩)) rfl (by kernel_rfl) (by kernel_rfl) (by kernel_rfl) (fun _ _ _ h => h) (Or.inl ⟨by rfl, fun w1 hw => exec_move rfl t0⟩) hHeld ?_
  change wpAnyH _ _ _ _ _ _ _ (a.put (some 12) (.pointer (some ⟨rb, 0, none⟩))) _
  obtain ⟨a1, e1⟩ : ∃ act, act = a.put (some 12) (.pointer (some ⟨rb, 0, none⟩)) := ⟨_, rfl⟩
  rw [← e1] at h1 h2 ⊢
  have z1 := pz e1 hsz
  replace t3 := pk e1 t3 (by decide)
  replace t5 := pk e1 t5 (by decide)
  clear t0
  have t12 := pq e1 hsz (by decide)
  clear e1 hsz
  refine wpAnyH_take (i := 1) (oi := add3_o1) (v := .pointer (some ⟨rb, 0, none⟩)) rfl (by kernel_rfl) (by kernel_rfl) (by kernel_rfl) (fun _ _ _ h => h) (Or.inl ⟨by rfl, fun w1 hw => exec_nilCheck rfl t12⟩) hHeld ?_
  change wpAnyH _ _ _ _ _ _ _ (a1.put (some 13) (.pointer (some ⟨rb, 0, none⟩))) _
  obtain ⟨a2, e2⟩ : ∃ act, act = a1.put (some 13) (.pointer (some ⟨rb, 0, none⟩)) := ⟨_, rfl⟩
  rw [← e2] at h1 h2 ⊢
  have z2 := pz e2 z1
  replace t3 := pk e2 t3 (by decide)
  replace t5 := pk e2 t5 (by decide)
  clear t12
  have t13 := pq e2 z1 (by decide)
  clear e2 z1
  refine wpAnyH_take (i := 2) (oi := add3_o2) (v := .pointer (some ⟨rb, 0 + 0, none⟩)) rfl (by kernel_rfl) (by kernel_rfl) (by kernel_rfl) (fun _ _ _ h => h) (Or.inl ⟨by rfl, fun w1 hw => exec_fieldAt rfl t13 (fg_69_0 _ _ _)⟩) hHeld ?_
  change wpAnyH _ _ _ _ _ _ _ (a2.put (some 14) (.pointer (some ⟨rb, 0 + 0, none⟩))) _
  obtain ⟨a3, e3⟩ : ∃ act, act = a2.put (some 14) (.pointer (some ⟨rb, 0 + 0, none⟩)) := ⟨_, rfl⟩
  rw [← e3] at h1 h2 ⊢
  have z3 := pz e3 z2
  replace t3 := pk e3 t3 (by decide)
  replace t5 := pk e3 t5 (by decide)
  clear t13
  have t14 := pq e3 z2 (by decide)
  clear e3 z2
  refine wpAnyH_take (i := 3) (oi := add3_o3) (v := .map (some mb)) rfl (by kernel_rfl) (by kernel_rfl) (by kernel_rfl) (fun _ _ _ h => h) (Or.inl ⟨by rfl, fun w1 hw => exec_load rfl t14 (LR _ hw)⟩) hHeld ?_
  change wpAnyH _ _ _ _ _ _ _ (a3.put (some 15) (.map (some mb))) _
  obtain ⟨a4, e4⟩ : ∃ act, act = a3.put (some 15) (.map (some mb)) := ⟨_, rfl⟩
  rw [← e4] at h1 h2 ⊢
  have z4 := pz e4 z3
  replace t3 := pk e4 t3 (by decide)
  replace t5 := pk e4 t5 (by decide)
  clear t14
  have t15 := pq e4 z3 (by decide)
  clear e4 z3
  refine wpAnyH_take (i := 4) (oi := add3_o4) (v := p.v) rfl (by kernel_rfl) (by kernel_rfl) (by kernel_rfl) (fun _ _ _ h => h) (Or.inl ⟨by rfl, fun w1 hw => exec_load rfl t5 (LP _ hw)⟩) hHeld ?_
  change wpAnyH _ _ _ _ _ _ _ (a4.put (some 16) (p.v)) _
  obtain ⟨a5, e5⟩ : ∃ act, act = a4.put (some 16) (p.v) := ⟨_, rfl⟩
  rw [← e5] at h1 h2 ⊢
  have z5 := pz e5 z4
  replace t3 := pk e5 t3 (by decide)
  replace t15 := pk e5 t15 (by decide)
  clear t5
  have t16 := pq e5 z4 (by decide)
  clear e5 z4
  refine wpAnyH_take (i := 5) (oi := add3_o5) (v := lv) rfl (by kernel_rfl) (by kernel_rfl) (by kernel_rfl) (fun _ _ _ h => h) (Or.inl ⟨by rfl, fun w1 hw => exec_lookup rfl t15 t16 (LK _ hw)⟩) hHeld ?_
  change wpAnyH _ _ _ _ _ _ _ (a5.put (some 17) (lv)) _
  obtain ⟨a6, e6⟩ : ∃ act, act = a5.put (some 17) (lv) := ⟨_, rfl⟩
  rw [← e6] at h1 h2 ⊢
  have z6 := pz e6 z5
  replace t3 := pk e6 t3 (by decide)
  clear t15 t16
  have t17 := pq e6 z5 (by decide)
  clear e6 z5
  refine wpAnyH_take (i := 6) (oi := add3_o6) (v := fv) rfl (by kernel_rfl) (by kernel_rfl) (by kernel_rfl) (fun _ _ _ h => h) (Or.inl ⟨by rfl, fun w1 hw => exec_move rfl t3⟩) hHeld ?_
  change wpAnyH _ _ _ _ _ _ _ (a6.put (some 18) (fv)) _
  obtain ⟨a7, e7⟩ : ∃ act, act = a6.put (some 18) (fv) := ⟨_, rfl⟩
  rw [← e7] at h1 h2 ⊢
  have z7 := pz e7 z6
  replace t17 := pk e7 t17 (by decide)
  clear t3
  have t18 := pq e7 z6 (by decide)
  clear e7 z6
  refine wpAnyH_ready (rs := [7, 8]) (by kernel_rfl) (by simp) ?_
  refine AllReadyH.cons (o := add3_o7) rfl (fun K hK => ?_) (AllReadyH.cons (o := add3_o8) rfl (fun K hK => ?_) (AllReadyH.nil))
  · clear h2
    rw [if_pos (by rfl)]
    unfold add3_o7 at hK ⊢
    go_simp
    refine (CA).mono ?_
    rintro e x8 ⟨tv, tb, wa, wb, rfl, S1, EA, S2, ES, S3, HF⟩
    try go_wp2_with fail
    replace h1 := h1 tv tb
    refine hK.out _ _ (S1) (fun hHeld => ?_)
    clear hK K
    change wpAnyH _ _ _ _ _ _ _ (a7.put (some 19) (tv)) _
    obtain ⟨a8, e8⟩ : ∃ act, act = a7.put (some 19) (tv) := ⟨_, rfl⟩
    rw [← e8] at h1 ⊢
    have z8 := pz e8 z7
    clear t17 t18
    have t19 := pq e8 z7 (by decide)
    clear e8 z7
    refine wpAnyH_ready (rs := [8]) (by kernel_rfl) (by simp) ?_
    refine AllReadyH.cons (o := add3_o8) rfl (fun K hK => ?_) AllReadyH.nil
    have X := exec_alloc (P := Tryd.prog) (a := a8) (o := add3_o8) rfl EA
    rw [if_pos (by rfl), Oper.wp, X]
    show K _ _
    clear X
    refine hK.out _ _ (S2) (fun hHeld => ?_)
    clear hK K
    change wpAnyH _ _ _ _ _ _ _ (a8.put (some 9) (.pointer (some ⟨tb, 0, none⟩))) _
    obtain ⟨a9, e9⟩ : ∃ act, act = a8.put (some 9) (.pointer (some ⟨tb, 0, none⟩)) := ⟨_, rfl⟩
    rw [← e9] at h1 ⊢
    have z9 := pz e9 z8
    replace t19 := pk e9 t19 (by decide)
    have t9 := pq e9 z8 (by decide)
    clear e9 z8
    refine wpAnyH_ready (rs := [9]) (by kernel_rfl) (by simp) ?_
    refine AllReadyH.cons (o := add3_o9) rfl (fun K hK => ?_) AllReadyH.nil
    have X := exec_store (P := Tryd.prog) (a := a9) (o := add3_o9) rfl t9 t19 ES
    rw [if_pos (by rfl), Oper.wp, X]
    show K _ _
    clear X
    refine hK.out _ _ (S3) (fun hHeld => ?_)
    clear hK K
    exact wpAnyH_done (by kernel_rfl) (NoPanic.normal (h1 _ _ (HF) rfl)) _
  · clear h1
    have X := exec_alloc (P := Tryd.prog) (a := a7) (o := add3_o8) rfl EB
    rw [if_pos (by rfl), Oper.wp, X]
    show K _ _
    clear X
    refine hK.out _ _ (S4) (fun hHeld => ?_)
    clear hK K
    change wpAnyH _ _ _ _ _ _ _ (a7.put (some 9) (.pointer (some ⟨tb2, 0, none⟩))) _
    obtain ⟨a11, e11⟩ : ∃ act, act = a7.put (some 9) (.pointer (some ⟨tb2, 0, none⟩)) := ⟨_, rfl⟩
    rw [← e11] at h2 ⊢
    have z11 := pz e11 z7
    replace t17 := pk e11 t17 (by decide)
    replace t18 := pk e11 t18 (by decide)
    have t9 := pq e11 z7 (by decide)
    clear e11 z7
    refine wpAnyH_ready (rs := [7]) (by kernel_rfl) (by simp) ?_
    refine AllReadyH.cons (o := add3_o7) rfl (fun K hK => ?_) AllReadyH.nil
    rw [if_pos (by rfl)]
    unfold add3_o7 at hK ⊢
    go_simp
    refine (CB).mono ?_
    rintro e x12 ⟨tv, wb, rfl, S5, ES, S6, HF⟩
    try go_wp2_with fail
    replace h2 := h2 tv
    refine hK.out _ _ (S5) (fun hHeld => ?_)
    clear hK K
    change wpAnyH _ _ _ _ _ _ _ (a11.put (some 19) (tv)) _
    obtain ⟨a12, e12⟩ : ∃ act, act = a11.put (some 19) (tv) := ⟨_, rfl⟩
    rw [← e12] at h2 ⊢
    have z12 := pz e12 z11
    replace t9 := pk e12 t9 (by decide)
    clear t17 t18
    have t19 := pq e12 z11 (by decide)
    clear e12 z11
    refine wpAnyH_ready (rs := [9]) (by kernel_rfl) (by simp) ?_
    refine AllReadyH.cons (o := add3_o9) rfl (fun K hK => ?_) AllReadyH.nil
    have X := exec_store (P := Tryd.prog) (a := a12) (o := add3_o9) rfl t9 t19 ES
    rw [if_pos (by rfl), Oper.wp, X]
    show K _ _
    clear X
    refine hK.out _ _ (S6) (fun hHeld => ?_)
    clear hK K
    exact wpAnyH_done (by kernel_rfl) (NoPanic.normal (h2 _ _ (HF) rfl)) _
def add4_o0 : Oper := { dst := some 20, op := Op.move (Operand.tmp 0), type := 25, pos := "regs.go:78", after := #[], guard := none }
def add4_o1 : Oper := { dst := some 21, op := Op.load 34 (Operand.tmp 5), type := 34, pos := "regs.go:78", after := #[], guard := none }
def add4_o2 : Oper := { dst := some 22, op := Op.move (Operand.tmp 0), type := 25, pos := "regs.go:78", after := #[], guard := none }
def add4_o3 : Oper := { dst := some 23, op := Op.nilCheck (Operand.tmp 22), type := 0, pos := "regs.go:78", after := #[{ on := 2, ground := Ground.data }], guard := none }
def add4_o4 : Oper := { dst := some 24, op := Op.fieldAddr 69 (Operand.tmp 23) 0, type := 0, pos := "regs.go:78", after := #[{ on := 3, ground := Ground.data }], guard := none }
def add4_o5 : Oper := { dst := some 25, op := Op.load 66 (Operand.tmp 24), type := 66, pos := "regs.go:78", after := #[{ on := 4, ground := Ground.data }], guard := none }
def add4_o6 : Oper := { dst := some 26, op := Op.load 34 (Operand.tmp 5), type := 34, pos := "regs.go:78", after := #[], guard := none }
def add4_o7 : Oper := { dst := some 27, op := Op.lookup 66 (Operand.tmp 25) (Operand.tmp 26) false, type := 44, pos := "regs.go:78", after := #[{ on := 5, ground := Ground.data }, { on := 6, ground := Ground.data }], guard := none }
def add4_o8 : Oper := { dst := some 28, op := Op.load 83 (Operand.tmp 9), type := 83, pos := "regs.go:78", after := #[], guard := none }
def add4_o9 : Oper := { dst := some 29, op := Op.makeFunc (Fn.func 35) #[] #[Operand.tmp 6], type := 91, pos := "regs.go:78", after := #[], guard := none }
def add4_o10 : Oper := { dst := some 30, op := Op.call { callee := Callee.value (Operand.func 34), args := #[Operand.tmp 27, Operand.tmp 28, Operand.tmp 29], argTypes := #[44, 83, 91] }, type := 44, pos := "regs.go:78", after := #[{ on := 7, ground := Ground.data }, { on := 8, ground := Ground.data }, { on := 9, ground := Ground.data }], guard := none }
def add4_o11 : Oper := { dst := some 31, op := Op.call { callee := Callee.value (Operand.func 28), args := #[Operand.tmp 20, Operand.tmp 21, Operand.tmp 30], argTypes := #[25, 34, 44] }, type := 0, pos := "regs.go:78", after := #[{ on := 0, ground := Ground.data }, { on := 1, ground := Ground.data }, { on := 10, ground := Ground.data }, { on := 10, ground := Ground.chain }], guard := none }
def add4_ops : Array Oper := #[add4_o0, add4_o1, add4_o2, add4_o3, add4_o4, add4_o5, add4_o6, add4_o7, add4_o8, add4_o9, add4_o10, add4_o11]
set_option maxRecDepth 100000 in
set_option maxHeartbeats 4000000 in
theorem add4 {rb mb pb tb : Nat} {p : PlK} {lv tv : Value} {nb : Nat} (S Fin : World → Prop) (a : Act) (w : World) (Q : Exit → Act → World → Prop) (zz : a.tmps.size = 35)
    (t0 : a.tmps.getD 0 undef = .pointer (some ⟨rb, 0, none⟩))
    (t5 : a.tmps.getD 5 undef = .pointer (some ⟨pb, 0, none⟩))
    (t6 : a.tmps.getD 6 undef = .pointer (some ⟨nb, 0, none⟩))
    (t9 : a.tmps.getD 9 undef = .pointer (some ⟨tb, 0, none⟩))
    (h0 : S w.drew) (LR : ∀ W, S W → (Instr.loadAt 66 (.pointer (some ⟨rb, 0 + 0, none⟩))).run Tryd.prog W = .ok (.map (some mb)) W) (LP : ∀ W, S W → (Instr.loadAt 34 (.pointer (some ⟨pb, 0, none⟩))).run Tryd.prog W = .ok (p.v) W) (LT : ∀ W, S W → (Instr.loadAt 83 (.pointer (some ⟨tb, 0, none⟩))).run Tryd.prog W = .ok (tv) W) (L1 : (Instr.lookup 66 (.map (some mb)) p.v false).run Tryd.prog w.drew = .ok lv w.drew) (CA : Calls Tryd.prog 34 #[lv, tv, .func (.func 35) #[] #[.pointer (some ⟨nb, 0, none⟩)]] w.drew fun e w' => ∃ u, e = .returned u ∧ S w' ∧ Calls Tryd.prog 28 #[.pointer (some ⟨rb, 0, none⟩), p.v, u] w' fun e w4 => e = .returned (.tuple #[]) ∧ S w4 ∧ Fin w4)
    (h : ∀ (u : Value) (a' : Act) (w' : World), Fin w' → a' = ((((((((((((a).put (some 20) (.pointer (some ⟨rb, 0, none⟩))).put (some 21) (p.v)).put (some 22) (.pointer (some ⟨rb, 0, none⟩))).put (some 23) (.pointer (some ⟨rb, 0, none⟩))).put (some 24) (.pointer (some ⟨rb, 0 + 0, none⟩))).put (some 25) (.map (some mb))).put (some 26) (p.v)).put (some 28) (tv)).put (some 29) (.func (.func 35) #[] #[.pointer (some ⟨nb, 0, none⟩)])).put (some 27) (lv)).put (some 30) (u)).put (some 31) (.tuple #[]) → Q .normal a' w') :
    (Code.region 4 add4_ops true).wp Tryd.prog Q a w := by
  refine y0 (fun w' => S w') (h0) (fun hHeld => ?_)
  refine yv 0 rfl rfl (fun w1 hw => exec_move rfl (zi t0 rfl)) hHeld ?_
  refine yv 1 rfl rfl (fun w1 hw => exec_load rfl (zi t5 rfl) (LP _ hw)) hHeld ?_
  refine yv 2 rfl rfl (fun w1 hw => exec_move rfl (zi t0 rfl)) hHeld ?_
  refine yv 3 rfl rfl (fun w1 hw => exec_nilCheck rfl (zg zz rfl)) hHeld ?_
  refine yv 4 rfl rfl (fun w1 hw => exec_fieldAt rfl (zg zz rfl) (fg_69_0 _ _ _)) hHeld ?_
  refine yv 5 rfl rfl (fun w1 hw => exec_load rfl (zg zz rfl) (LR _ hw)) hHeld ?_
  refine yv 6 rfl rfl (fun w1 hw => exec_load rfl (zi t5 rfl) (LP _ hw)) hHeld ?_
  refine yv 8 rfl rfl (fun w1 hw => exec_load rfl (zi t9 rfl) (LT _ hw)) hHeld ?_
  refine yv (v := .func (.func 35) #[] #[.pointer (some ⟨nb, 0, none⟩)]) 9 rfl rfl (fun w1 hw => exec_mkf1 rfl (zi t6 rfl)) hHeld ?_
  refine yr (v := lv) 7 rfl rfl (exec_lookup rfl (zg zz rfl) (zg zz rfl) L1) (h0) (fun hHeld => ?_)
  refine yc 10 rfl rfl (exec_c3 rfl (zg zz rfl) (zg zz rfl) (zg zz rfl)) (CA) (fun e x10 hx => ?_)
  obtain ⟨u, rfl, S1, CL⟩ := hx
  replace h := h u
  refine ⟨_, rfl, S1, fun hHeld => ?_⟩
  refine yc 11 rfl rfl (exec_c3 rfl (zg zz rfl) (zg zz rfl) (zg zz rfl)) (CL) (fun e x11 hx => ?_)
  obtain ⟨rfl, S2, HF⟩ := hx
  refine ⟨_, rfl, S2, fun hHeld => ?_⟩
  exact ye rfl (h _ _ (HF) rfl)
def add5_o0 : Oper := { dst := some 32, op := Op.move (Operand.tmp 0), type := 25, pos := "regs.go:79", after := #[], guard := none }
def add5_o1 : Oper := { dst := some 33, op := Op.makeFunc (Fn.func 37) #[] #[Operand.tmp 5, Operand.tmp 9], type := 79, pos := "regs.go:79", after := #[], guard := none }
def add5_o2 : Oper := { dst := some 34, op := Op.call { callee := Callee.value (Operand.func 30), args := #[Operand.tmp 32, Operand.tmp 33], argTypes := #[25, 79] }, type := 27, pos := "regs.go:79", after := #[{ on := 0, ground := Ground.data }, { on := 1, ground := Ground.data }], guard := none }
def add5_o3 : Oper := { dst := some 8, op := Op.assign (Operand.tmp 34), type := 27, pos := "regs.go:79", after := #[{ on := 2, ground := Ground.data }, { on := 2, ground := Ground.chain }, { on := 0, ground := Ground.phase }, { on := 1, ground := Ground.phase }, { on := 2, ground := Ground.phase }], guard := none }
def add5_ops : Array Oper := #[add5_o0, add5_o1, add5_o2, add5_o3]
set_option maxRecDepth 100000 in
set_option maxHeartbeats 4000000 in
theorem add5 {rb pb tb : Nat} (Fin : Nat → World → Prop) (a : Act) (w : World) (Q : Exit → Act → World → Prop) (zz : a.tmps.size = 35)
    (t0 : a.tmps.getD 0 undef = .pointer (some ⟨rb, 0, none⟩))
    (t5 : a.tmps.getD 5 undef = .pointer (some ⟨pb, 0, none⟩))
    (t9 : a.tmps.getD 9 undef = .pointer (some ⟨tb, 0, none⟩))
    (CS : Calls Tryd.prog 30 #[.pointer (some ⟨rb, 0, none⟩), .func (.func 37) #[] #[.pointer (some ⟨pb, 0, none⟩), .pointer (some ⟨tb, 0, none⟩)]] w fun e w' => ∃ bk, e = .returned (.pointer (some ⟨bk, 0, none⟩)) ∧ Fin bk w')
    (h : ∀ (bk : Nat) (a' : Act) (w' : World), Fin bk w' → a' = ((((a).put (some 32) (.pointer (some ⟨rb, 0, none⟩))).put (some 33) (.func (.func 37) #[] #[.pointer (some ⟨pb, 0, none⟩), .pointer (some ⟨tb, 0, none⟩)])).put (some 34) (.pointer (some ⟨bk, 0, none⟩))).put (some 8) (.pointer (some ⟨bk, 0, none⟩)) → Q .normal a' w') :
    (Code.region 5 add5_ops false).wp Tryd.prog Q a w := by
  refine z0 rfl ?_
  refine zv rfl (exec_move rfl (zi t0 rfl)) ?_
  refine zv (v := .func (.func 37) #[] #[.pointer (some ⟨pb, 0, none⟩), .pointer (some ⟨tb, 0, none⟩)]) rfl (exec_mkf2 rfl (zi t5 rfl) (zi t9 rfl)) ?_
  refine zc rfl (exec_c2 rfl (zg zz rfl) (zg zz rfl)) (CS) (fun e x2 hx => ?_)
  obtain ⟨bk, rfl, HF⟩ := hx
  replace h := h bk
  refine ⟨_, rfl, ?_⟩
  refine zv rfl (exec_assign rfl (zg zz rfl)) ?_
  exact ze rfl (h _ _ (HF) rfl)
def addb0_o0 : Oper := { dst := some 4, op := Op.move (Operand.tmp 0), type := 25, pos := "regs.go:80", after := #[], guard := none }
def addb0_o1 : Oper := { dst := some 5, op := Op.load 34 (Operand.tmp 1), type := 34, pos := "regs.go:80", after := #[], guard := none }
def addb0_o2 : Oper := { dst := some 6, op := Op.move (Operand.tmp 0), type := 25, pos := "regs.go:80", after := #[], guard := none }
def addb0_o3 : Oper := { dst := some 7, op := Op.nilCheck (Operand.tmp 6), type := 0, pos := "regs.go:80", after := #[{ on := 2, ground := Ground.data }], guard := none }
def addb0_o4 : Oper := { dst := some 8, op := Op.fieldAddr 69 (Operand.tmp 7) 0, type := 0, pos := "regs.go:80", after := #[{ on := 3, ground := Ground.data }], guard := none }
def addb0_o5 : Oper := { dst := some 9, op := Op.load 66 (Operand.tmp 8), type := 66, pos := "regs.go:80", after := #[{ on := 4, ground := Ground.data }], guard := none }
def addb0_o6 : Oper := { dst := some 10, op := Op.load 34 (Operand.tmp 1), type := 34, pos := "regs.go:80", after := #[], guard := none }
def addb0_o7 : Oper := { dst := some 11, op := Op.lookup 66 (Operand.tmp 9) (Operand.tmp 10) false, type := 44, pos := "regs.go:80", after := #[{ on := 5, ground := Ground.data }, { on := 6, ground := Ground.data }], guard := none }
def addb0_o8 : Oper := { dst := some 12, op := Op.load 83 (Operand.tmp 2), type := 83, pos := "regs.go:80", after := #[], guard := none }
def addb0_o9 : Oper := { dst := some 13, op := Op.call { callee := Callee.value (Operand.func 34), args := #[Operand.tmp 11, Operand.tmp 12, Operand.func 38], argTypes := #[44, 83, 91] }, type := 44, pos := "regs.go:80", after := #[{ on := 7, ground := Ground.data }, { on := 8, ground := Ground.data }], guard := none }
def addb0_o10 : Oper := { dst := some 14, op := Op.call { callee := Callee.value (Operand.func 28), args := #[Operand.tmp 4, Operand.tmp 5, Operand.tmp 13], argTypes := #[25, 34, 44] }, type := 0, pos := "regs.go:80", after := #[{ on := 0, ground := Ground.data }, { on := 1, ground := Ground.data }, { on := 9, ground := Ground.data }, { on := 9, ground := Ground.chain }], guard := none }
def addb0_ops : Array Oper := #[addb0_o0, addb0_o1, addb0_o2, addb0_o3, addb0_o4, addb0_o5, addb0_o6, addb0_o7, addb0_o8, addb0_o9, addb0_o10]
set_option maxRecDepth 100000 in
set_option maxHeartbeats 4000000 in
theorem addb0 {rb mb pb tb : Nat} {p : PlK} {lv tv : Value} (S Fin : World → Prop) (a : Act) (w : World) (Q : Exit → Act → World → Prop) (zz : a.tmps.size = 15)
    (t0 : a.tmps.getD 0 undef = .pointer (some ⟨rb, 0, none⟩))
    (t1 : a.tmps.getD 1 undef = .pointer (some ⟨pb, 0, none⟩))
    (t2 : a.tmps.getD 2 undef = .pointer (some ⟨tb, 0, none⟩))
    (h0 : S w.drew) (LR : ∀ W, S W → (Instr.loadAt 66 (.pointer (some ⟨rb, 0 + 0, none⟩))).run Tryd.prog W = .ok (.map (some mb)) W) (LP : ∀ W, S W → (Instr.loadAt 34 (.pointer (some ⟨pb, 0, none⟩))).run Tryd.prog W = .ok (p.v) W) (LT : ∀ W, S W → (Instr.loadAt 83 (.pointer (some ⟨tb, 0, none⟩))).run Tryd.prog W = .ok (tv) W) (L1 : (Instr.lookup 66 (.map (some mb)) p.v false).run Tryd.prog w.drew = .ok lv w.drew) (CA : Calls Tryd.prog 34 #[lv, tv, .func (.func 38) #[] #[]] w.drew fun e w' => ∃ u, e = .returned u ∧ S w' ∧ Calls Tryd.prog 28 #[.pointer (some ⟨rb, 0, none⟩), p.v, u] w' fun e w4 => e = .returned (.tuple #[]) ∧ S w4 ∧ Fin w4)
    (h : ∀ (u : Value) (a' : Act) (w' : World), Fin w' → a' = (((((((((((a).put (some 4) (.pointer (some ⟨rb, 0, none⟩))).put (some 5) (p.v)).put (some 6) (.pointer (some ⟨rb, 0, none⟩))).put (some 7) (.pointer (some ⟨rb, 0, none⟩))).put (some 8) (.pointer (some ⟨rb, 0 + 0, none⟩))).put (some 9) (.map (some mb))).put (some 10) (p.v)).put (some 12) (tv)).put (some 11) (lv)).put (some 13) (u)).put (some 14) (.tuple #[]) → Q .normal a' w') :
    (Code.region 0 addb0_ops true).wp Tryd.prog Q a w := by
  refine y0 (fun w' => S w') (h0) (fun hHeld => ?_)
  refine yv 0 rfl rfl (fun w1 hw => exec_move rfl (zi t0 rfl)) hHeld ?_
  refine yv 1 rfl rfl (fun w1 hw => exec_load rfl (zi t1 rfl) (LP _ hw)) hHeld ?_
  refine yv 2 rfl rfl (fun w1 hw => exec_move rfl (zi t0 rfl)) hHeld ?_
  refine yv 3 rfl rfl (fun w1 hw => exec_nilCheck rfl (zg zz rfl)) hHeld ?_
  refine yv 4 rfl rfl (fun w1 hw => exec_fieldAt rfl (zg zz rfl) (fg_69_0 _ _ _)) hHeld ?_
  refine yv 5 rfl rfl (fun w1 hw => exec_load rfl (zg zz rfl) (LR _ hw)) hHeld ?_
  refine yv 6 rfl rfl (fun w1 hw => exec_load rfl (zi t1 rfl) (LP _ hw)) hHeld ?_
  refine yv 8 rfl rfl (fun w1 hw => exec_load rfl (zi t2 rfl) (LT _ hw)) hHeld ?_
  refine yr (v := lv) 7 rfl rfl (exec_lookup rfl (zg zz rfl) (zg zz rfl) L1) (h0) (fun hHeld => ?_)
  refine yc 9 rfl rfl (exec_c3 rfl (zg zz rfl) (zg zz rfl) rfl) (CA) (fun e x9 hx => ?_)
  obtain ⟨u, rfl, S1, CL⟩ := hx
  replace h := h u
  refine ⟨_, rfl, S1, fun hHeld => ?_⟩
  refine yc 10 rfl rfl (exec_c3 rfl (zg zz rfl) (zg zz rfl) (zg zz rfl)) (CL) (fun e x10 hx => ?_)
  obtain ⟨rfl, S2, HF⟩ := hx
  refine ⟨_, rfl, S2, fun hHeld => ?_⟩
  exact ye rfl (h _ _ (HF) rfl)
def putb0_o0 : Oper := { dst := some 5, op := Op.move (Operand.tmp 0), type := 25, pos := "regs.go:55", after := #[], guard := none }
def putb0_o1 : Oper := { dst := some 6, op := Op.nilCheck (Operand.tmp 5), type := 0, pos := "regs.go:55", after := #[{ on := 0, ground := Ground.data }], guard := none }
def putb0_o2 : Oper := { dst := some 7, op := Op.fieldAddr 69 (Operand.tmp 6) 0, type := 0, pos := "regs.go:55", after := #[{ on := 1, ground := Ground.data }], guard := none }
def putb0_o3 : Oper := { dst := some 8, op := Op.load 66 (Operand.tmp 7), type := 66, pos := "regs.go:55", after := #[{ on := 2, ground := Ground.data }], guard := none }
def putb0_o4 : Oper := { dst := some 9, op := Op.load 34 (Operand.tmp 1), type := 34, pos := "regs.go:55", after := #[], guard := none }
def putb0_o5 : Oper := { dst := some 10, op := Op.lookup 66 (Operand.tmp 8) (Operand.tmp 9) false, type := 44, pos := "regs.go:55", after := #[{ on := 3, ground := Ground.data }, { on := 4, ground := Ground.data }], guard := none }
def putb0_o6 : Oper := { dst := some 4, op := Op.assign (Operand.tmp 10), type := 44, pos := "regs.go:55", after := #[{ on := 5, ground := Ground.data }, { on := 0, ground := Ground.phase }, { on := 1, ground := Ground.phase }, { on := 2, ground := Ground.phase }, { on := 3, ground := Ground.phase }, { on := 4, ground := Ground.phase }, { on := 5, ground := Ground.phase }], guard := none }
def putb0_ops : Array Oper := #[putb0_o0, putb0_o1, putb0_o2, putb0_o3, putb0_o4, putb0_o5, putb0_o6]
set_option maxRecDepth 100000 in
set_option maxHeartbeats 4000000 in
theorem putb0 {rb mb pb : Nat} {p : PlK} {lv : Value} (S : World → Prop) (a : Act) (w : World) (Q : Exit → Act → World → Prop) (zz : a.tmps.size = 21)
    (t0 : a.tmps.getD 0 undef = .pointer (some ⟨rb, 0, none⟩))
    (t1 : a.tmps.getD 1 undef = .pointer (some ⟨pb, 0, none⟩))
    (h0 : S w.drew) (LR : ∀ W, S W ∧ W = w.drew → (Instr.loadAt 66 (.pointer (some ⟨rb, 0 + 0, none⟩))).run Tryd.prog W = .ok (.map (some mb)) W) (LP : ∀ W, S W ∧ W = w.drew → (Instr.loadAt 34 (.pointer (some ⟨pb, 0, none⟩))).run Tryd.prog W = .ok (p.v) W) (LK : ∀ W, S W ∧ W = w.drew → (Instr.lookup 66 (.map (some mb)) p.v false).run Tryd.prog W = .ok lv W)
    (h : ∀ (a' : Act) (w' : World), w' = w.drew → a' = (((((((a).put (some 5) (.pointer (some ⟨rb, 0, none⟩))).put (some 6) (.pointer (some ⟨rb, 0, none⟩))).put (some 7) (.pointer (some ⟨rb, 0 + 0, none⟩))).put (some 8) (.map (some mb))).put (some 9) (p.v)).put (some 10) (lv)).put (some 4) (lv) → Q .normal a' w') :
    (Code.region 0 putb0_ops true).wp Tryd.prog Q a w := by
  refine y0 (fun w' => S w' ∧ w' = w.drew) (⟨h0, rfl⟩) (fun hHeld => ?_)
  refine yv 0 rfl rfl (fun w1 hw => exec_move rfl (zi t0 rfl)) hHeld ?_
  refine yv 1 rfl rfl (fun w1 hw => exec_nilCheck rfl (zg zz rfl)) hHeld ?_
  refine yv 2 rfl rfl (fun w1 hw => exec_fieldAt rfl (zg zz rfl) (fg_69_0 _ _ _)) hHeld ?_
  refine yv 3 rfl rfl (fun w1 hw => exec_load rfl (zg zz rfl) (LR _ hw)) hHeld ?_
  refine yv 4 rfl rfl (fun w1 hw => exec_load rfl (zi t1 rfl) (LP _ hw)) hHeld ?_
  refine yv (v := lv) 5 rfl rfl (fun w1 hw => exec_lookup rfl (zg zz rfl) (zg zz rfl) (LK _ hw)) hHeld ?_
  refine yv 6 rfl rfl (fun w1 hw => exec_assign rfl (zg zz rfl)) hHeld ?_
  exact ye rfl (h _ _ (hHeld.2) rfl)
def putb1_o0 : Oper := { dst := some 11, op := Op.move (Operand.tmp 0), type := 25, pos := "regs.go:56", after := #[], guard := none }
def putb1_o1 : Oper := { dst := some 12, op := Op.load 34 (Operand.tmp 1), type := 34, pos := "regs.go:56", after := #[], guard := none }
def putb1_o2 : Oper := { dst := some 13, op := Op.move (Operand.tmp 4), type := 44, pos := "regs.go:56", after := #[], guard := none }
def putb1_o3 : Oper := { dst := some 14, op := Op.move (Operand.tmp 4), type := 44, pos := "regs.go:56", after := #[], guard := none }
def putb1_o4 : Oper := { dst := some 15, op := Op.call { callee := Callee.builtin Builtin.len, args := #[Operand.tmp 14], argTypes := #[44] }, type := 3, pos := "regs.go:56", after := #[{ on := 3, ground := Ground.data }], guard := none }
def putb1_o5 : Oper := { dst := some 16, op := Op.binOp BinOp.sub 3 (Operand.tmp 15) (Operand.const (Value.int IntKind.i64 1)) 3, type := 3, pos := "regs.go:56", after := #[{ on := 4, ground := Ground.data }], guard := none }
def putb1_o6 : Oper := { dst := some 17, op := Op.call { callee := Callee.value (Operand.func 33), args := #[Operand.tmp 13, Operand.tmp 16], argTypes := #[44, 3] }, type := 44, pos := "regs.go:56", after := #[{ on := 2, ground := Ground.data }, { on := 5, ground := Ground.data }], guard := none }
def putb1_o7 : Oper := { dst := some 18, op := Op.load 83 (Operand.tmp 2), type := 83, pos := "regs.go:56", after := #[], guard := none }
def putb1_o8 : Oper := { dst := some 19, op := Op.call { callee := Callee.value (Operand.func 32), args := #[Operand.tmp 17, Operand.tmp 18], argTypes := #[44, 83] }, type := 44, pos := "regs.go:56", after := #[{ on := 6, ground := Ground.data }, { on := 7, ground := Ground.data }, { on := 6, ground := Ground.chain }], guard := none }
def putb1_o9 : Oper := { dst := some 20, op := Op.call { callee := Callee.value (Operand.func 28), args := #[Operand.tmp 11, Operand.tmp 12, Operand.tmp 19], argTypes := #[25, 34, 44] }, type := 0, pos := "regs.go:56", after := #[{ on := 0, ground := Ground.data }, { on := 1, ground := Ground.data }, { on := 8, ground := Ground.data }, { on := 8, ground := Ground.chain }], guard := none }
def putb1_ops : Array Oper := #[putb1_o0, putb1_o1, putb1_o2, putb1_o3, putb1_o4, putb1_o5, putb1_o6, putb1_o7, putb1_o8, putb1_o9]
set_option maxRecDepth 100000 in
set_option maxHeartbeats 4000000 in
theorem putb1 {rb mb pb tb n lc d : Nat} {la : Option Addr} {p : PlK} {tv : Value} (S Fin : World → Prop) (a : Act) (w : World) (Q : Exit → Act → World → Prop) (zz : a.tmps.size = 21)
    (t0 : a.tmps.getD 0 undef = .pointer (some ⟨rb, 0, none⟩))
    (t1 : a.tmps.getD 1 undef = .pointer (some ⟨pb, 0, none⟩))
    (t2 : a.tmps.getD 2 undef = .pointer (some ⟨tb, 0, none⟩))
    (t4 : a.tmps.getD 4 undef = .slice la n lc)
    (hd : d + 1 = n) (hs : n ≤ 9223372036854775800) (h0 : S w.drew) (LP : ∀ W, S W → (Instr.loadAt 34 (.pointer (some ⟨pb, 0, none⟩))).run Tryd.prog W = .ok (p.v) W) (LT : ∀ W, S W → (Instr.loadAt 83 (.pointer (some ⟨tb, 0, none⟩))).run Tryd.prog W = .ok (tv) W) (CC : Calls Tryd.prog 33 #[.slice la n lc, .int .i64 (d : Int)] w.drew fun e w' => ∃ cv, e = .returned cv ∧ S w' ∧ Calls Tryd.prog 32 #[cv, tv] w' fun e w' => ∃ u, e = .returned u ∧ S w' ∧ Calls Tryd.prog 28 #[.pointer (some ⟨rb, 0, none⟩), p.v, u] w' fun e w4 => e = .returned (.tuple #[]) ∧ S w4 ∧ Fin w4)
    (h : ∀ (cv u : Value) (a' : Act) (w' : World), Fin w' → a' = ((((((((((a).put (some 11) (.pointer (some ⟨rb, 0, none⟩))).put (some 12) (p.v)).put (some 13) (.slice la n lc)).put (some 14) (.slice la n lc)).put (some 15) (.int .i64 (n : Int))).put (some 16) (.int .i64 (d : Int))).put (some 18) (tv)).put (some 17) (cv)).put (some 19) (u)).put (some 20) (.tuple #[]) → Q .normal a' w') :
    (Code.region 1 putb1_ops true).wp Tryd.prog Q a w := by
  refine y0 (fun w' => S w') (h0) (fun hHeld => ?_)
  refine yv 0 rfl rfl (fun w1 hw => exec_move rfl (zi t0 rfl)) hHeld ?_
  refine yv 1 rfl rfl (fun w1 hw => exec_load rfl (zi t1 rfl) (LP _ hw)) hHeld ?_
  refine yv 2 rfl rfl (fun w1 hw => exec_move rfl (zi t4 rfl)) hHeld ?_
  refine yv 3 rfl rfl (fun w1 hw => exec_move rfl (zi t4 rfl)) hHeld ?_
  refine yv 4 rfl rfl (fun w1 hw => exec_len rfl (zg zz rfl) (len_en _ _ _ _ _)) hHeld ?_
  refine yv (v := .int .i64 (d : Int)) 5 rfl rfl (fun w1 hw => exec_sub1 rfl (zg zz rfl) rfl hd hs) hHeld ?_
  refine yv 7 rfl rfl (fun w1 hw => exec_load rfl (zi t2 rfl) (LT _ hw)) hHeld ?_
  refine yc 6 rfl rfl (exec_c2 rfl (zg zz rfl) (zg zz rfl)) (CC) (fun e x6 hx => ?_)
  obtain ⟨cv, rfl, S0, CA⟩ := hx
  replace h := h cv
  refine ⟨_, rfl, S0, fun hHeld => ?_⟩
  refine yc 8 rfl rfl (exec_c2 rfl (zg zz rfl) (zg zz rfl)) (CA) (fun e x8 hx => ?_)
  obtain ⟨u, rfl, S1, CL⟩ := hx
  replace h := h u
  refine ⟨_, rfl, S1, fun hHeld => ?_⟩
  refine yc 9 rfl rfl (exec_c3 rfl (zg zz rfl) (zg zz rfl) (zg zz rfl)) (CL) (fun e x9 hx => ?_)
  obtain ⟨rfl, S2, HF⟩ := hx
  refine ⟨_, rfl, S2, fun hHeld => ?_⟩
  exact ye rfl (h _ _ (HF) rfl)
end Go.Proofs.YtldlljobofnmmabDoor
