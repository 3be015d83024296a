import Derived.Test.YtoofljkgdjjllaaTyb
namespace Go.Proofs.Ytoofljkgdjjllaa
open Go.RowKit
set_option linter.unusedVariables false
set_option linter.unusedSimpArgs false

theorem tget {n : Nat} {t : Array Value} {d : Nat} {v : Value} (hs : t.size = n) (hd : d < n) (h : t.getD d undef = v) : t[d]? = some v := by
  rw [Array.getD_eq_getD_getElem?, Array.getElem?_eq_getElem (by omega)] at h
  rw [Array.getElem?_eq_getElem (by omega)]
  simpa using h
theorem exec_field {P : Program} {w : World} {a : Act} {o : Oper} {t i : Nat} {x : Operand} {u v : Value} (ho : o.op = .field t x i) (hp : a.eval x = u) (hl : (Instr.field t u i).run P w = .ok v w) : (execOp a.eval o).run P w = .ok (.value v) w := by
  unfold execOp; simp only [ho, hp, Sem.run_bind, hl, Result.andThen_ok, Sem.run_pure]
set_option maxRecDepth 100000 in
theorem field_pr0 (w : World) (a0 a1 a2 a3 a4 a5 a6 a7 a8 a9 a10 a11 a12 a13 a14 a15 a16 a17 a18 a19 a20 a21 a22 a23 a24 a25 a26 a27 a28 a29 a30 a31 a32 : Value) (key : ByteArray) (b : Bool) : (Instr.field 94 (.agg ([a0, a1, a2, a3, a4, a5, a6, a7, a8, a9, a10, a11, a12, a13, a14, a15, a16, a17, a18, a19, a20, a21, a22, a23, a24, a25, a26, a27, a28, a29, a30, a31, a32] ++ [Value.string key, Value.bool b]).toArray) 2).run Try.prog w = .ok (.bool b) w := by kernel_rfl
theorem field_pr (w : World) (n : NodeV) (hn : n.u.ok) : (Instr.field 94 n.v 2).run Try.prog w = .ok (.bool n.pr) w := by
  have h := IdK.len hn
  unfold NodeV.v NodeV.c
  generalize n.u.c = l at *
  match l, h with
  | a0 :: a1 :: a2 :: a3 :: a4 :: a5 :: a6 :: a7 :: a8 :: a9 :: a10 :: a11 :: a12 :: a13 :: a14 :: a15 :: a16 :: a17 :: a18 :: a19 :: a20 :: a21 :: a22 :: a23 :: a24 :: a25 :: a26 :: a27 :: a28 :: a29 :: a30 :: a31 :: a32 :: [], _ => exact field_pr0 w a0 a1 a2 a3 a4 a5 a6 a7 a8 a9 a10 a11 a12 a13 a14 a15 a16 a17 a18 a19 a20 a21 a22 a23 a24 a25 a26 a27 a28 a29 a30 a31 a32 n.key n.pr
def prune3_ops : Array Oper := #[{ dst := some 10, op := Op.move (Operand.tmp 0), type := 25, pos := "tree.go:84", after := #[], guard := none }, { dst := some 11, op := Op.load 37 (Operand.tmp 3), type := 37, pos := "tree.go:84", after := #[], guard := none }, { dst := some 12, op := Op.call { callee := Callee.value (Operand.func 44), args := #[Operand.tmp 10, Operand.tmp 11], argTypes := #[25, 37] }, type := 4, pos := "tree.go:84", after := #[{ on := 0, ground := Ground.data }, { on := 1, ground := Ground.data }], guard := none }, { dst := some 13, op := Op.unOp UnOp.not 4 (Operand.tmp 12), type := 4, pos := "tree.go:84", after := #[{ on := 2, ground := Ground.data }], guard := none }, { dst := some 14, op := Op.move (Operand.tmp 13), type := 4, pos := "tree.go:84", after := #[{ on := 3, ground := Ground.data }, { on := 2, ground := Ground.chain }], guard := none }, { dst := some 15, op := Op.move (Operand.tmp 0), type := 25, pos := "tree.go:84", after := #[{ on := 4, ground := Ground.guard }], guard := some (4, false) }, { dst := some 16, op := Op.nilCheck (Operand.tmp 15), type := 0, pos := "tree.go:84", after := #[{ on := 5, ground := Ground.data }, { on := 4, ground := Ground.guard }], guard := some (4, false) }, { dst := some 17, op := Op.fieldAddr 82 (Operand.tmp 16) 0, type := 0, pos := "tree.go:84", after := #[{ on := 6, ground := Ground.data }, { on := 4, ground := Ground.guard }], guard := some (4, false) }, { dst := some 18, op := Op.load 79 (Operand.tmp 17), type := 79, pos := "tree.go:84", after := #[{ on := 7, ground := Ground.data }, { on := 4, ground := Ground.guard }], guard := some (4, false) }, { dst := some 19, op := Op.load 37 (Operand.tmp 3), type := 37, pos := "tree.go:84", after := #[{ on := 4, ground := Ground.guard }], guard := some (4, false) }, { dst := some 20, op := Op.lookup 79 (Operand.tmp 18) (Operand.tmp 19) false, type := 94, pos := "tree.go:84", after := #[{ on := 8, ground := Ground.data }, { on := 9, ground := Ground.data }, { on := 4, ground := Ground.guard }], guard := some (4, false) }, { dst := some 21, op := Op.field 94 (Operand.tmp 20) 2, type := 4, pos := "tree.go:84", after := #[{ on := 10, ground := Ground.data }, { on := 4, ground := Ground.guard }], guard := some (4, false) }, { dst := some 22, op := Op.pick (Operand.tmp 14) (Operand.const (Value.bool true)) (Operand.tmp 21), type := 4, pos := "tree.go:84", after := #[{ on := 4, ground := Ground.data }, { on := 11, ground := Ground.data }], guard := none }, { dst := some 9, op := Op.assign (Operand.tmp 22), type := 4, pos := "tree.go:84", after := #[{ on := 12, ground := Ground.data }, { on := 4, ground := Ground.chain }], guard := none }]
set_option maxRecDepth 100000 in
set_option maxHeartbeats 4000000 in
theorem prune3y (N : Nat) (w0 : World) (t bi : Nat) (kv mv nv : Value) (pb : Bool) (a : Act) (w : World) (Q : Exit → Act → World → Prop) (hsz : a.tmps.size = 29)
    (t0 : a.tmps.getD 0 undef = .pointer (some ⟨t, 0, none⟩))
    (t3 : a.tmps.getD 3 undef = .pointer (some ⟨bi, 0, none⟩))
    (h0 : Below N w0 w.drew)
    (hN : ∀ W, Below N w0 W → N ≤ W.heap.size)
    (HLD : ∀ W, Below N w0 W → (Instr.loadAt 37 (.pointer (some ⟨bi, 0, none⟩))).run Try.prog W = .ok kv W)
    (HLM : ∀ W, Below N w0 W → (Instr.loadAt 79 (.pointer (some ⟨t, 0, none⟩))).run Try.prog W = .ok mv W)
    (HLK : ∀ W, Below N w0 W → (Instr.lookup 79 mv kv false).run Try.prog W = .ok nv W)
    (HFD : ∀ W, (Instr.field 94 nv 2).run Try.prog W = .ok (.bool pb) W)
    (C2 : ∀ W, Below N w0 W → Calls Try.prog 44 #[.pointer (some ⟨t, 0, none⟩), kv] W fun e w' => e = .returned (.bool true) ∧ Below W.heap.size W w')
    (h : ∀ (a' : Act) (w' : World), Below N w0 w' → a' = ((((((((((((((a).put (some 10) (.pointer (some ⟨t, 0, none⟩))).put (some 11) (kv)).put (some 12) (.bool true)).put (some 13) (.bool false)).put (some 14) (.bool false)).put (some 15) (.pointer (some ⟨t, 0, none⟩))).put (some 16) (.pointer (some ⟨t, 0, none⟩))).put (some 17) (.pointer (some ⟨t, 0, none⟩))).put (some 18) (mv)).put (some 19) (kv)).put (some 20) (nv)).put (some 21) (.bool pb)).put (some 22) (.bool pb)).put (some 9) (.bool pb) → Q .normal a' w') :
    (Code.region 3 prune3_ops true).wp Try.prog Q a w := by
  refine wp_region_noPanic ?_
  refine wp_region_held_drew (S := fun w' => Below N w0 w') (by kernel_rfl) (h0) (fun hHeld => ?_)
  refine wpAnyH_take (i := 0) (oi := { dst := some 10, op := Op.move (Operand.tmp 0), type := 25, pos := "tree.go:84", after := #[], guard := none }) (v := .pointer (some ⟨t, 0, none⟩)) rfl (by kernel_rfl) (by kernel_rfl) (by kernel_rfl) (fun _ _ _ h => h) (Or.inl ⟨by rfl, fun w1 hw => by go_simp⟩) hHeld ?_
  change wpAnyH _ _ _ _ _ _ _ (a.put (some 10) (.pointer (some ⟨t, 0, none⟩))) _
  obtain ⟨a1, e1⟩ : ∃ act, act = a.put (some 10) (.pointer (some ⟨t, 0, none⟩)) := ⟨_, rfl⟩
  rw [← e1] at h ⊢
  have z1 : a1.tmps.size = 29 := by rw [e1, put_size]; exact hsz
  replace t0 : a1.tmps.getD 0 undef = .pointer (some ⟨t, 0, none⟩) := by rw [e1, put_ne _ _ _ _ (by decide)]; exact t0
  replace t3 : a1.tmps.getD 3 undef = .pointer (some ⟨bi, 0, none⟩) := by rw [e1, put_ne _ _ _ _ (by decide)]; exact t3
  have t10 : a1.tmps.getD 10 undef = .pointer (some ⟨t, 0, none⟩) := by rw [e1]; exact put_same _ _ _ (by omega)
  clear e1 hsz
  refine wpAnyH_take (i := 1) (oi := { dst := some 11, op := Op.load 37 (Operand.tmp 3), type := 37, pos := "tree.go:84", after := #[], guard := none }) (v := kv) rfl (by kernel_rfl) (by kernel_rfl) (by kernel_rfl) (fun _ _ _ h => h) (Or.inl ⟨by rfl, fun w1 hw => exec_load rfl t3 (HLD _ hw)⟩) hHeld ?_
  change wpAnyH _ _ _ _ _ _ _ (a1.put (some 11) (kv)) _
  obtain ⟨a2, e2⟩ : ∃ act, act = a1.put (some 11) (kv) := ⟨_, rfl⟩
  rw [← e2] at h ⊢
  have z2 : a2.tmps.size = 29 := by rw [e2, put_size]; exact z1
  replace t0 : a2.tmps.getD 0 undef = .pointer (some ⟨t, 0, none⟩) := by rw [e2, put_ne _ _ _ _ (by decide)]; exact t0
  replace t3 : a2.tmps.getD 3 undef = .pointer (some ⟨bi, 0, none⟩) := by rw [e2, put_ne _ _ _ _ (by decide)]; exact t3
  replace t10 : a2.tmps.getD 10 undef = .pointer (some ⟨t, 0, none⟩) := by rw [e2, put_ne _ _ _ _ (by decide)]; exact t10
  have t11 : a2.tmps.getD 11 undef = kv := by rw [e2]; exact put_same _ _ _ (by omega)
  clear e2 z1
  refine wpAnyH_ready (rs := [2]) (by kernel_rfl) (by simp) ?_
  refine AllReadyH.cons (o := { dst := some 12, op := Op.call { callee := Callee.value (Operand.func 44), args := #[Operand.tmp 10, Operand.tmp 11], argTypes := #[25, 37] }, type := 4, pos := "tree.go:84", after := #[{ on := 0, ground := Ground.data }, { on := 1, ground := Ground.data }], guard := none }) rfl (fun K hK => ?_) AllReadyH.nil
  rw [if_pos (by rfl)]
  go_simp
  refine (C2 _ hHeld).mono ?_
  rintro e x3 ⟨rfl, l1⟩
  try go_wp2_with fail
  skip
  refine hK.out _ _ (hHeld.trans (l1.mono (hN _ hHeld))) (fun hHeld => ?_)
  clear hK K
  change wpAnyH _ _ _ _ _ _ _ (a2.put (some 12) (.bool true)) _
  obtain ⟨a3, e3⟩ : ∃ act, act = a2.put (some 12) (.bool true) := ⟨_, rfl⟩
  rw [← e3] at h ⊢
  have z3 : a3.tmps.size = 29 := by rw [e3, put_size]; exact z2
  replace t0 : a3.tmps.getD 0 undef = .pointer (some ⟨t, 0, none⟩) := by rw [e3, put_ne _ _ _ _ (by decide)]; exact t0
  replace t3 : a3.tmps.getD 3 undef = .pointer (some ⟨bi, 0, none⟩) := by rw [e3, put_ne _ _ _ _ (by decide)]; exact t3
  clear t10
  clear t11
  have t12 : a3.tmps.getD 12 undef = .bool true := by rw [e3]; exact put_same _ _ _ (by omega)
  clear e3 z2
  refine wpAnyH_take (i := 3) (oi := { dst := some 13, op := Op.unOp UnOp.not 4 (Operand.tmp 12), type := 4, pos := "tree.go:84", after := #[{ on := 2, ground := Ground.data }], guard := none }) (v := .bool false) rfl (by kernel_rfl) (by kernel_rfl) (by kernel_rfl) (fun _ _ _ h => h) (Or.inl ⟨by rfl, fun w1 hw => by go_simp⟩) hHeld ?_
  change wpAnyH _ _ _ _ _ _ _ (a3.put (some 13) (.bool false)) _
  obtain ⟨a4, e4⟩ : ∃ act, act = a3.put (some 13) (.bool false) := ⟨_, rfl⟩
  rw [← e4] at h ⊢
  have z4 : a4.tmps.size = 29 := by rw [e4, put_size]; exact z3
  replace t0 : a4.tmps.getD 0 undef = .pointer (some ⟨t, 0, none⟩) := by rw [e4, put_ne _ _ _ _ (by decide)]; exact t0
  replace t3 : a4.tmps.getD 3 undef = .pointer (some ⟨bi, 0, none⟩) := by rw [e4, put_ne _ _ _ _ (by decide)]; exact t3
  clear t12
  have t13 : a4.tmps.getD 13 undef = .bool false := by rw [e4]; exact put_same _ _ _ (by omega)
  clear e4 z3
  refine wpAnyH_take (i := 4) (oi := { dst := some 14, op := Op.move (Operand.tmp 13), type := 4, pos := "tree.go:84", after := #[{ on := 3, ground := Ground.data }, { on := 2, ground := Ground.chain }], guard := none }) (v := .bool false) rfl (by kernel_rfl) (by kernel_rfl) (by kernel_rfl) (fun _ _ _ h => h) (Or.inl ⟨by rfl, fun w1 hw => by go_simp⟩) hHeld ?_
  change wpAnyH _ _ _ _ _ _ _ (a4.put (some 14) (.bool false)) _
  obtain ⟨a5, e5⟩ : ∃ act, act = a4.put (some 14) (.bool false) := ⟨_, rfl⟩
  rw [← e5] at h ⊢
  have z5 : a5.tmps.size = 29 := by rw [e5, put_size]; exact z4
  replace t0 : a5.tmps.getD 0 undef = .pointer (some ⟨t, 0, none⟩) := by rw [e5, put_ne _ _ _ _ (by decide)]; exact t0
  replace t3 : a5.tmps.getD 3 undef = .pointer (some ⟨bi, 0, none⟩) := by rw [e5, put_ne _ _ _ _ (by decide)]; exact t3
  clear t13
  have t14 : a5.tmps.getD 14 undef = .bool false := by rw [e5]; exact put_same _ _ _ (by omega)
  clear e5 z4
  refine wpAnyH_take (i := 5) (oi := { dst := some 15, op := Op.move (Operand.tmp 0), type := 25, pos := "tree.go:84", after := #[{ on := 4, ground := Ground.guard }], guard := some (4, false) }) (v := .pointer (some ⟨t, 0, none⟩)) rfl (by kernel_rfl) (by kernel_rfl) (by kernel_rfl) (fun _ _ _ h => h) (Or.inl ⟨by simp [Region.wanted, yielded, prune3_ops, tget z5 (by decide) t14], fun w1 hw => by go_simp⟩) hHeld ?_
  change wpAnyH _ _ _ _ _ _ _ (a5.put (some 15) (.pointer (some ⟨t, 0, none⟩))) _
  obtain ⟨a6, e6⟩ : ∃ act, act = a5.put (some 15) (.pointer (some ⟨t, 0, none⟩)) := ⟨_, rfl⟩
  rw [← e6] at h ⊢
  have z6 : a6.tmps.size = 29 := by rw [e6, put_size]; exact z5
  clear t0
  replace t3 : a6.tmps.getD 3 undef = .pointer (some ⟨bi, 0, none⟩) := by rw [e6, put_ne _ _ _ _ (by decide)]; exact t3
  replace t14 : a6.tmps.getD 14 undef = .bool false := by rw [e6, put_ne _ _ _ _ (by decide)]; exact t14
  have t15 : a6.tmps.getD 15 undef = .pointer (some ⟨t, 0, none⟩) := by rw [e6]; exact put_same _ _ _ (by omega)
  clear e6 z5
  refine wpAnyH_take (i := 6) (oi := { dst := some 16, op := Op.nilCheck (Operand.tmp 15), type := 0, pos := "tree.go:84", after := #[{ on := 5, ground := Ground.data }, { on := 4, ground := Ground.guard }], guard := some (4, false) }) (v := .pointer (some ⟨t, 0, none⟩)) rfl (by kernel_rfl) (by kernel_rfl) (by kernel_rfl) (fun _ _ _ h => h) (Or.inl ⟨by simp [Region.wanted, yielded, prune3_ops, tget z6 (by decide) t14], fun w1 hw => by go_simp⟩) hHeld ?_
  change wpAnyH _ _ _ _ _ _ _ (a6.put (some 16) (.pointer (some ⟨t, 0, none⟩))) _
  obtain ⟨a7, e7⟩ : ∃ act, act = a6.put (some 16) (.pointer (some ⟨t, 0, none⟩)) := ⟨_, rfl⟩
  rw [← e7] at h ⊢
  have z7 : a7.tmps.size = 29 := by rw [e7, put_size]; exact z6
  replace t3 : a7.tmps.getD 3 undef = .pointer (some ⟨bi, 0, none⟩) := by rw [e7, put_ne _ _ _ _ (by decide)]; exact t3
  replace t14 : a7.tmps.getD 14 undef = .bool false := by rw [e7, put_ne _ _ _ _ (by decide)]; exact t14
  clear t15
  have t16 : a7.tmps.getD 16 undef = .pointer (some ⟨t, 0, none⟩) := by rw [e7]; exact put_same _ _ _ (by omega)
  clear e7 z6
  refine wpAnyH_take (i := 7) (oi := { dst := some 17, op := Op.fieldAddr 82 (Operand.tmp 16) 0, type := 0, pos := "tree.go:84", after := #[{ on := 6, ground := Ground.data }, { on := 4, ground := Ground.guard }], guard := some (4, false) }) (v := .pointer (some ⟨t, 0, none⟩)) rfl (by kernel_rfl) (by kernel_rfl) (by kernel_rfl) (fun _ _ _ h => h) (Or.inl ⟨by simp [Region.wanted, yielded, prune3_ops, tget z7 (by decide) t14], fun w1 hw => exec_fieldAt rfl t16 (fa_82_0 _ _)⟩) hHeld ?_
  change wpAnyH _ _ _ _ _ _ _ (a7.put (some 17) (.pointer (some ⟨t, 0, none⟩))) _
  obtain ⟨a8, e8⟩ : ∃ act, act = a7.put (some 17) (.pointer (some ⟨t, 0, none⟩)) := ⟨_, rfl⟩
  rw [← e8] at h ⊢
  have z8 : a8.tmps.size = 29 := by rw [e8, put_size]; exact z7
  replace t3 : a8.tmps.getD 3 undef = .pointer (some ⟨bi, 0, none⟩) := by rw [e8, put_ne _ _ _ _ (by decide)]; exact t3
  replace t14 : a8.tmps.getD 14 undef = .bool false := by rw [e8, put_ne _ _ _ _ (by decide)]; exact t14
  clear t16
  have t17 : a8.tmps.getD 17 undef = .pointer (some ⟨t, 0, none⟩) := by rw [e8]; exact put_same _ _ _ (by omega)
  clear e8 z7
  refine wpAnyH_take (i := 8) (oi := { dst := some 18, op := Op.load 79 (Operand.tmp 17), type := 79, pos := "tree.go:84", after := #[{ on := 7, ground := Ground.data }, { on := 4, ground := Ground.guard }], guard := some (4, false) }) (v := mv) rfl (by kernel_rfl) (by kernel_rfl) (by kernel_rfl) (fun _ _ _ h => h) (Or.inl ⟨by simp [Region.wanted, yielded, prune3_ops, tget z8 (by decide) t14], fun w1 hw => exec_load rfl t17 (HLM _ hw)⟩) hHeld ?_
  change wpAnyH _ _ _ _ _ _ _ (a8.put (some 18) (mv)) _
  obtain ⟨a9, e9⟩ : ∃ act, act = a8.put (some 18) (mv) := ⟨_, rfl⟩
  rw [← e9] at h ⊢
  have z9 : a9.tmps.size = 29 := by rw [e9, put_size]; exact z8
  replace t3 : a9.tmps.getD 3 undef = .pointer (some ⟨bi, 0, none⟩) := by rw [e9, put_ne _ _ _ _ (by decide)]; exact t3
  replace t14 : a9.tmps.getD 14 undef = .bool false := by rw [e9, put_ne _ _ _ _ (by decide)]; exact t14
  clear t17
  have t18 : a9.tmps.getD 18 undef = mv := by rw [e9]; exact put_same _ _ _ (by omega)
  clear e9 z8
  refine wpAnyH_take (i := 9) (oi := { dst := some 19, op := Op.load 37 (Operand.tmp 3), type := 37, pos := "tree.go:84", after := #[{ on := 4, ground := Ground.guard }], guard := some (4, false) }) (v := kv) rfl (by kernel_rfl) (by kernel_rfl) (by kernel_rfl) (fun _ _ _ h => h) (Or.inl ⟨by simp [Region.wanted, yielded, prune3_ops, tget z9 (by decide) t14], fun w1 hw => exec_load rfl t3 (HLD _ hw)⟩) hHeld ?_
  change wpAnyH _ _ _ _ _ _ _ (a9.put (some 19) (kv)) _
  obtain ⟨a10, e10⟩ : ∃ act, act = a9.put (some 19) (kv) := ⟨_, rfl⟩
  rw [← e10] at h ⊢
  have z10 : a10.tmps.size = 29 := by rw [e10, put_size]; exact z9
  clear t3
  replace t14 : a10.tmps.getD 14 undef = .bool false := by rw [e10, put_ne _ _ _ _ (by decide)]; exact t14
  replace t18 : a10.tmps.getD 18 undef = mv := by rw [e10, put_ne _ _ _ _ (by decide)]; exact t18
  have t19 : a10.tmps.getD 19 undef = kv := by rw [e10]; exact put_same _ _ _ (by omega)
  clear e10 z9
  refine wpAnyH_take (i := 10) (oi := { dst := some 20, op := Op.lookup 79 (Operand.tmp 18) (Operand.tmp 19) false, type := 94, pos := "tree.go:84", after := #[{ on := 8, ground := Ground.data }, { on := 9, ground := Ground.data }, { on := 4, ground := Ground.guard }], guard := some (4, false) }) (v := nv) rfl (by kernel_rfl) (by kernel_rfl) (by kernel_rfl) (fun _ _ _ h => h) (Or.inl ⟨by simp [Region.wanted, yielded, prune3_ops, tget z10 (by decide) t14], fun w1 hw => exec_lookup rfl t18 t19 (HLK _ hw)⟩) hHeld ?_
  change wpAnyH _ _ _ _ _ _ _ (a10.put (some 20) (nv)) _
  obtain ⟨a11, e11⟩ : ∃ act, act = a10.put (some 20) (nv) := ⟨_, rfl⟩
  rw [← e11] at h ⊢
  have z11 : a11.tmps.size = 29 := by rw [e11, put_size]; exact z10
  replace t14 : a11.tmps.getD 14 undef = .bool false := by rw [e11, put_ne _ _ _ _ (by decide)]; exact t14
  clear t18
  clear t19
  have t20 : a11.tmps.getD 20 undef = nv := by rw [e11]; exact put_same _ _ _ (by omega)
  clear e11 z10
  refine wpAnyH_take (i := 11) (oi := { dst := some 21, op := Op.field 94 (Operand.tmp 20) 2, type := 4, pos := "tree.go:84", after := #[{ on := 10, ground := Ground.data }, { on := 4, ground := Ground.guard }], guard := some (4, false) }) (v := .bool pb) rfl (by kernel_rfl) (by kernel_rfl) (by kernel_rfl) (fun _ _ _ h => h) (Or.inl ⟨by simp [Region.wanted, yielded, prune3_ops, tget z11 (by decide) t14], fun w1 hw => exec_field rfl t20 (HFD _)⟩) hHeld ?_
  change wpAnyH _ _ _ _ _ _ _ (a11.put (some 21) (.bool pb)) _
  obtain ⟨a12, e12⟩ : ∃ act, act = a11.put (some 21) (.bool pb) := ⟨_, rfl⟩
  rw [← e12] at h ⊢
  have z12 : a12.tmps.size = 29 := by rw [e12, put_size]; exact z11
  replace t14 : a12.tmps.getD 14 undef = .bool false := by rw [e12, put_ne _ _ _ _ (by decide)]; exact t14
  clear t20
  have t21 : a12.tmps.getD 21 undef = .bool pb := by rw [e12]; exact put_same _ _ _ (by omega)
  clear e12 z11
  refine wpAnyH_take (i := 12) (oi := { dst := some 22, op := Op.pick (Operand.tmp 14) (Operand.const (Value.bool true)) (Operand.tmp 21), type := 4, pos := "tree.go:84", after := #[{ on := 4, ground := Ground.data }, { on := 11, ground := Ground.data }], guard := none }) (v := .bool pb) rfl (by kernel_rfl) (by kernel_rfl) (by kernel_rfl) (fun _ _ _ h => h) (Or.inl ⟨by rfl, fun w1 hw => by go_simp⟩) hHeld ?_
  change wpAnyH _ _ _ _ _ _ _ (a12.put (some 22) (.bool pb)) _
  obtain ⟨a13, e13⟩ : ∃ act, act = a12.put (some 22) (.bool pb) := ⟨_, rfl⟩
  rw [← e13] at h ⊢
  have z13 : a13.tmps.size = 29 := by rw [e13, put_size]; exact z12
  clear t14
  clear t21
  have t22 : a13.tmps.getD 22 undef = .bool pb := by rw [e13]; exact put_same _ _ _ (by omega)
  clear e13 z12
  refine wpAnyH_take (i := 13) (oi := { dst := some 9, op := Op.assign (Operand.tmp 22), type := 4, pos := "tree.go:84", after := #[{ on := 12, ground := Ground.data }, { on := 4, ground := Ground.chain }], guard := none }) (v := .bool pb) rfl (by kernel_rfl) (by kernel_rfl) (by kernel_rfl) (fun _ _ _ h => h) (Or.inl ⟨by rfl, fun w1 hw => by go_simp⟩) hHeld ?_
  change wpAnyH _ _ _ _ _ _ _ (a13.put (some 9) (.bool pb)) _
  obtain ⟨a14, e14⟩ : ∃ act, act = a13.put (some 9) (.bool pb) := ⟨_, rfl⟩
  rw [← e14] at h ⊢
  have z14 : a14.tmps.size = 29 := by rw [e14, put_size]; exact z13
  clear t22
  clear e14 z13
  exact wpAnyH_done (by kernel_rfl) (NoPanic.normal (h _ _ hHeld rfl)) _
set_option maxRecDepth 100000 in
set_option maxHeartbeats 4000000 in
theorem prune3n (N : Nat) (w0 : World) (t bi : Nat) (kv mv nv : Value) (pb : Bool) (a : Act) (w : World) (Q : Exit → Act → World → Prop) (hsz : a.tmps.size = 29)
    (t0 : a.tmps.getD 0 undef = .pointer (some ⟨t, 0, none⟩))
    (t3 : a.tmps.getD 3 undef = .pointer (some ⟨bi, 0, none⟩))
    (h0 : Below N w0 w.drew)
    (hN : ∀ W, Below N w0 W → N ≤ W.heap.size)
    (HLD : ∀ W, Below N w0 W → (Instr.loadAt 37 (.pointer (some ⟨bi, 0, none⟩))).run Try.prog W = .ok kv W)
    (HLM : ∀ W, Below N w0 W → (Instr.loadAt 79 (.pointer (some ⟨t, 0, none⟩))).run Try.prog W = .ok mv W)
    (HLK : ∀ W, Below N w0 W → (Instr.lookup 79 mv kv false).run Try.prog W = .ok nv W)
    (HFD : ∀ W, (Instr.field 94 nv 2).run Try.prog W = .ok (.bool pb) W)
    (C2 : ∀ W, Below N w0 W → Calls Try.prog 44 #[.pointer (some ⟨t, 0, none⟩), kv] W fun e w' => e = .returned (.bool false) ∧ Below W.heap.size W w')
    (h : ∀ (a' : Act) (w' : World), Below N w0 w' → a' = ((((((((((((((a).put (some 10) (.pointer (some ⟨t, 0, none⟩))).put (some 11) (kv)).put (some 12) (.bool false)).put (some 13) (.bool true)).put (some 14) (.bool true)).put (some 15) (undef)).put (some 16) (undef)).put (some 17) (undef)).put (some 18) (undef)).put (some 19) (undef)).put (some 20) (undef)).put (some 21) (undef)).put (some 22) (.bool true)).put (some 9) (.bool true) → Q .normal a' w') :
    (Code.region 3 prune3_ops true).wp Try.prog Q a w := by
  refine wp_region_noPanic ?_
  refine wp_region_held_drew (S := fun w' => Below N w0 w') (by kernel_rfl) (h0) (fun hHeld => ?_)
  refine wpAnyH_take (i := 0) (oi := { dst := some 10, op := Op.move (Operand.tmp 0), type := 25, pos := "tree.go:84", after := #[], guard := none }) (v := .pointer (some ⟨t, 0, none⟩)) rfl (by kernel_rfl) (by kernel_rfl) (by kernel_rfl) (fun _ _ _ h => h) (Or.inl ⟨by rfl, fun w1 hw => by go_simp⟩) hHeld ?_
  change wpAnyH _ _ _ _ _ _ _ (a.put (some 10) (.pointer (some ⟨t, 0, none⟩))) _
  obtain ⟨a1, e1⟩ : ∃ act, act = a.put (some 10) (.pointer (some ⟨t, 0, none⟩)) := ⟨_, rfl⟩
  rw [← e1] at h ⊢
  have z1 : a1.tmps.size = 29 := by rw [e1, put_size]; exact hsz
  replace t0 : a1.tmps.getD 0 undef = .pointer (some ⟨t, 0, none⟩) := by rw [e1, put_ne _ _ _ _ (by decide)]; exact t0
  replace t3 : a1.tmps.getD 3 undef = .pointer (some ⟨bi, 0, none⟩) := by rw [e1, put_ne _ _ _ _ (by decide)]; exact t3
  have t10 : a1.tmps.getD 10 undef = .pointer (some ⟨t, 0, none⟩) := by rw [e1]; exact put_same _ _ _ (by omega)
  clear e1 hsz
  refine wpAnyH_take (i := 1) (oi := { dst := some 11, op := Op.load 37 (Operand.tmp 3), type := 37, pos := "tree.go:84", after := #[], guard := none }) (v := kv) rfl (by kernel_rfl) (by kernel_rfl) (by kernel_rfl) (fun _ _ _ h => h) (Or.inl ⟨by rfl, fun w1 hw => exec_load rfl t3 (HLD _ hw)⟩) hHeld ?_
  change wpAnyH _ _ _ _ _ _ _ (a1.put (some 11) (kv)) _
  obtain ⟨a2, e2⟩ : ∃ act, act = a1.put (some 11) (kv) := ⟨_, rfl⟩
  rw [← e2] at h ⊢
  have z2 : a2.tmps.size = 29 := by rw [e2, put_size]; exact z1
  replace t0 : a2.tmps.getD 0 undef = .pointer (some ⟨t, 0, none⟩) := by rw [e2, put_ne _ _ _ _ (by decide)]; exact t0
  replace t3 : a2.tmps.getD 3 undef = .pointer (some ⟨bi, 0, none⟩) := by rw [e2, put_ne _ _ _ _ (by decide)]; exact t3
  replace t10 : a2.tmps.getD 10 undef = .pointer (some ⟨t, 0, none⟩) := by rw [e2, put_ne _ _ _ _ (by decide)]; exact t10
  have t11 : a2.tmps.getD 11 undef = kv := by rw [e2]; exact put_same _ _ _ (by omega)
  clear e2 z1
  refine wpAnyH_ready (rs := [2]) (by kernel_rfl) (by simp) ?_
  refine AllReadyH.cons (o := { dst := some 12, op := Op.call { callee := Callee.value (Operand.func 44), args := #[Operand.tmp 10, Operand.tmp 11], argTypes := #[25, 37] }, type := 4, pos := "tree.go:84", after := #[{ on := 0, ground := Ground.data }, { on := 1, ground := Ground.data }], guard := none }) rfl (fun K hK => ?_) AllReadyH.nil
  rw [if_pos (by rfl)]
  go_simp
  refine (C2 _ hHeld).mono ?_
  rintro e x3 ⟨rfl, l1⟩
  try go_wp2_with fail
  skip
  refine hK.out _ _ (hHeld.trans (l1.mono (hN _ hHeld))) (fun hHeld => ?_)
  clear hK K
  change wpAnyH _ _ _ _ _ _ _ (a2.put (some 12) (.bool false)) _
  obtain ⟨a3, e3⟩ : ∃ act, act = a2.put (some 12) (.bool false) := ⟨_, rfl⟩
  rw [← e3] at h ⊢
  have z3 : a3.tmps.size = 29 := by rw [e3, put_size]; exact z2
  replace t0 : a3.tmps.getD 0 undef = .pointer (some ⟨t, 0, none⟩) := by rw [e3, put_ne _ _ _ _ (by decide)]; exact t0
  replace t3 : a3.tmps.getD 3 undef = .pointer (some ⟨bi, 0, none⟩) := by rw [e3, put_ne _ _ _ _ (by decide)]; exact t3
  clear t10
  clear t11
  have t12 : a3.tmps.getD 12 undef = .bool false := by rw [e3]; exact put_same _ _ _ (by omega)
  clear e3 z2
  refine wpAnyH_take (i := 3) (oi := { dst := some 13, op := Op.unOp UnOp.not 4 (Operand.tmp 12), type := 4, pos := "tree.go:84", after := #[{ on := 2, ground := Ground.data }], guard := none }) (v := .bool true) rfl (by kernel_rfl) (by kernel_rfl) (by kernel_rfl) (fun _ _ _ h => h) (Or.inl ⟨by rfl, fun w1 hw => by go_simp⟩) hHeld ?_
  change wpAnyH _ _ _ _ _ _ _ (a3.put (some 13) (.bool true)) _
  obtain ⟨a4, e4⟩ : ∃ act, act = a3.put (some 13) (.bool true) := ⟨_, rfl⟩
  rw [← e4] at h ⊢
  have z4 : a4.tmps.size = 29 := by rw [e4, put_size]; exact z3
  replace t0 : a4.tmps.getD 0 undef = .pointer (some ⟨t, 0, none⟩) := by rw [e4, put_ne _ _ _ _ (by decide)]; exact t0
  replace t3 : a4.tmps.getD 3 undef = .pointer (some ⟨bi, 0, none⟩) := by rw [e4, put_ne _ _ _ _ (by decide)]; exact t3
  clear t12
  have t13 : a4.tmps.getD 13 undef = .bool true := by rw [e4]; exact put_same _ _ _ (by omega)
  clear e4 z3
  refine wpAnyH_take (i := 4) (oi := { dst := some 14, op := Op.move (Operand.tmp 13), type := 4, pos := "tree.go:84", after := #[{ on := 3, ground := Ground.data }, { on := 2, ground := Ground.chain }], guard := none }) (v := .bool true) rfl (by kernel_rfl) (by kernel_rfl) (by kernel_rfl) (fun _ _ _ h => h) (Or.inl ⟨by rfl, fun w1 hw => by go_simp⟩) hHeld ?_
  change wpAnyH _ _ _ _ _ _ _ (a4.put (some 14) (.bool true)) _
  obtain ⟨a5, e5⟩ : ∃ act, act = a4.put (some 14) (.bool true) := ⟨_, rfl⟩
  rw [← e5] at h ⊢
  have z5 : a5.tmps.size = 29 := by rw [e5, put_size]; exact z4
  replace t0 : a5.tmps.getD 0 undef = .pointer (some ⟨t, 0, none⟩) := by rw [e5, put_ne _ _ _ _ (by decide)]; exact t0
  replace t3 : a5.tmps.getD 3 undef = .pointer (some ⟨bi, 0, none⟩) := by rw [e5, put_ne _ _ _ _ (by decide)]; exact t3
  clear t13
  have t14 : a5.tmps.getD 14 undef = .bool true := by rw [e5]; exact put_same _ _ _ (by omega)
  clear e5 z4
  refine wpAnyH_take (i := 5) (oi := { dst := some 15, op := Op.move (Operand.tmp 0), type := 25, pos := "tree.go:84", after := #[{ on := 4, ground := Ground.guard }], guard := some (4, false) }) (v := undef) rfl (by kernel_rfl) (by kernel_rfl) (by kernel_rfl) (fun _ _ _ h => h) (Or.inr ⟨by simp [Region.wanted, yielded, prune3_ops, tget z5 (by decide) t14], rfl⟩) hHeld ?_
  change wpAnyH _ _ _ _ _ _ _ (a5.put (some 15) (undef)) _
  obtain ⟨a6, e6⟩ : ∃ act, act = a5.put (some 15) (undef) := ⟨_, rfl⟩
  rw [← e6] at h ⊢
  have z6 : a6.tmps.size = 29 := by rw [e6, put_size]; exact z5
  clear t0
  replace t3 : a6.tmps.getD 3 undef = .pointer (some ⟨bi, 0, none⟩) := by rw [e6, put_ne _ _ _ _ (by decide)]; exact t3
  replace t14 : a6.tmps.getD 14 undef = .bool true := by rw [e6, put_ne _ _ _ _ (by decide)]; exact t14
  have t15 : a6.tmps.getD 15 undef = undef := by rw [e6]; exact put_same _ _ _ (by omega)
  clear e6 z5
  refine wpAnyH_take (i := 6) (oi := { dst := some 16, op := Op.nilCheck (Operand.tmp 15), type := 0, pos := "tree.go:84", after := #[{ on := 5, ground := Ground.data }, { on := 4, ground := Ground.guard }], guard := some (4, false) }) (v := undef) rfl (by kernel_rfl) (by kernel_rfl) (by kernel_rfl) (fun _ _ _ h => h) (Or.inr ⟨by simp [Region.wanted, yielded, prune3_ops, tget z6 (by decide) t14], rfl⟩) hHeld ?_
  change wpAnyH _ _ _ _ _ _ _ (a6.put (some 16) (undef)) _
  obtain ⟨a7, e7⟩ : ∃ act, act = a6.put (some 16) (undef) := ⟨_, rfl⟩
  rw [← e7] at h ⊢
  have z7 : a7.tmps.size = 29 := by rw [e7, put_size]; exact z6
  replace t3 : a7.tmps.getD 3 undef = .pointer (some ⟨bi, 0, none⟩) := by rw [e7, put_ne _ _ _ _ (by decide)]; exact t3
  replace t14 : a7.tmps.getD 14 undef = .bool true := by rw [e7, put_ne _ _ _ _ (by decide)]; exact t14
  clear t15
  have t16 : a7.tmps.getD 16 undef = undef := by rw [e7]; exact put_same _ _ _ (by omega)
  clear e7 z6
  refine wpAnyH_take (i := 7) (oi := { dst := some 17, op := Op.fieldAddr 82 (Operand.tmp 16) 0, type := 0, pos := "tree.go:84", after := #[{ on := 6, ground := Ground.data }, { on := 4, ground := Ground.guard }], guard := some (4, false) }) (v := undef) rfl (by kernel_rfl) (by kernel_rfl) (by kernel_rfl) (fun _ _ _ h => h) (Or.inr ⟨by simp [Region.wanted, yielded, prune3_ops, tget z7 (by decide) t14], rfl⟩) hHeld ?_
  change wpAnyH _ _ _ _ _ _ _ (a7.put (some 17) (undef)) _
  obtain ⟨a8, e8⟩ : ∃ act, act = a7.put (some 17) (undef) := ⟨_, rfl⟩
  rw [← e8] at h ⊢
  have z8 : a8.tmps.size = 29 := by rw [e8, put_size]; exact z7
  replace t3 : a8.tmps.getD 3 undef = .pointer (some ⟨bi, 0, none⟩) := by rw [e8, put_ne _ _ _ _ (by decide)]; exact t3
  replace t14 : a8.tmps.getD 14 undef = .bool true := by rw [e8, put_ne _ _ _ _ (by decide)]; exact t14
  clear t16
  have t17 : a8.tmps.getD 17 undef = undef := by rw [e8]; exact put_same _ _ _ (by omega)
  clear e8 z7
  refine wpAnyH_take (i := 8) (oi := { dst := some 18, op := Op.load 79 (Operand.tmp 17), type := 79, pos := "tree.go:84", after := #[{ on := 7, ground := Ground.data }, { on := 4, ground := Ground.guard }], guard := some (4, false) }) (v := undef) rfl (by kernel_rfl) (by kernel_rfl) (by kernel_rfl) (fun _ _ _ h => h) (Or.inr ⟨by simp [Region.wanted, yielded, prune3_ops, tget z8 (by decide) t14], rfl⟩) hHeld ?_
  change wpAnyH _ _ _ _ _ _ _ (a8.put (some 18) (undef)) _
  obtain ⟨a9, e9⟩ : ∃ act, act = a8.put (some 18) (undef) := ⟨_, rfl⟩
  rw [← e9] at h ⊢
  have z9 : a9.tmps.size = 29 := by rw [e9, put_size]; exact z8
  replace t3 : a9.tmps.getD 3 undef = .pointer (some ⟨bi, 0, none⟩) := by rw [e9, put_ne _ _ _ _ (by decide)]; exact t3
  replace t14 : a9.tmps.getD 14 undef = .bool true := by rw [e9, put_ne _ _ _ _ (by decide)]; exact t14
  clear t17
  have t18 : a9.tmps.getD 18 undef = undef := by rw [e9]; exact put_same _ _ _ (by omega)
  clear e9 z8
  refine wpAnyH_take (i := 9) (oi := { dst := some 19, op := Op.load 37 (Operand.tmp 3), type := 37, pos := "tree.go:84", after := #[{ on := 4, ground := Ground.guard }], guard := some (4, false) }) (v := undef) rfl (by kernel_rfl) (by kernel_rfl) (by kernel_rfl) (fun _ _ _ h => h) (Or.inr ⟨by simp [Region.wanted, yielded, prune3_ops, tget z9 (by decide) t14], rfl⟩) hHeld ?_
  change wpAnyH _ _ _ _ _ _ _ (a9.put (some 19) (undef)) _
  obtain ⟨a10, e10⟩ : ∃ act, act = a9.put (some 19) (undef) := ⟨_, rfl⟩
  rw [← e10] at h ⊢
  have z10 : a10.tmps.size = 29 := by rw [e10, put_size]; exact z9
  clear t3
  replace t14 : a10.tmps.getD 14 undef = .bool true := by rw [e10, put_ne _ _ _ _ (by decide)]; exact t14
  replace t18 : a10.tmps.getD 18 undef = undef := by rw [e10, put_ne _ _ _ _ (by decide)]; exact t18
  have t19 : a10.tmps.getD 19 undef = undef := by rw [e10]; exact put_same _ _ _ (by omega)
  clear e10 z9
  refine wpAnyH_take (i := 10) (oi := { dst := some 20, op := Op.lookup 79 (Operand.tmp 18) (Operand.tmp 19) false, type := 94, pos := "tree.go:84", after := #[{ on := 8, ground := Ground.data }, { on := 9, ground := Ground.data }, { on := 4, ground := Ground.guard }], guard := some (4, false) }) (v := undef) rfl (by kernel_rfl) (by kernel_rfl) (by kernel_rfl) (fun _ _ _ h => h) (Or.inr ⟨by simp [Region.wanted, yielded, prune3_ops, tget z10 (by decide) t14], rfl⟩) hHeld ?_
  change wpAnyH _ _ _ _ _ _ _ (a10.put (some 20) (undef)) _
  obtain ⟨a11, e11⟩ : ∃ act, act = a10.put (some 20) (undef) := ⟨_, rfl⟩
  rw [← e11] at h ⊢
  have z11 : a11.tmps.size = 29 := by rw [e11, put_size]; exact z10
  replace t14 : a11.tmps.getD 14 undef = .bool true := by rw [e11, put_ne _ _ _ _ (by decide)]; exact t14
  clear t18
  clear t19
  have t20 : a11.tmps.getD 20 undef = undef := by rw [e11]; exact put_same _ _ _ (by omega)
  clear e11 z10
  refine wpAnyH_take (i := 11) (oi := { dst := some 21, op := Op.field 94 (Operand.tmp 20) 2, type := 4, pos := "tree.go:84", after := #[{ on := 10, ground := Ground.data }, { on := 4, ground := Ground.guard }], guard := some (4, false) }) (v := undef) rfl (by kernel_rfl) (by kernel_rfl) (by kernel_rfl) (fun _ _ _ h => h) (Or.inr ⟨by simp [Region.wanted, yielded, prune3_ops, tget z11 (by decide) t14], rfl⟩) hHeld ?_
  change wpAnyH _ _ _ _ _ _ _ (a11.put (some 21) (undef)) _
  obtain ⟨a12, e12⟩ : ∃ act, act = a11.put (some 21) (undef) := ⟨_, rfl⟩
  rw [← e12] at h ⊢
  have z12 : a12.tmps.size = 29 := by rw [e12, put_size]; exact z11
  replace t14 : a12.tmps.getD 14 undef = .bool true := by rw [e12, put_ne _ _ _ _ (by decide)]; exact t14
  clear t20
  have t21 : a12.tmps.getD 21 undef = undef := by rw [e12]; exact put_same _ _ _ (by omega)
  clear e12 z11
  refine wpAnyH_take (i := 12) (oi := { dst := some 22, op := Op.pick (Operand.tmp 14) (Operand.const (Value.bool true)) (Operand.tmp 21), type := 4, pos := "tree.go:84", after := #[{ on := 4, ground := Ground.data }, { on := 11, ground := Ground.data }], guard := none }) (v := .bool true) rfl (by kernel_rfl) (by kernel_rfl) (by kernel_rfl) (fun _ _ _ h => h) (Or.inl ⟨by rfl, fun w1 hw => by go_simp⟩) hHeld ?_
  change wpAnyH _ _ _ _ _ _ _ (a12.put (some 22) (.bool true)) _
  obtain ⟨a13, e13⟩ : ∃ act, act = a12.put (some 22) (.bool true) := ⟨_, rfl⟩
  rw [← e13] at h ⊢
  have z13 : a13.tmps.size = 29 := by rw [e13, put_size]; exact z12
  clear t14
  clear t21
  have t22 : a13.tmps.getD 22 undef = .bool true := by rw [e13]; exact put_same _ _ _ (by omega)
  clear e13 z12
  refine wpAnyH_take (i := 13) (oi := { dst := some 9, op := Op.assign (Operand.tmp 22), type := 4, pos := "tree.go:84", after := #[{ on := 12, ground := Ground.data }, { on := 4, ground := Ground.chain }], guard := none }) (v := .bool true) rfl (by kernel_rfl) (by kernel_rfl) (by kernel_rfl) (fun _ _ _ h => h) (Or.inl ⟨by rfl, fun w1 hw => by go_simp⟩) hHeld ?_
  change wpAnyH _ _ _ _ _ _ _ (a13.put (some 9) (.bool true)) _
  obtain ⟨a14, e14⟩ : ∃ act, act = a13.put (some 9) (.bool true) := ⟨_, rfl⟩
  rw [← e14] at h ⊢
  have z14 : a14.tmps.size = 29 := by rw [e14, put_size]; exact z13
  clear t22
  clear e14 z13
  exact wpAnyH_done (by kernel_rfl) (NoPanic.normal (h _ _ hHeld rfl)) _
end Go.Proofs.Ytoofljkgdjjllaa
