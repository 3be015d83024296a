import Derived.Test.YtoofljkgdjjllaaRg
import Derived.Test.YtoofljkgdjjllaaTyb
namespace Go.Proofs.Ytoofljkgdjjllaa
open Go.RowKit
set_option linter.unusedVariables false
set_option linter.unusedSimpArgs false

theorem tget {n : Nat} {t : Array Value} {d : Nat} {v : Value} (hs : t.size = n) (hd : d < n) (h : t.getD d undef = v) : t[d]? = some v := by
  rw [Array.getD_eq_getD_getElem?, Array.getElem?_eq_getElem (by omega)] at h
  rw [Array.getElem?_eq_getElem (by omega)]
  simpa using h
theorem exec_field {P : Program} {w : World} {a : Act} {o : Oper} {t i : Nat} {x : Operand} {u v : Value} (ho : o.op = .field t x i) (hp : a.eval x = u) (hl : (Instr.field t u i).run P w = .ok v w) : (execOp a.eval o).run P w = .ok (.value v) w := by
  unfold execOp; simp only [ho, hp, Sem.run_bind, hl, Result.andThen_ok, Sem.run_pure]
set_option maxRecDepth 100000 in
theorem field_pr0 (w : World) (a0 a1 a2 a3 a4 a5 a6 a7 a8 a9 a10 a11 a12 a13 a14 a15 a16 a17 a18 a19 a20 a21 a22 a23 a24 a25 a26 a27 a28 a29 a30 a31 a32 : Value) (key : ByteArray) (b : Bool) : (Instr.field 94 (.agg ([a0, a1, a2, a3, a4, a5, a6, a7, a8, a9, a10, a11, a12, a13, a14, a15, a16, a17, a18, a19, a20, a21, a22, a23, a24, a25, a26, a27, a28, a29, a30, a31, a32] ++ [Value.string key, Value.bool b]).toArray) 2).run Try.prog w = .ok (.bool b) w := by kernel_rfl
theorem field_pr (w : World) (n : NodeV) (hn : n.u.ok) : (Instr.field 94 n.v 2).run Try.prog w = .ok (.bool n.pr) w := by
  have h := IdK.len hn
  unfold NodeV.v NodeV.c
  generalize n.u.c = l at *
  match l, h with
  | a0 :: a1 :: a2 :: a3 :: a4 :: a5 :: a6 :: a7 :: a8 :: a9 :: a10 :: a11 :: a12 :: a13 :: a14 :: a15 :: a16 :: a17 :: a18 :: a19 :: a20 :: a21 :: a22 :: a23 :: a24 :: a25 :: a26 :: a27 :: a28 :: a29 :: a30 :: a31 :: a32 :: [], _ => exact field_pr0 w a0 a1 a2 a3 a4 a5 a6 a7 a8 a9 a10 a11 a12 a13 a14 a15 a16 a17 a18 a19 a20 a21 a22 a23 a24 a25 a26 a27 a28 a29 a30 a31 a32 n.key n.pr
def prune3_o0 : Oper := { dst := some 10, op := Op.move (Operand.tmp 0), type := 25, pos := "tree.go:84", after := #[], guard := none }
def prune3_o1 : Oper := { dst := some 11, op := Op.load 37 (Operand.tmp 3), type := 37, pos := "tree.go:84", after := #[], guard := none }
def prune3_o2 : Oper := { dst := some 12, op := Op.call { callee := Callee.value (Operand.func 44), args := #[Operand.tmp 10, Operand.tmp 11], argTypes := #[25, 37] }, type := 4, pos := "tree.go:84", after := #[{ on := 0, ground := Ground.data }, { on := 1, ground := Ground.data }], guard := none }
def prune3_o3 : Oper := { dst := some 13, op := Op.unOp UnOp.not 4 (Operand.tmp 12), type := 4, pos := "tree.go:84", after := #[{ on := 2, ground := Ground.data }], guard := none }
def prune3_o4 : Oper := { dst := some 14, op := Op.move (Operand.tmp 13), type := 4, pos := "tree.go:84", after := #[{ on := 3, ground := Ground.data }, { on := 2, ground := Ground.chain }], guard := none }
def prune3_o5 : Oper := { dst := some 15, op := Op.move (Operand.tmp 0), type := 25, pos := "tree.go:84", after := #[{ on := 4, ground := Ground.guard }], guard := some (4, false) }
def prune3_o6 : Oper := { dst := some 16, op := Op.nilCheck (Operand.tmp 15), type := 0, pos := "tree.go:84", after := #[{ on := 5, ground := Ground.data }, { on := 4, ground := Ground.guard }], guard := some (4, false) }
def prune3_o7 : Oper := { dst := some 17, op := Op.fieldAddr 82 (Operand.tmp 16) 0, type := 0, pos := "tree.go:84", after := #[{ on := 6, ground := Ground.data }, { on := 4, ground := Ground.guard }], guard := some (4, false) }
def prune3_o8 : Oper := { dst := some 18, op := Op.load 79 (Operand.tmp 17), type := 79, pos := "tree.go:84", after := #[{ on := 7, ground := Ground.data }, { on := 4, ground := Ground.guard }], guard := some (4, false) }
def prune3_o9 : Oper := { dst := some 19, op := Op.load 37 (Operand.tmp 3), type := 37, pos := "tree.go:84", after := #[{ on := 4, ground := Ground.guard }], guard := some (4, false) }
def prune3_o10 : Oper := { dst := some 20, op := Op.lookup 79 (Operand.tmp 18) (Operand.tmp 19) false, type := 94, pos := "tree.go:84", after := #[{ on := 8, ground := Ground.data }, { on := 9, ground := Ground.data }, { on := 4, ground := Ground.guard }], guard := some (4, false) }
def prune3_o11 : Oper := { dst := some 21, op := Op.field 94 (Operand.tmp 20) 2, type := 4, pos := "tree.go:84", after := #[{ on := 10, ground := Ground.data }, { on := 4, ground := Ground.guard }], guard := some (4, false) }
def prune3_o12 : Oper := { dst := some 22, op := Op.pick (Operand.tmp 14) (Operand.const (Value.bool true)) (Operand.tmp 21), type := 4, pos := "tree.go:84", after := #[{ on := 4, ground := Ground.data }, { on := 11, ground := Ground.data }], guard := none }
def prune3_o13 : Oper := { dst := some 9, op := Op.assign (Operand.tmp 22), type := 4, pos := "tree.go:84", after := #[{ on := 12, ground := Ground.data }, { on := 4, ground := Ground.chain }], guard := none }
def prune3_ops : Array Oper := #[prune3_o0, prune3_o1, prune3_o2, prune3_o3, prune3_o4, prune3_o5, prune3_o6, prune3_o7, prune3_o8, prune3_o9, prune3_o10, prune3_o11, prune3_o12, prune3_o13]
set_option maxRecDepth 100000 in
set_option maxHeartbeats 4000000 in
theorem prune3y (N : Nat) (w0 : World) (t bi : Nat) (kv mv nv : Value) (pb : Bool) (a : Act) (w : World) (Q : Exit → Act → World → Prop) (hsz : a.tmps.size = 29)
    (t0 : a.tmps.getD 0 undef = .pointer (some ⟨t, 0, none⟩))
    (t3 : a.tmps.getD 3 undef = .pointer (some ⟨bi, 0, none⟩))
    (h0 : Below N w0 w.drew)
    (hN : ∀ W, Below N w0 W → N ≤ W.heap.size)
    (HLD : ∀ W, Below N w0 W → (Instr.loadAt 37 (.pointer (some ⟨bi, 0, none⟩))).run Try.prog W = .ok kv W)
    (HLM : ∀ W, Below N w0 W → (Instr.loadAt 79 (.pointer (some ⟨t, 0, none⟩))).run Try.prog W = .ok mv W)
    (HLK : ∀ W, Below N w0 W → (Instr.lookup 79 mv kv false).run Try.prog W = .ok nv W)
    (HFD : ∀ W, (Instr.field 94 nv 2).run Try.prog W = .ok (.bool pb) W)
    (C2 : ∀ W, Below N w0 W → Calls Try.prog 44 #[.pointer (some ⟨t, 0, none⟩), kv] W fun e w' => e = .returned (.bool true) ∧ Below W.heap.size W w')
    (h : ∀ (a' : Act) (w' : World), Below N w0 w' → a' = ((((((((((((((a).put (some 10) (.pointer (some ⟨t, 0, none⟩))).put (some 11) (kv)).put (some 12) (.bool true)).put (some 13) (.bool false)).put (some 14) (.bool false)).put (some 15) (.pointer (some ⟨t, 0, none⟩))).put (some 16) (.pointer (some ⟨t, 0, none⟩))).put (some 17) (.pointer (some ⟨t, 0, none⟩))).put (some 18) (mv)).put (some 19) (kv)).put (some 20) (nv)).put (some 21) (.bool pb)).put (some 22) (.bool pb)).put (some 9) (.bool pb) → Q .normal a' w') :
    (Code.region 3 prune3_ops true).wp Try.prog Q a w := by
  refine wp_region_noPanic ?_
  refine wp_region_held_drew (S := fun w' => Below N w0 w') (by kernel_rfl) (h0) (fun hHeld => ?_)
  refine tk 0 prune3_o0 (.pointer (some ⟨t, 0, none⟩)) (by rfl) (fun w1 hw => by unfold prune3_o0; go_simp) hHeld (fun a1 e1 => ?_)
  rw [← e1] at h
  have z1 := pz e1 hsz
  replace t0 := pk e1 t0
  replace t3 := pk e1 t3
  have t10 := pq e1 hsz
  clear e1 hsz
  refine tk 1 prune3_o1 (kv) (by rfl) (fun w1 hw => exec_load rfl t3 (HLD _ hw)) hHeld (fun a2 e2 => ?_)
  rw [← e2] at h
  have z2 := pz e2 z1
  replace t0 := pk e2 t0
  replace t3 := pk e2 t3
  replace t10 := pk e2 t10
  have t11 := pq e2 z1
  clear e2 z1
  refine wpAnyH_ready (rs := [2]) (by kernel_rfl) (by simp) ?_
  refine AllReadyH.cons (o := prune3_o2) rfl (fun K hK => ?_) AllReadyH.nil
  rw [if_pos (by rfl)]
  unfold prune3_o2 at hK ⊢
  go_simp
  refine (C2 _ hHeld).mono ?_
  rintro e x3 ⟨rfl, l1⟩
  try go_wp2_with fail
  skip
  refine hK.out _ _ (hHeld.trans (l1.mono (hN _ hHeld))) (fun hHeld => ?_)
  clear hK K
  change wpAnyH _ _ _ _ _ _ _ (a2.put (some 12) (.bool true)) _
  obtain ⟨a3, e3⟩ : ∃ act, act = a2.put (some 12) (.bool true) := ⟨_, rfl⟩
  rw [← e3] at h ⊢
  have z3 := pz e3 z2
  replace t0 := pk e3 t0
  replace t3 := pk e3 t3
  clear t10
  clear t11
  have t12 := pq e3 z2
  clear e3 z2
  refine tk 3 prune3_o3 (.bool false) (by rfl) (fun w1 hw => by unfold prune3_o3; go_simp) hHeld (fun a4 e4 => ?_)
  rw [← e4] at h
  have z4 := pz e4 z3
  replace t0 := pk e4 t0
  replace t3 := pk e4 t3
  clear t12
  have t13 := pq e4 z3
  clear e4 z3
  refine tk 4 prune3_o4 (.bool false) (by rfl) (fun w1 hw => by unfold prune3_o4; go_simp) hHeld (fun a5 e5 => ?_)
  rw [← e5] at h
  have z5 := pz e5 z4
  replace t0 := pk e5 t0
  replace t3 := pk e5 t3
  clear t13
  have t14 := pq e5 z4
  clear e5 z4
  refine tk 5 prune3_o5 (.pointer (some ⟨t, 0, none⟩)) (by simp [Region.wanted, yielded, prune3_o5, prune3_o4, prune3_ops, tget z5 (by decide) t14]) (fun w1 hw => by unfold prune3_o5; go_simp) hHeld (fun a6 e6 => ?_)
  rw [← e6] at h
  have z6 := pz e6 z5
  clear t0
  replace t3 := pk e6 t3
  replace t14 := pk e6 t14
  have t15 := pq e6 z5
  clear e6 z5
  refine tk 6 prune3_o6 (.pointer (some ⟨t, 0, none⟩)) (by simp [Region.wanted, yielded, prune3_o6, prune3_o4, prune3_ops, tget z6 (by decide) t14]) (fun w1 hw => by unfold prune3_o6; go_simp) hHeld (fun a7 e7 => ?_)
  rw [← e7] at h
  have z7 := pz e7 z6
  replace t3 := pk e7 t3
  replace t14 := pk e7 t14
  clear t15
  have t16 := pq e7 z6
  clear e7 z6
  refine tk 7 prune3_o7 (.pointer (some ⟨t, 0, none⟩)) (by simp [Region.wanted, yielded, prune3_o7, prune3_o4, prune3_ops, tget z7 (by decide) t14]) (fun w1 hw => exec_fieldAt rfl t16 (fa_82_0 _ _)) hHeld (fun a8 e8 => ?_)
  rw [← e8] at h
  have z8 := pz e8 z7
  replace t3 := pk e8 t3
  replace t14 := pk e8 t14
  clear t16
  have t17 := pq e8 z7
  clear e8 z7
  refine tk 8 prune3_o8 (mv) (by simp [Region.wanted, yielded, prune3_o8, prune3_o4, prune3_ops, tget z8 (by decide) t14]) (fun w1 hw => exec_load rfl t17 (HLM _ hw)) hHeld (fun a9 e9 => ?_)
  rw [← e9] at h
  have z9 := pz e9 z8
  replace t3 := pk e9 t3
  replace t14 := pk e9 t14
  clear t17
  have t18 := pq e9 z8
  clear e9 z8
  refine tk 9 prune3_o9 (kv) (by simp [Region.wanted, yielded, prune3_o9, prune3_o4, prune3_ops, tget z9 (by decide) t14]) (fun w1 hw => exec_load rfl t3 (HLD _ hw)) hHeld (fun a10 e10 => ?_)
  rw [← e10] at h
  have z10 := pz e10 z9
  clear t3
  replace t14 := pk e10 t14
  replace t18 := pk e10 t18
  have t19 := pq e10 z9
  clear e10 z9
  refine tk 10 prune3_o10 (nv) (by simp [Region.wanted, yielded, prune3_o10, prune3_o4, prune3_ops, tget z10 (by decide) t14]) (fun w1 hw => exec_lookup rfl t18 t19 (HLK _ hw)) hHeld (fun a11 e11 => ?_)
  rw [← e11] at h
  have z11 := pz e11 z10
  replace t14 := pk e11 t14
  clear t18
  clear t19
  have t20 := pq e11 z10
  clear e11 z10
  refine tk 11 prune3_o11 (.bool pb) (by simp [Region.wanted, yielded, prune3_o11, prune3_o4, prune3_ops, tget z11 (by decide) t14]) (fun w1 hw => exec_field rfl t20 (HFD _)) hHeld (fun a12 e12 => ?_)
  rw [← e12] at h
  have z12 := pz e12 z11
  replace t14 := pk e12 t14
  clear t20
  have t21 := pq e12 z11
  clear e12 z11
  refine tk 12 prune3_o12 (.bool pb) (by rfl) (fun w1 hw => by unfold prune3_o12; go_simp) hHeld (fun a13 e13 => ?_)
  rw [← e13] at h
  have z13 := pz e13 z12
  clear t14
  clear t21
  have t22 := pq e13 z12
  clear e13 z12
  refine tk 13 prune3_o13 (.bool pb) (by rfl) (fun w1 hw => by unfold prune3_o13; go_simp) hHeld (fun a14 e14 => ?_)
  rw [← e14] at h
  have z14 := pz e14 z13
  clear t22
  clear e14 z13
  exact wpAnyH_done (by kernel_rfl) (NoPanic.normal (h _ _ hHeld rfl)) _
set_option maxRecDepth 100000 in
set_option maxHeartbeats 4000000 in
theorem prune3n (N : Nat) (w0 : World) (t bi : Nat) (kv mv nv : Value) (pb : Bool) (a : Act) (w : World) (Q : Exit → Act → World → Prop) (hsz : a.tmps.size = 29)
    (t0 : a.tmps.getD 0 undef = .pointer (some ⟨t, 0, none⟩))
    (t3 : a.tmps.getD 3 undef = .pointer (some ⟨bi, 0, none⟩))
    (h0 : Below N w0 w.drew)
    (hN : ∀ W, Below N w0 W → N ≤ W.heap.size)
    (HLD : ∀ W, Below N w0 W → (Instr.loadAt 37 (.pointer (some ⟨bi, 0, none⟩))).run Try.prog W = .ok kv W)
    (HLM : ∀ W, Below N w0 W → (Instr.loadAt 79 (.pointer (some ⟨t, 0, none⟩))).run Try.prog W = .ok mv W)
    (HLK : ∀ W, Below N w0 W → (Instr.lookup 79 mv kv false).run Try.prog W = .ok nv W)
    (HFD : ∀ W, (Instr.field 94 nv 2).run Try.prog W = .ok (.bool pb) W)
    (C2 : ∀ W, Below N w0 W → Calls Try.prog 44 #[.pointer (some ⟨t, 0, none⟩), kv] W fun e w' => e = .returned (.bool false) ∧ Below W.heap.size W w')
    (h : ∀ (a' : Act) (w' : World), Below N w0 w' → a' = ((((((((((((((a).put (some 10) (.pointer (some ⟨t, 0, none⟩))).put (some 11) (kv)).put (some 12) (.bool false)).put (some 13) (.bool true)).put (some 14) (.bool true)).put (some 15) (undef)).put (some 16) (undef)).put (some 17) (undef)).put (some 18) (undef)).put (some 19) (undef)).put (some 20) (undef)).put (some 21) (undef)).put (some 22) (.bool true)).put (some 9) (.bool true) → Q .normal a' w') :
    (Code.region 3 prune3_ops true).wp Try.prog Q a w := by
  refine wp_region_noPanic ?_
  refine wp_region_held_drew (S := fun w' => Below N w0 w') (by kernel_rfl) (h0) (fun hHeld => ?_)
  refine tk 0 prune3_o0 (.pointer (some ⟨t, 0, none⟩)) (by rfl) (fun w1 hw => by unfold prune3_o0; go_simp) hHeld (fun a1 e1 => ?_)
  rw [← e1] at h
  have z1 := pz e1 hsz
  replace t0 := pk e1 t0
  replace t3 := pk e1 t3
  have t10 := pq e1 hsz
  clear e1 hsz
  refine tk 1 prune3_o1 (kv) (by rfl) (fun w1 hw => exec_load rfl t3 (HLD _ hw)) hHeld (fun a2 e2 => ?_)
  rw [← e2] at h
  have z2 := pz e2 z1
  replace t0 := pk e2 t0
  replace t3 := pk e2 t3
  replace t10 := pk e2 t10
  have t11 := pq e2 z1
  clear e2 z1
  refine wpAnyH_ready (rs := [2]) (by kernel_rfl) (by simp) ?_
  refine AllReadyH.cons (o := prune3_o2) rfl (fun K hK => ?_) AllReadyH.nil
  rw [if_pos (by rfl)]
  unfold prune3_o2 at hK ⊢
  go_simp
  refine (C2 _ hHeld).mono ?_
  rintro e x3 ⟨rfl, l1⟩
  try go_wp2_with fail
  skip
  refine hK.out _ _ (hHeld.trans (l1.mono (hN _ hHeld))) (fun hHeld => ?_)
  clear hK K
  change wpAnyH _ _ _ _ _ _ _ (a2.put (some 12) (.bool false)) _
  obtain ⟨a3, e3⟩ : ∃ act, act = a2.put (some 12) (.bool false) := ⟨_, rfl⟩
  rw [← e3] at h ⊢
  have z3 := pz e3 z2
  replace t0 := pk e3 t0
  replace t3 := pk e3 t3
  clear t10
  clear t11
  have t12 := pq e3 z2
  clear e3 z2
  refine tk 3 prune3_o3 (.bool true) (by rfl) (fun w1 hw => by unfold prune3_o3; go_simp) hHeld (fun a4 e4 => ?_)
  rw [← e4] at h
  have z4 := pz e4 z3
  replace t0 := pk e4 t0
  replace t3 := pk e4 t3
  clear t12
  have t13 := pq e4 z3
  clear e4 z3
  refine tk 4 prune3_o4 (.bool true) (by rfl) (fun w1 hw => by unfold prune3_o4; go_simp) hHeld (fun a5 e5 => ?_)
  rw [← e5] at h
  have z5 := pz e5 z4
  replace t0 := pk e5 t0
  replace t3 := pk e5 t3
  clear t13
  have t14 := pq e5 z4
  clear e5 z4
  refine wpAnyH_take (i := 5) (oi := prune3_o5) (v := undef) rfl (by kernel_rfl) (by kernel_rfl) (by kernel_rfl) (fun _ _ _ h => h) (Or.inr ⟨by simp [Region.wanted, yielded, prune3_o5, prune3_o4, prune3_ops, tget z5 (by decide) t14], rfl⟩) hHeld ?_
  change wpAnyH _ _ _ _ _ _ _ (a5.put (some 15) (undef)) _
  obtain ⟨a6, e6⟩ : ∃ act, act = a5.put (some 15) (undef) := ⟨_, rfl⟩
  rw [← e6] at h ⊢
  have z6 := pz e6 z5
  clear t0
  replace t3 := pk e6 t3
  replace t14 := pk e6 t14
  have t15 := pq e6 z5
  clear e6 z5
  refine wpAnyH_take (i := 6) (oi := prune3_o6) (v := undef) rfl (by kernel_rfl) (by kernel_rfl) (by kernel_rfl) (fun _ _ _ h => h) (Or.inr ⟨by simp [Region.wanted, yielded, prune3_o6, prune3_o4, prune3_ops, tget z6 (by decide) t14], rfl⟩) hHeld ?_
  change wpAnyH _ _ _ _ _ _ _ (a6.put (some 16) (undef)) _
  obtain ⟨a7, e7⟩ : ∃ act, act = a6.put (some 16) (undef) := ⟨_, rfl⟩
  rw [← e7] at h ⊢
  have z7 := pz e7 z6
  replace t3 := pk e7 t3
  replace t14 := pk e7 t14
  clear t15
  have t16 := pq e7 z6
  clear e7 z6
  refine wpAnyH_take (i := 7) (oi := prune3_o7) (v := undef) rfl (by kernel_rfl) (by kernel_rfl) (by kernel_rfl) (fun _ _ _ h => h) (Or.inr ⟨by simp [Region.wanted, yielded, prune3_o7, prune3_o4, prune3_ops, tget z7 (by decide) t14], rfl⟩) hHeld ?_
  change wpAnyH _ _ _ _ _ _ _ (a7.put (some 17) (undef)) _
  obtain ⟨a8, e8⟩ : ∃ act, act = a7.put (some 17) (undef) := ⟨_, rfl⟩
  rw [← e8] at h ⊢
  have z8 := pz e8 z7
  replace t3 := pk e8 t3
  replace t14 := pk e8 t14
  clear t16
  have t17 := pq e8 z7
  clear e8 z7
  refine wpAnyH_take (i := 8) (oi := prune3_o8) (v := undef) rfl (by kernel_rfl) (by kernel_rfl) (by kernel_rfl) (fun _ _ _ h => h) (Or.inr ⟨by simp [Region.wanted, yielded, prune3_o8, prune3_o4, prune3_ops, tget z8 (by decide) t14], rfl⟩) hHeld ?_
  change wpAnyH _ _ _ _ _ _ _ (a8.put (some 18) (undef)) _
  obtain ⟨a9, e9⟩ : ∃ act, act = a8.put (some 18) (undef) := ⟨_, rfl⟩
  rw [← e9] at h ⊢
  have z9 := pz e9 z8
  replace t3 := pk e9 t3
  replace t14 := pk e9 t14
  clear t17
  have t18 := pq e9 z8
  clear e9 z8
  refine wpAnyH_take (i := 9) (oi := prune3_o9) (v := undef) rfl (by kernel_rfl) (by kernel_rfl) (by kernel_rfl) (fun _ _ _ h => h) (Or.inr ⟨by simp [Region.wanted, yielded, prune3_o9, prune3_o4, prune3_ops, tget z9 (by decide) t14], rfl⟩) hHeld ?_
  change wpAnyH _ _ _ _ _ _ _ (a9.put (some 19) (undef)) _
  obtain ⟨a10, e10⟩ : ∃ act, act = a9.put (some 19) (undef) := ⟨_, rfl⟩
  rw [← e10] at h ⊢
  have z10 := pz e10 z9
  clear t3
  replace t14 := pk e10 t14
  replace t18 := pk e10 t18
  have t19 := pq e10 z9
  clear e10 z9
  refine wpAnyH_take (i := 10) (oi := prune3_o10) (v := undef) rfl (by kernel_rfl) (by kernel_rfl) (by kernel_rfl) (fun _ _ _ h => h) (Or.inr ⟨by simp [Region.wanted, yielded, prune3_o10, prune3_o4, prune3_ops, tget z10 (by decide) t14], rfl⟩) hHeld ?_
  change wpAnyH _ _ _ _ _ _ _ (a10.put (some 20) (undef)) _
  obtain ⟨a11, e11⟩ : ∃ act, act = a10.put (some 20) (undef) := ⟨_, rfl⟩
  rw [← e11] at h ⊢
  have z11 := pz e11 z10
  replace t14 := pk e11 t14
  clear t18
  clear t19
  have t20 := pq e11 z10
  clear e11 z10
  refine wpAnyH_take (i := 11) (oi := prune3_o11) (v := undef) rfl (by kernel_rfl) (by kernel_rfl) (by kernel_rfl) (fun _ _ _ h => h) (Or.inr ⟨by simp [Region.wanted, yielded, prune3_o11, prune3_o4, prune3_ops, tget z11 (by decide) t14], rfl⟩) hHeld ?_
  change wpAnyH _ _ _ _ _ _ _ (a11.put (some 21) (undef)) _
  obtain ⟨a12, e12⟩ : ∃ act, act = a11.put (some 21) (undef) := ⟨_, rfl⟩
  rw [← e12] at h ⊢
  have z12 := pz e12 z11
  replace t14 := pk e12 t14
  clear t20
  have t21 := pq e12 z11
  clear e12 z11
  refine tk 12 prune3_o12 (.bool true) (by rfl) (fun w1 hw => by unfold prune3_o12; go_simp) hHeld (fun a13 e13 => ?_)
  rw [← e13] at h
  have z13 := pz e13 z12
  clear t14
  clear t21
  have t22 := pq e13 z12
  clear e13 z12
  refine tk 13 prune3_o13 (.bool true) (by rfl) (fun w1 hw => by unfold prune3_o13; go_simp) hHeld (fun a14 e14 => ?_)
  rw [← e14] at h
  have z14 := pz e14 z13
  clear t22
  clear e14 z13
  exact wpAnyH_done (by kernel_rfl) (NoPanic.normal (h _ _ hHeld rfl)) _
end Go.Proofs.Ytoofljkgdjjllaa
