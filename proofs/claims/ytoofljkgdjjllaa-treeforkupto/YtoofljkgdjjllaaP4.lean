import Derived.Test.YtoofljkgdjjllaaRg
import Derived.Test.YtoofljkgdjjllaaP3
import Derived.Test.YtoofljkgdjjllaaP1
set_option maxRecDepth 100000
set_option maxHeartbeats 4000000
namespace Go.Proofs.Ytoofljkgdjjllaa
open Go.RowKit
set_option linter.unusedVariables false
set_option linter.unusedSimpArgs false
def rkids7p_o0 : Oper := ⟨some 33, .move (.tmp 0), 27, "ref.go:187", #[], none⟩
def rkids7p_o1 : Oper := ⟨some 34, .nilCheck (.tmp 33), 0, "ref.go:187", #[⟨0, .data⟩], none⟩
def rkids7p_o2 : Oper := ⟨some 35, .fieldAddr 86 (.tmp 34) 0, 0, "ref.go:187", #[⟨1, .data⟩], none⟩
def rkids7p_o3 : Oper := ⟨some 36, .load 83 (.tmp 35), 83, "ref.go:187", #[⟨2, .data⟩], none⟩
def rkids7p_o4 : Oper := ⟨some 37, .move (.tmp 6), 3, "ref.go:187", #[], none⟩
def rkids7p_o5 : Oper := ⟨some 38, .indexAddr 83 (.tmp 36) (.tmp 37), 0, "ref.go:187", #[⟨3, .data⟩, ⟨4, .data⟩], none⟩
def rkids7p_o6 : Oper := ⟨some 39, .fieldAddr 114 (.tmp 38) 3, 0, "ref.go:187", #[⟨5, .data⟩], none⟩
def rkids7p_o7 : Oper := ⟨some 40, .load 4 (.tmp 39), 4, "ref.go:187", #[⟨6, .data⟩], none⟩
def rkids7p_o8 : Oper := ⟨some 41, .move (.tmp 40), 4, "ref.go:187", #[⟨7, .data⟩], none⟩
def rkids7p_o9 : Oper := ⟨some 42, .move (.tmp 0), 27, "ref.go:187", #[⟨8, .guard⟩], some (8, false)⟩
def rkids7p_o10 : Oper := ⟨some 43, .nilCheck (.tmp 42), 0, "ref.go:187", #[⟨9, .data⟩, ⟨8, .guard⟩], some (8, false)⟩
def rkids7p_o11 : Oper := ⟨some 44, .fieldAddr 86 (.tmp 43) 0, 0, "ref.go:187", #[⟨10, .data⟩, ⟨8, .guard⟩], some (8, false)⟩
def rkids7p_o12 : Oper := ⟨some 45, .load 83 (.tmp 44), 83, "ref.go:187", #[⟨11, .data⟩, ⟨8, .guard⟩], some (8, false)⟩
def rkids7p_o13 : Oper := ⟨some 46, .move (.tmp 6), 3, "ref.go:187", #[⟨8, .guard⟩], some (8, false)⟩
def rkids7p_o14 : Oper := ⟨some 47, .indexAddr 83 (.tmp 45) (.tmp 46), 0, "ref.go:187", #[⟨12, .data⟩, ⟨13, .data⟩, ⟨8, .guard⟩], some (8, false)⟩
def rkids7p_o15 : Oper := ⟨some 48, .fieldAddr 114 (.tmp 47) 1, 0, "ref.go:187", #[⟨14, .data⟩, ⟨8, .guard⟩], some (8, false)⟩
def rkids7p_o16 : Oper := ⟨some 49, .load 37 (.tmp 48), 37, "ref.go:187", #[⟨15, .data⟩, ⟨8, .guard⟩], some (8, false)⟩
def rkids7p_o17 : Oper := ⟨some 50, .load 37 (.tmp 3), 37, "ref.go:187", #[⟨8, .guard⟩], some (8, false)⟩
def rkids7p_o18 : Oper := ⟨some 51, .binOp BinOp.neq 37 (.tmp 49) (.tmp 50) 37, 4, "ref.go:187", #[⟨16, .data⟩, ⟨17, .data⟩, ⟨8, .guard⟩], some (8, false)⟩
def rkids7p_o19 : Oper := ⟨some 52, .pick (.tmp 41) (Operand.const (Value.bool true)) (.tmp 51), 4, "ref.go:187", #[⟨8, .data⟩, ⟨18, .data⟩], none⟩
def rkids7p_ops : Array Oper := #[rkids7p_o0, rkids7p_o1, rkids7p_o2, rkids7p_o3, rkids7p_o4, rkids7p_o5, rkids7p_o6, rkids7p_o7, rkids7p_o8, rkids7p_o9, rkids7p_o10, rkids7p_o11, rkids7p_o12, rkids7p_o13, rkids7p_o14, rkids7p_o15, rkids7p_o16, rkids7p_o17, rkids7p_o18, rkids7p_o19]
theorem rkids7p (d bi nb no n c i : Nat) (S : World → Prop) (a : Act) (w : World) (Q : Exit → Act → World → Prop) (hsz : a.tmps.size = 114)
    (t0 : a.tmps.getD 0 undef = .pointer (some ⟨d, 0, none⟩))
    (t3 : a.tmps.getD 3 undef = .pointer (some ⟨bi, 0, none⟩))
    (t6 : a.tmps.getD 6 undef = .int .i64 (i : Int))
    (h0 : S w.drew)
    (G1 : ∀ W, S W → (Instr.loadAt 83 (.pointer (some ⟨d, 0 + 0, none⟩))).run Try.prog W = .ok (.slice (some ⟨nb, no, none⟩) n c) W)
    (G2 : ∀ W, (Instr.indexAt 83 (.slice (some ⟨nb, no, none⟩) n c) (.int .i64 (i : Int))).run Try.prog W = .ok (.pointer (some ⟨nb, no + i * 68, none⟩)) W)
    (G3 : ∀ W, S W → (Instr.loadAt 4 (.pointer (some ⟨nb, no + i * 68 + 67, none⟩))).run Try.prog W = .ok (.bool true) W)
    (h : ∀ (a' : Act) (w' : World), S w' → a' = ((((((((((((((((((((a).put (some 33) (.pointer (some ⟨d, 0, none⟩))).put (some 34) (.pointer (some ⟨d, 0, none⟩))).put (some 35) (.pointer (some ⟨d, 0 + 0, none⟩))).put (some 36) (.slice (some ⟨nb, no, none⟩) n c)).put (some 37) (.int .i64 (i : Int))).put (some 38) (.pointer (some ⟨nb, no + i * 68, none⟩))).put (some 39) (.pointer (some ⟨nb, no + i * 68 + 67, none⟩))).put (some 40) (.bool true)).put (some 41) (.bool true)).put (some 42) (undef)).put (some 43) (undef)).put (some 44) (undef)).put (some 45) (undef)).put (some 46) (undef)).put (some 47) (undef)).put (some 48) (undef)).put (some 49) (undef)).put (some 50) (undef)).put (some 51) (undef)).put (some 52) (.bool true) → Q .normal a' w') :
    (Code.region 7 rkids7p_ops true).wp Try.prog Q a w := by
  refine wp_region_noPanic ?_
  refine wp_region_held_drew (S := fun w' => S w') (by kernel_rfl) (h0) (fun hHeld => ?_)
  refine tk 0 rkids7p_o0 (.pointer (some ⟨d, 0, none⟩)) (by rfl) (fun w1 hw => exec_move rfl t0) hHeld (fun a1 e1 => ?_)
  rw [← e1] at h
  have z1 := pz e1 hsz
  replace t0 := pk e1 t0
  replace t3 := pk e1 t3
  replace t6 := pk e1 t6
  have t33 := pq e1 hsz
  clear e1 hsz
  refine tk 1 rkids7p_o1 (.pointer (some ⟨d, 0, none⟩)) (by rfl) (fun w1 hw => exec_nilCheck rfl t33) hHeld (fun a2 e2 => ?_)
  rw [← e2] at h
  have z2 := pz e2 z1
  replace t0 := pk e2 t0
  replace t3 := pk e2 t3
  replace t6 := pk e2 t6
  clear t33
  have t34 := pq e2 z1
  clear e2 z1
  refine tk 2 rkids7p_o2 (.pointer (some ⟨d, 0 + 0, none⟩)) (by rfl) (fun w1 hw => exec_fieldAt rfl t34 (fg_86_0 _ _ _)) hHeld (fun a3 e3 => ?_)
  rw [← e3] at h
  have z3 := pz e3 z2
  replace t0 := pk e3 t0
  replace t3 := pk e3 t3
  replace t6 := pk e3 t6
  clear t34
  have t35 := pq e3 z2
  clear e3 z2
  refine tk 3 rkids7p_o3 (.slice (some ⟨nb, no, none⟩) n c) (by rfl) (fun w1 hw => exec_load rfl t35 (G1 _ hw)) hHeld (fun a4 e4 => ?_)
  rw [← e4] at h
  have z4 := pz e4 z3
  replace t0 := pk e4 t0
  replace t3 := pk e4 t3
  replace t6 := pk e4 t6
  clear t35
  have t36 := pq e4 z3
  clear e4 z3
  refine tk 4 rkids7p_o4 (.int .i64 (i : Int)) (by rfl) (fun w1 hw => exec_move rfl t6) hHeld (fun a5 e5 => ?_)
  rw [← e5] at h
  have z5 := pz e5 z4
  replace t0 := pk e5 t0
  replace t3 := pk e5 t3
  replace t6 := pk e5 t6
  replace t36 := pk e5 t36
  have t37 := pq e5 z4
  clear e5 z4
  refine tk 5 rkids7p_o5 (.pointer (some ⟨nb, no + i * 68, none⟩)) (by rfl) (fun w1 hw => exec_indexAt rfl t36 t37 (G2 _)) hHeld (fun a6 e6 => ?_)
  rw [← e6] at h
  have z6 := pz e6 z5
  replace t0 := pk e6 t0
  replace t3 := pk e6 t3
  replace t6 := pk e6 t6
  clear t36
  clear t37
  have t38 := pq e6 z5
  clear e6 z5
  refine tk 6 rkids7p_o6 (.pointer (some ⟨nb, no + i * 68 + 67, none⟩)) (by rfl) (fun w1 hw => exec_fieldAt rfl t38 (fg_114_3 _ _ _)) hHeld (fun a7 e7 => ?_)
  rw [← e7] at h
  have z7 := pz e7 z6
  replace t0 := pk e7 t0
  replace t3 := pk e7 t3
  replace t6 := pk e7 t6
  clear t38
  have t39 := pq e7 z6
  clear e7 z6
  refine tk 7 rkids7p_o7 (.bool true) (by rfl) (fun w1 hw => exec_load rfl t39 (G3 _ hw)) hHeld (fun a8 e8 => ?_)
  rw [← e8] at h
  have z8 := pz e8 z7
  replace t0 := pk e8 t0
  replace t3 := pk e8 t3
  replace t6 := pk e8 t6
  clear t39
  have t40 := pq e8 z7
  clear e8 z7
  refine tk 8 rkids7p_o8 (.bool true) (by rfl) (fun w1 hw => exec_move rfl t40) hHeld (fun a9 e9 => ?_)
  rw [← e9] at h
  have z9 := pz e9 z8
  replace t0 := pk e9 t0
  replace t3 := pk e9 t3
  replace t6 := pk e9 t6
  clear t40
  have t41 := pq e9 z8
  clear e9 z8
  refine wpAnyH_take (i := 9) (oi := rkids7p_o9) (v := undef) rfl (by kernel_rfl) (by kernel_rfl) (by kernel_rfl) (fun _ _ _ h => h) (Or.inr ⟨by simp [Region.wanted, yielded, rkids7p_o9, rkids7p_o8, rkids7p_ops, tget z9 (by decide) t41], rfl⟩) hHeld ?_
  change wpAnyH _ _ _ _ _ _ _ (a9.put (some 42) (undef)) _
  obtain ⟨a10, e10⟩ : ∃ act, act = a9.put (some 42) (undef) := ⟨_, rfl⟩
  rw [← e10] at h ⊢
  have z10 := pz e10 z9
  clear t0
  replace t3 := pk e10 t3
  replace t6 := pk e10 t6
  replace t41 := pk e10 t41
  have t42 := pq e10 z9
  clear e10 z9
  refine wpAnyH_take (i := 10) (oi := rkids7p_o10) (v := undef) rfl (by kernel_rfl) (by kernel_rfl) (by kernel_rfl) (fun _ _ _ h => h) (Or.inr ⟨by simp [Region.wanted, yielded, rkids7p_o10, rkids7p_o8, rkids7p_ops, tget z10 (by decide) t41], rfl⟩) hHeld ?_
  change wpAnyH _ _ _ _ _ _ _ (a10.put (some 43) (undef)) _
  obtain ⟨a11, e11⟩ : ∃ act, act = a10.put (some 43) (undef) := ⟨_, rfl⟩
  rw [← e11] at h ⊢
  have z11 := pz e11 z10
  replace t3 := pk e11 t3
  replace t6 := pk e11 t6
  replace t41 := pk e11 t41
  clear t42
  have t43 := pq e11 z10
  clear e11 z10
  refine wpAnyH_take (i := 11) (oi := rkids7p_o11) (v := undef) rfl (by kernel_rfl) (by kernel_rfl) (by kernel_rfl) (fun _ _ _ h => h) (Or.inr ⟨by simp [Region.wanted, yielded, rkids7p_o11, rkids7p_o8, rkids7p_ops, tget z11 (by decide) t41], rfl⟩) hHeld ?_
  change wpAnyH _ _ _ _ _ _ _ (a11.put (some 44) (undef)) _
  obtain ⟨a12, e12⟩ : ∃ act, act = a11.put (some 44) (undef) := ⟨_, rfl⟩
  rw [← e12] at h ⊢
  have z12 := pz e12 z11
  replace t3 := pk e12 t3
  replace t6 := pk e12 t6
  replace t41 := pk e12 t41
  clear t43
  have t44 := pq e12 z11
  clear e12 z11
  refine wpAnyH_take (i := 12) (oi := rkids7p_o12) (v := undef) rfl (by kernel_rfl) (by kernel_rfl) (by kernel_rfl) (fun _ _ _ h => h) (Or.inr ⟨by simp [Region.wanted, yielded, rkids7p_o12, rkids7p_o8, rkids7p_ops, tget z12 (by decide) t41], rfl⟩) hHeld ?_
  change wpAnyH _ _ _ _ _ _ _ (a12.put (some 45) (undef)) _
  obtain ⟨a13, e13⟩ : ∃ act, act = a12.put (some 45) (undef) := ⟨_, rfl⟩
  rw [← e13] at h ⊢
  have z13 := pz e13 z12
  replace t3 := pk e13 t3
  replace t6 := pk e13 t6
  replace t41 := pk e13 t41
  clear t44
  have t45 := pq e13 z12
  clear e13 z12
  refine wpAnyH_take (i := 13) (oi := rkids7p_o13) (v := undef) rfl (by kernel_rfl) (by kernel_rfl) (by kernel_rfl) (fun _ _ _ h => h) (Or.inr ⟨by simp [Region.wanted, yielded, rkids7p_o13, rkids7p_o8, rkids7p_ops, tget z13 (by decide) t41], rfl⟩) hHeld ?_
  change wpAnyH _ _ _ _ _ _ _ (a13.put (some 46) (undef)) _
  obtain ⟨a14, e14⟩ : ∃ act, act = a13.put (some 46) (undef) := ⟨_, rfl⟩
  rw [← e14] at h ⊢
  have z14 := pz e14 z13
  replace t3 := pk e14 t3
  clear t6
  replace t41 := pk e14 t41
  replace t45 := pk e14 t45
  have t46 := pq e14 z13
  clear e14 z13
  refine wpAnyH_take (i := 14) (oi := rkids7p_o14) (v := undef) rfl (by kernel_rfl) (by kernel_rfl) (by kernel_rfl) (fun _ _ _ h => h) (Or.inr ⟨by simp [Region.wanted, yielded, rkids7p_o14, rkids7p_o8, rkids7p_ops, tget z14 (by decide) t41], rfl⟩) hHeld ?_
  change wpAnyH _ _ _ _ _ _ _ (a14.put (some 47) (undef)) _
  obtain ⟨a15, e15⟩ : ∃ act, act = a14.put (some 47) (undef) := ⟨_, rfl⟩
  rw [← e15] at h ⊢
  have z15 := pz e15 z14
  replace t3 := pk e15 t3
  replace t41 := pk e15 t41
  clear t45
  clear t46
  have t47 := pq e15 z14
  clear e15 z14
  refine wpAnyH_take (i := 15) (oi := rkids7p_o15) (v := undef) rfl (by kernel_rfl) (by kernel_rfl) (by kernel_rfl) (fun _ _ _ h => h) (Or.inr ⟨by simp [Region.wanted, yielded, rkids7p_o15, rkids7p_o8, rkids7p_ops, tget z15 (by decide) t41], rfl⟩) hHeld ?_
  change wpAnyH _ _ _ _ _ _ _ (a15.put (some 48) (undef)) _
  obtain ⟨a16, e16⟩ : ∃ act, act = a15.put (some 48) (undef) := ⟨_, rfl⟩
  rw [← e16] at h ⊢
  have z16 := pz e16 z15
  replace t3 := pk e16 t3
  replace t41 := pk e16 t41
  clear t47
  have t48 := pq e16 z15
  clear e16 z15
  refine wpAnyH_take (i := 16) (oi := rkids7p_o16) (v := undef) rfl (by kernel_rfl) (by kernel_rfl) (by kernel_rfl) (fun _ _ _ h => h) (Or.inr ⟨by simp [Region.wanted, yielded, rkids7p_o16, rkids7p_o8, rkids7p_ops, tget z16 (by decide) t41], rfl⟩) hHeld ?_
  change wpAnyH _ _ _ _ _ _ _ (a16.put (some 49) (undef)) _
  obtain ⟨a17, e17⟩ : ∃ act, act = a16.put (some 49) (undef) := ⟨_, rfl⟩
  rw [← e17] at h ⊢
  have z17 := pz e17 z16
  replace t3 := pk e17 t3
  replace t41 := pk e17 t41
  clear t48
  have t49 := pq e17 z16
  clear e17 z16
  refine wpAnyH_take (i := 17) (oi := rkids7p_o17) (v := undef) rfl (by kernel_rfl) (by kernel_rfl) (by kernel_rfl) (fun _ _ _ h => h) (Or.inr ⟨by simp [Region.wanted, yielded, rkids7p_o17, rkids7p_o8, rkids7p_ops, tget z17 (by decide) t41], rfl⟩) hHeld ?_
  change wpAnyH _ _ _ _ _ _ _ (a17.put (some 50) (undef)) _
  obtain ⟨a18, e18⟩ : ∃ act, act = a17.put (some 50) (undef) := ⟨_, rfl⟩
  rw [← e18] at h ⊢
  have z18 := pz e18 z17
  clear t3
  replace t41 := pk e18 t41
  replace t49 := pk e18 t49
  have t50 := pq e18 z17
  clear e18 z17
  refine wpAnyH_take (i := 18) (oi := rkids7p_o18) (v := undef) rfl (by kernel_rfl) (by kernel_rfl) (by kernel_rfl) (fun _ _ _ h => h) (Or.inr ⟨by simp [Region.wanted, yielded, rkids7p_o18, rkids7p_o8, rkids7p_ops, tget z18 (by decide) t41], rfl⟩) hHeld ?_
  change wpAnyH _ _ _ _ _ _ _ (a18.put (some 51) (undef)) _
  obtain ⟨a19, e19⟩ : ∃ act, act = a18.put (some 51) (undef) := ⟨_, rfl⟩
  rw [← e19] at h ⊢
  have z19 := pz e19 z18
  replace t41 := pk e19 t41
  clear t49
  clear t50
  have t51 := pq e19 z18
  clear e19 z18
  refine tk 19 rkids7p_o19 (.bool true) (by rfl) (fun w1 hw => by unfold rkids7p_o19; go_simp) hHeld (fun a20 e20 => ?_)
  rw [← e20] at h
  have z20 := pz e20 z19
  clear t41
  clear t51
  clear e20 z19
  exact wpAnyH_done (by kernel_rfl) (NoPanic.normal (h _ _ (hHeld) rfl)) _
def rkids7u_o0 : Oper := ⟨some 33, .move (.tmp 0), 27, "ref.go:187", #[], none⟩
def rkids7u_o1 : Oper := ⟨some 34, .nilCheck (.tmp 33), 0, "ref.go:187", #[⟨0, .data⟩], none⟩
def rkids7u_o2 : Oper := ⟨some 35, .fieldAddr 86 (.tmp 34) 0, 0, "ref.go:187", #[⟨1, .data⟩], none⟩
def rkids7u_o3 : Oper := ⟨some 36, .load 83 (.tmp 35), 83, "ref.go:187", #[⟨2, .data⟩], none⟩
def rkids7u_o4 : Oper := ⟨some 37, .move (.tmp 6), 3, "ref.go:187", #[], none⟩
def rkids7u_o5 : Oper := ⟨some 38, .indexAddr 83 (.tmp 36) (.tmp 37), 0, "ref.go:187", #[⟨3, .data⟩, ⟨4, .data⟩], none⟩
def rkids7u_o6 : Oper := ⟨some 39, .fieldAddr 114 (.tmp 38) 3, 0, "ref.go:187", #[⟨5, .data⟩], none⟩
def rkids7u_o7 : Oper := ⟨some 40, .load 4 (.tmp 39), 4, "ref.go:187", #[⟨6, .data⟩], none⟩
def rkids7u_o8 : Oper := ⟨some 41, .move (.tmp 40), 4, "ref.go:187", #[⟨7, .data⟩], none⟩
def rkids7u_o9 : Oper := ⟨some 42, .move (.tmp 0), 27, "ref.go:187", #[⟨8, .guard⟩], some (8, false)⟩
def rkids7u_o10 : Oper := ⟨some 43, .nilCheck (.tmp 42), 0, "ref.go:187", #[⟨9, .data⟩, ⟨8, .guard⟩], some (8, false)⟩
def rkids7u_o11 : Oper := ⟨some 44, .fieldAddr 86 (.tmp 43) 0, 0, "ref.go:187", #[⟨10, .data⟩, ⟨8, .guard⟩], some (8, false)⟩
def rkids7u_o12 : Oper := ⟨some 45, .load 83 (.tmp 44), 83, "ref.go:187", #[⟨11, .data⟩, ⟨8, .guard⟩], some (8, false)⟩
def rkids7u_o13 : Oper := ⟨some 46, .move (.tmp 6), 3, "ref.go:187", #[⟨8, .guard⟩], some (8, false)⟩
def rkids7u_o14 : Oper := ⟨some 47, .indexAddr 83 (.tmp 45) (.tmp 46), 0, "ref.go:187", #[⟨12, .data⟩, ⟨13, .data⟩, ⟨8, .guard⟩], some (8, false)⟩
def rkids7u_o15 : Oper := ⟨some 48, .fieldAddr 114 (.tmp 47) 1, 0, "ref.go:187", #[⟨14, .data⟩, ⟨8, .guard⟩], some (8, false)⟩
def rkids7u_o16 : Oper := ⟨some 49, .load 37 (.tmp 48), 37, "ref.go:187", #[⟨15, .data⟩, ⟨8, .guard⟩], some (8, false)⟩
def rkids7u_o17 : Oper := ⟨some 50, .load 37 (.tmp 3), 37, "ref.go:187", #[⟨8, .guard⟩], some (8, false)⟩
def rkids7u_o18 : Oper := ⟨some 51, .binOp BinOp.neq 37 (.tmp 49) (.tmp 50) 37, 4, "ref.go:187", #[⟨16, .data⟩, ⟨17, .data⟩, ⟨8, .guard⟩], some (8, false)⟩
def rkids7u_o19 : Oper := ⟨some 52, .pick (.tmp 41) (Operand.const (Value.bool true)) (.tmp 51), 4, "ref.go:187", #[⟨8, .data⟩, ⟨18, .data⟩], none⟩
def rkids7u_ops : Array Oper := #[rkids7u_o0, rkids7u_o1, rkids7u_o2, rkids7u_o3, rkids7u_o4, rkids7u_o5, rkids7u_o6, rkids7u_o7, rkids7u_o8, rkids7u_o9, rkids7u_o10, rkids7u_o11, rkids7u_o12, rkids7u_o13, rkids7u_o14, rkids7u_o15, rkids7u_o16, rkids7u_o17, rkids7u_o18, rkids7u_o19]
theorem rkids7u (d bi nb no n c i : Nat) (S : World → Prop) (uv kv : Value) (q : Bool) (a : Act) (w : World) (Q : Exit → Act → World → Prop) (hsz : a.tmps.size = 114)
    (t0 : a.tmps.getD 0 undef = .pointer (some ⟨d, 0, none⟩))
    (t3 : a.tmps.getD 3 undef = .pointer (some ⟨bi, 0, none⟩))
    (t6 : a.tmps.getD 6 undef = .int .i64 (i : Int))
    (h0 : S w.drew)
    (G1 : ∀ W, S W → (Instr.loadAt 83 (.pointer (some ⟨d, 0 + 0, none⟩))).run Try.prog W = .ok (.slice (some ⟨nb, no, none⟩) n c) W)
    (G2 : ∀ W, (Instr.indexAt 83 (.slice (some ⟨nb, no, none⟩) n c) (.int .i64 (i : Int))).run Try.prog W = .ok (.pointer (some ⟨nb, no + i * 68, none⟩)) W)
    (G3 : ∀ W, S W → (Instr.loadAt 4 (.pointer (some ⟨nb, no + i * 68 + 67, none⟩))).run Try.prog W = .ok (.bool false) W)
    (G4 : ∀ W, S W → (Instr.loadAt 37 (.pointer (some ⟨nb, no + i * 68 + 33, none⟩))).run Try.prog W = .ok (uv) W)
    (G5 : ∀ W, S W → (Instr.loadAt 37 (.pointer (some ⟨bi, 0, none⟩))).run Try.prog W = .ok (kv) W)
    (G6 : ∀ W, (eqGuard BinOp.neq 37 (Operand.tmp 49) (Operand.tmp 50) (uv) (kv)).run Try.prog W = .ok () W)
    (G7 : ∀ W, S W → (binOp BinOp.neq 37 (uv) (kv)).run Try.prog W = .ok (.bool q) W)
    (h : ∀ (a' : Act) (w' : World), S w' → a' = ((((((((((((((((((((a).put (some 33) (.pointer (some ⟨d, 0, none⟩))).put (some 34) (.pointer (some ⟨d, 0, none⟩))).put (some 35) (.pointer (some ⟨d, 0 + 0, none⟩))).put (some 36) (.slice (some ⟨nb, no, none⟩) n c)).put (some 37) (.int .i64 (i : Int))).put (some 38) (.pointer (some ⟨nb, no + i * 68, none⟩))).put (some 39) (.pointer (some ⟨nb, no + i * 68 + 67, none⟩))).put (some 40) (.bool false)).put (some 41) (.bool false)).put (some 42) (.pointer (some ⟨d, 0, none⟩))).put (some 43) (.pointer (some ⟨d, 0, none⟩))).put (some 44) (.pointer (some ⟨d, 0 + 0, none⟩))).put (some 45) (.slice (some ⟨nb, no, none⟩) n c)).put (some 46) (.int .i64 (i : Int))).put (some 47) (.pointer (some ⟨nb, no + i * 68, none⟩))).put (some 48) (.pointer (some ⟨nb, no + i * 68 + 33, none⟩))).put (some 49) (uv)).put (some 50) (kv)).put (some 51) (.bool q)).put (some 52) (.bool q) → Q .normal a' w') :
    (Code.region 7 rkids7u_ops true).wp Try.prog Q a w := by
  refine wp_region_noPanic ?_
  refine wp_region_held_drew (S := fun w' => S w') (by kernel_rfl) (h0) (fun hHeld => ?_)
  refine tk 0 rkids7u_o0 (.pointer (some ⟨d, 0, none⟩)) (by rfl) (fun w1 hw => exec_move rfl t0) hHeld (fun a1 e1 => ?_)
  rw [← e1] at h
  have z1 := pz e1 hsz
  replace t0 := pk e1 t0
  replace t3 := pk e1 t3
  replace t6 := pk e1 t6
  have t33 := pq e1 hsz
  clear e1 hsz
  refine tk 1 rkids7u_o1 (.pointer (some ⟨d, 0, none⟩)) (by rfl) (fun w1 hw => exec_nilCheck rfl t33) hHeld (fun a2 e2 => ?_)
  rw [← e2] at h
  have z2 := pz e2 z1
  replace t0 := pk e2 t0
  replace t3 := pk e2 t3
  replace t6 := pk e2 t6
  clear t33
  have t34 := pq e2 z1
  clear e2 z1
  refine tk 2 rkids7u_o2 (.pointer (some ⟨d, 0 + 0, none⟩)) (by rfl) (fun w1 hw => exec_fieldAt rfl t34 (fg_86_0 _ _ _)) hHeld (fun a3 e3 => ?_)
  rw [← e3] at h
  have z3 := pz e3 z2
  replace t0 := pk e3 t0
  replace t3 := pk e3 t3
  replace t6 := pk e3 t6
  clear t34
  have t35 := pq e3 z2
  clear e3 z2
  refine tk 3 rkids7u_o3 (.slice (some ⟨nb, no, none⟩) n c) (by rfl) (fun w1 hw => exec_load rfl t35 (G1 _ hw)) hHeld (fun a4 e4 => ?_)
  rw [← e4] at h
  have z4 := pz e4 z3
  replace t0 := pk e4 t0
  replace t3 := pk e4 t3
  replace t6 := pk e4 t6
  clear t35
  have t36 := pq e4 z3
  clear e4 z3
  refine tk 4 rkids7u_o4 (.int .i64 (i : Int)) (by rfl) (fun w1 hw => exec_move rfl t6) hHeld (fun a5 e5 => ?_)
  rw [← e5] at h
  have z5 := pz e5 z4
  replace t0 := pk e5 t0
  replace t3 := pk e5 t3
  replace t6 := pk e5 t6
  replace t36 := pk e5 t36
  have t37 := pq e5 z4
  clear e5 z4
  refine tk 5 rkids7u_o5 (.pointer (some ⟨nb, no + i * 68, none⟩)) (by rfl) (fun w1 hw => exec_indexAt rfl t36 t37 (G2 _)) hHeld (fun a6 e6 => ?_)
  rw [← e6] at h
  have z6 := pz e6 z5
  replace t0 := pk e6 t0
  replace t3 := pk e6 t3
  replace t6 := pk e6 t6
  clear t36
  clear t37
  have t38 := pq e6 z5
  clear e6 z5
  refine tk 6 rkids7u_o6 (.pointer (some ⟨nb, no + i * 68 + 67, none⟩)) (by rfl) (fun w1 hw => exec_fieldAt rfl t38 (fg_114_3 _ _ _)) hHeld (fun a7 e7 => ?_)
  rw [← e7] at h
  have z7 := pz e7 z6
  replace t0 := pk e7 t0
  replace t3 := pk e7 t3
  replace t6 := pk e7 t6
  clear t38
  have t39 := pq e7 z6
  clear e7 z6
  refine tk 7 rkids7u_o7 (.bool false) (by rfl) (fun w1 hw => exec_load rfl t39 (G3 _ hw)) hHeld (fun a8 e8 => ?_)
  rw [← e8] at h
  have z8 := pz e8 z7
  replace t0 := pk e8 t0
  replace t3 := pk e8 t3
  replace t6 := pk e8 t6
  clear t39
  have t40 := pq e8 z7
  clear e8 z7
  refine tk 8 rkids7u_o8 (.bool false) (by rfl) (fun w1 hw => exec_move rfl t40) hHeld (fun a9 e9 => ?_)
  rw [← e9] at h
  have z9 := pz e9 z8
  replace t0 := pk e9 t0
  replace t3 := pk e9 t3
  replace t6 := pk e9 t6
  clear t40
  have t41 := pq e9 z8
  clear e9 z8
  refine tk 9 rkids7u_o9 (.pointer (some ⟨d, 0, none⟩)) (by simp [Region.wanted, yielded, rkids7u_o9, rkids7u_o8, rkids7u_ops, tget z9 (by decide) t41]) (fun w1 hw => exec_move rfl t0) hHeld (fun a10 e10 => ?_)
  rw [← e10] at h
  have z10 := pz e10 z9
  clear t0
  replace t3 := pk e10 t3
  replace t6 := pk e10 t6
  replace t41 := pk e10 t41
  have t42 := pq e10 z9
  clear e10 z9
  refine tk 10 rkids7u_o10 (.pointer (some ⟨d, 0, none⟩)) (by simp [Region.wanted, yielded, rkids7u_o10, rkids7u_o8, rkids7u_ops, tget z10 (by decide) t41]) (fun w1 hw => exec_nilCheck rfl t42) hHeld (fun a11 e11 => ?_)
  rw [← e11] at h
  have z11 := pz e11 z10
  replace t3 := pk e11 t3
  replace t6 := pk e11 t6
  replace t41 := pk e11 t41
  clear t42
  have t43 := pq e11 z10
  clear e11 z10
  refine tk 11 rkids7u_o11 (.pointer (some ⟨d, 0 + 0, none⟩)) (by simp [Region.wanted, yielded, rkids7u_o11, rkids7u_o8, rkids7u_ops, tget z11 (by decide) t41]) (fun w1 hw => exec_fieldAt rfl t43 (fg_86_0 _ _ _)) hHeld (fun a12 e12 => ?_)
  rw [← e12] at h
  have z12 := pz e12 z11
  replace t3 := pk e12 t3
  replace t6 := pk e12 t6
  replace t41 := pk e12 t41
  clear t43
  have t44 := pq e12 z11
  clear e12 z11
  refine tk 12 rkids7u_o12 (.slice (some ⟨nb, no, none⟩) n c) (by simp [Region.wanted, yielded, rkids7u_o12, rkids7u_o8, rkids7u_ops, tget z12 (by decide) t41]) (fun w1 hw => exec_load rfl t44 (G1 _ hw)) hHeld (fun a13 e13 => ?_)
  rw [← e13] at h
  have z13 := pz e13 z12
  replace t3 := pk e13 t3
  replace t6 := pk e13 t6
  replace t41 := pk e13 t41
  clear t44
  have t45 := pq e13 z12
  clear e13 z12
  refine tk 13 rkids7u_o13 (.int .i64 (i : Int)) (by simp [Region.wanted, yielded, rkids7u_o13, rkids7u_o8, rkids7u_ops, tget z13 (by decide) t41]) (fun w1 hw => exec_move rfl t6) hHeld (fun a14 e14 => ?_)
  rw [← e14] at h
  have z14 := pz e14 z13
  replace t3 := pk e14 t3
  clear t6
  replace t41 := pk e14 t41
  replace t45 := pk e14 t45
  have t46 := pq e14 z13
  clear e14 z13
  refine tk 14 rkids7u_o14 (.pointer (some ⟨nb, no + i * 68, none⟩)) (by simp [Region.wanted, yielded, rkids7u_o14, rkids7u_o8, rkids7u_ops, tget z14 (by decide) t41]) (fun w1 hw => exec_indexAt rfl t45 t46 (G2 _)) hHeld (fun a15 e15 => ?_)
  rw [← e15] at h
  have z15 := pz e15 z14
  replace t3 := pk e15 t3
  replace t41 := pk e15 t41
  clear t45
  clear t46
  have t47 := pq e15 z14
  clear e15 z14
  refine tk 15 rkids7u_o15 (.pointer (some ⟨nb, no + i * 68 + 33, none⟩)) (by simp [Region.wanted, yielded, rkids7u_o15, rkids7u_o8, rkids7u_ops, tget z15 (by decide) t41]) (fun w1 hw => exec_fieldAt rfl t47 (fg_114_1 _ _ _)) hHeld (fun a16 e16 => ?_)
  rw [← e16] at h
  have z16 := pz e16 z15
  replace t3 := pk e16 t3
  replace t41 := pk e16 t41
  clear t47
  have t48 := pq e16 z15
  clear e16 z15
  refine tk 16 rkids7u_o16 (uv) (by simp [Region.wanted, yielded, rkids7u_o16, rkids7u_o8, rkids7u_ops, tget z16 (by decide) t41]) (fun w1 hw => exec_load rfl t48 (G4 _ hw)) hHeld (fun a17 e17 => ?_)
  rw [← e17] at h
  have z17 := pz e17 z16
  replace t3 := pk e17 t3
  replace t41 := pk e17 t41
  clear t48
  have t49 := pq e17 z16
  clear e17 z16
  refine tk 17 rkids7u_o17 (kv) (by simp [Region.wanted, yielded, rkids7u_o17, rkids7u_o8, rkids7u_ops, tget z17 (by decide) t41]) (fun w1 hw => exec_load rfl t3 (G5 _ hw)) hHeld (fun a18 e18 => ?_)
  rw [← e18] at h
  have z18 := pz e18 z17
  clear t3
  replace t41 := pk e18 t41
  replace t49 := pk e18 t49
  have t50 := pq e18 z17
  clear e18 z17
  refine tk 18 rkids7u_o18 (.bool q) (by simp [Region.wanted, yielded, rkids7u_o18, rkids7u_o8, rkids7u_ops, tget z18 (by decide) t41]) (fun w1 hw => exec_binOp rfl t49 t50 (G6 _) (G7 _ hw)) hHeld (fun a19 e19 => ?_)
  rw [← e19] at h
  have z19 := pz e19 z18
  replace t41 := pk e19 t41
  clear t49
  clear t50
  have t51 := pq e19 z18
  clear e19 z18
  refine tk 19 rkids7u_o19 (.bool q) (by rfl) (fun w1 hw => by unfold rkids7u_o19; go_simp) hHeld (fun a20 e20 => ?_)
  rw [← e20] at h
  have z20 := pz e20 z19
  clear t41
  clear t51
  clear e20 z19
  exact wpAnyH_done (by kernel_rfl) (NoPanic.normal (h _ _ (hHeld) rfl)) _
def rkids10_o0 : Oper := ⟨some 66, .move (.tmp 7), 3, "ref.go:191", #[], none⟩
def rkids10_o1 : Oper := ⟨some 67, .binOp BinOp.gtr 3 (.tmp 66) (Operand.const (Value.int IntKind.i64 0)) 3, 4, "ref.go:191", #[⟨0, .data⟩], none⟩
def rkids10_o2 : Oper := ⟨some 68, .move (.tmp 67), 4, "ref.go:191", #[⟨1, .data⟩], none⟩
def rkids10_o3 : Oper := ⟨some 69, .move (.tmp 5), 83, "ref.go:191", #[⟨2, .guard⟩], some (2, true)⟩
def rkids10_o4 : Oper := ⟨some 70, .move (.tmp 7), 3, "ref.go:191", #[⟨2, .guard⟩], some (2, true)⟩
def rkids10_o5 : Oper := ⟨some 71, .indexAddr 83 (.tmp 69) (.tmp 70), 0, "ref.go:191", #[⟨3, .data⟩, ⟨4, .data⟩, ⟨2, .guard⟩], some (2, true)⟩
def rkids10_o6 : Oper := ⟨some 72, .load 114 (.tmp 71), 114, "ref.go:191", #[⟨5, .data⟩, ⟨2, .guard⟩], some (2, true)⟩
def rkids10_o7 : Oper := ⟨some 73, .move (.tmp 5), 83, "ref.go:191", #[⟨2, .guard⟩], some (2, true)⟩
def rkids10_o8 : Oper := ⟨some 74, .move (.tmp 7), 3, "ref.go:191", #[⟨2, .guard⟩], some (2, true)⟩
def rkids10_o9 : Oper := ⟨some 75, .binOp BinOp.sub 3 (.tmp 74) (Operand.const (Value.int IntKind.i64 1)) 3, 3, "ref.go:191", #[⟨8, .data⟩, ⟨2, .guard⟩], some (2, true)⟩
def rkids10_o10 : Oper := ⟨some 76, .indexAddr 83 (.tmp 73) (.tmp 75), 0, "ref.go:191", #[⟨7, .data⟩, ⟨9, .data⟩, ⟨2, .guard⟩], some (2, true)⟩
def rkids10_o11 : Oper := ⟨some 77, .load 114 (.tmp 76), 114, "ref.go:191", #[⟨10, .data⟩, ⟨2, .guard⟩], some (2, true)⟩
def rkids10_o12 : Oper := ⟨some 78, .call { callee := Callee.value (Operand.func 78), args := #[.tmp 72, .tmp 77], argTypes := #[114, 114] }, 4, "ref.go:191", #[⟨6, .data⟩, ⟨11, .data⟩, ⟨2, .chain⟩, ⟨2, .guard⟩], some (2, true)⟩
def rkids10_o13 : Oper := ⟨some 79, .pick (.tmp 68) (.tmp 78) (Operand.const (Value.bool false)), 4, "ref.go:191", #[⟨2, .data⟩, ⟨12, .data⟩], none⟩
def rkids10_ops : Array Oper := #[rkids10_o0, rkids10_o1, rkids10_o2, rkids10_o3, rkids10_o4, rkids10_o5, rkids10_o6, rkids10_o7, rkids10_o8, rkids10_o9, rkids10_o10, rkids10_o11, rkids10_o12, rkids10_o13]
theorem rkids10 (lb ln lc k m : Nat) (xv yv : Value) (q : Bool) (S : World → Prop) (a : Act) (w : World) (Q : Exit → Act → World → Prop) (hsz : a.tmps.size = 114)
    (t5 : a.tmps.getD 5 undef = .slice (some ⟨lb, 0, none⟩) ln lc)
    (t7 : a.tmps.getD 7 undef = .int .i64 (k : Int))
    (h0 : S w.drew) (HSK : ∀ W W', S W → Below W.heap.size W W' → S W') (CA : ∀ W, S W → Calls Try.prog 78 #[xv, yv] W fun e w' => e = .returned (.bool q) ∧ Below W.heap.size W w')
    (G1 : ∀ W, (eqGuard BinOp.gtr 3 (Operand.tmp 66) (Operand.const (Value.int IntKind.i64 0)) (.int .i64 (k : Int)) (.int .i64 0)).run Try.prog W = .ok () W)
    (G2 : ∀ W, S W → (binOp BinOp.gtr 3 (.int .i64 (k : Int)) (.int .i64 0)).run Try.prog W = .ok (.bool true) W)
    (G3 : ∀ W, (Instr.indexAt 83 (.slice (some ⟨lb, 0, none⟩) ln lc) (.int .i64 (k : Int))).run Try.prog W = .ok (.pointer (some ⟨lb, k * 68, none⟩)) W)
    (G4 : ∀ W, S W → (Instr.loadAt 114 (.pointer (some ⟨lb, k * 68, none⟩))).run Try.prog W = .ok (xv) W)
    (G5 : ∀ W, (eqGuard BinOp.sub 3 (Operand.tmp 74) (Operand.const (Value.int IntKind.i64 1)) (.int .i64 (k : Int)) (.int .i64 1)).run Try.prog W = .ok () W)
    (G6 : ∀ W, S W → (binOp BinOp.sub 3 (.int .i64 (k : Int)) (.int .i64 1)).run Try.prog W = .ok (.int .i64 (m : Int)) W)
    (G7 : ∀ W, (Instr.indexAt 83 (.slice (some ⟨lb, 0, none⟩) ln lc) (.int .i64 (m : Int))).run Try.prog W = .ok (.pointer (some ⟨lb, m * 68, none⟩)) W)
    (G8 : ∀ W, S W → (Instr.loadAt 114 (.pointer (some ⟨lb, m * 68, none⟩))).run Try.prog W = .ok (yv) W)
    (h : ∀ (a' : Act) (w' : World), S w' → a' = ((((((((((((((a).put (some 66) (.int .i64 (k : Int))).put (some 67) (.bool true)).put (some 68) (.bool true)).put (some 69) (.slice (some ⟨lb, 0, none⟩) ln lc)).put (some 70) (.int .i64 (k : Int))).put (some 71) (.pointer (some ⟨lb, k * 68, none⟩))).put (some 72) (xv)).put (some 73) (.slice (some ⟨lb, 0, none⟩) ln lc)).put (some 74) (.int .i64 (k : Int))).put (some 75) (.int .i64 (m : Int))).put (some 76) (.pointer (some ⟨lb, m * 68, none⟩))).put (some 77) (yv)).put (some 78) (.bool q)).put (some 79) (.bool q) → Q .normal a' w') :
    (Code.region 10 rkids10_ops true).wp Try.prog Q a w := by
  refine wp_region_noPanic ?_
  refine wp_region_held_drew (S := fun w' => S w') (by kernel_rfl) (h0) (fun hHeld => ?_)
  refine tk 0 rkids10_o0 (.int .i64 (k : Int)) (by rfl) (fun w1 hw => exec_move rfl t7) hHeld (fun a1 e1 => ?_)
  rw [← e1] at h
  have z1 := pz e1 hsz
  replace t5 := pk e1 t5
  replace t7 := pk e1 t7
  have t66 := pq e1 hsz
  clear e1 hsz
  refine tk 1 rkids10_o1 (.bool true) (by rfl) (fun w1 hw => exec_binOp rfl t66 rfl (G1 _) (G2 _ hw)) hHeld (fun a2 e2 => ?_)
  rw [← e2] at h
  have z2 := pz e2 z1
  replace t5 := pk e2 t5
  replace t7 := pk e2 t7
  clear t66
  have t67 := pq e2 z1
  clear e2 z1
  refine tk 2 rkids10_o2 (.bool true) (by rfl) (fun w1 hw => exec_move rfl t67) hHeld (fun a3 e3 => ?_)
  rw [← e3] at h
  have z3 := pz e3 z2
  replace t5 := pk e3 t5
  replace t7 := pk e3 t7
  clear t67
  have t68 := pq e3 z2
  clear e3 z2
  refine tk 3 rkids10_o3 (.slice (some ⟨lb, 0, none⟩) ln lc) (by simp [Region.wanted, yielded, rkids10_o3, rkids10_o2, rkids10_ops, tget z3 (by decide) t68]) (fun w1 hw => exec_move rfl t5) hHeld (fun a4 e4 => ?_)
  rw [← e4] at h
  have z4 := pz e4 z3
  replace t5 := pk e4 t5
  replace t7 := pk e4 t7
  replace t68 := pk e4 t68
  have t69 := pq e4 z3
  clear e4 z3
  refine tk 4 rkids10_o4 (.int .i64 (k : Int)) (by simp [Region.wanted, yielded, rkids10_o4, rkids10_o2, rkids10_ops, tget z4 (by decide) t68]) (fun w1 hw => exec_move rfl t7) hHeld (fun a5 e5 => ?_)
  rw [← e5] at h
  have z5 := pz e5 z4
  replace t5 := pk e5 t5
  replace t7 := pk e5 t7
  replace t68 := pk e5 t68
  replace t69 := pk e5 t69
  have t70 := pq e5 z4
  clear e5 z4
  refine tk 5 rkids10_o5 (.pointer (some ⟨lb, k * 68, none⟩)) (by simp [Region.wanted, yielded, rkids10_o5, rkids10_o2, rkids10_ops, tget z5 (by decide) t68]) (fun w1 hw => exec_indexAt rfl t69 t70 (G3 _)) hHeld (fun a6 e6 => ?_)
  rw [← e6] at h
  have z6 := pz e6 z5
  replace t5 := pk e6 t5
  replace t7 := pk e6 t7
  replace t68 := pk e6 t68
  clear t69
  clear t70
  have t71 := pq e6 z5
  clear e6 z5
  refine tk 6 rkids10_o6 (xv) (by simp [Region.wanted, yielded, rkids10_o6, rkids10_o2, rkids10_ops, tget z6 (by decide) t68]) (fun w1 hw => exec_load rfl t71 (G4 _ hw)) hHeld (fun a7 e7 => ?_)
  rw [← e7] at h
  have z7 := pz e7 z6
  replace t5 := pk e7 t5
  replace t7 := pk e7 t7
  replace t68 := pk e7 t68
  clear t71
  have t72 := pq e7 z6
  clear e7 z6
  refine tk 7 rkids10_o7 (.slice (some ⟨lb, 0, none⟩) ln lc) (by simp [Region.wanted, yielded, rkids10_o7, rkids10_o2, rkids10_ops, tget z7 (by decide) t68]) (fun w1 hw => exec_move rfl t5) hHeld (fun a8 e8 => ?_)
  rw [← e8] at h
  have z8 := pz e8 z7
  clear t5
  replace t7 := pk e8 t7
  replace t68 := pk e8 t68
  replace t72 := pk e8 t72
  have t73 := pq e8 z7
  clear e8 z7
  refine tk 8 rkids10_o8 (.int .i64 (k : Int)) (by simp [Region.wanted, yielded, rkids10_o8, rkids10_o2, rkids10_ops, tget z8 (by decide) t68]) (fun w1 hw => exec_move rfl t7) hHeld (fun a9 e9 => ?_)
  rw [← e9] at h
  have z9 := pz e9 z8
  clear t7
  replace t68 := pk e9 t68
  replace t72 := pk e9 t72
  replace t73 := pk e9 t73
  have t74 := pq e9 z8
  clear e9 z8
  refine tk 9 rkids10_o9 (.int .i64 (m : Int)) (by simp [Region.wanted, yielded, rkids10_o9, rkids10_o2, rkids10_ops, tget z9 (by decide) t68]) (fun w1 hw => exec_binOp rfl t74 rfl (G5 _) (G6 _ hw)) hHeld (fun a10 e10 => ?_)
  rw [← e10] at h
  have z10 := pz e10 z9
  replace t68 := pk e10 t68
  replace t72 := pk e10 t72
  replace t73 := pk e10 t73
  clear t74
  have t75 := pq e10 z9
  clear e10 z9
  refine tk 10 rkids10_o10 (.pointer (some ⟨lb, m * 68, none⟩)) (by simp [Region.wanted, yielded, rkids10_o10, rkids10_o2, rkids10_ops, tget z10 (by decide) t68]) (fun w1 hw => exec_indexAt rfl t73 t75 (G7 _)) hHeld (fun a11 e11 => ?_)
  rw [← e11] at h
  have z11 := pz e11 z10
  replace t68 := pk e11 t68
  replace t72 := pk e11 t72
  clear t73
  clear t75
  have t76 := pq e11 z10
  clear e11 z10
  refine tk 11 rkids10_o11 (yv) (by simp [Region.wanted, yielded, rkids10_o11, rkids10_o2, rkids10_ops, tget z11 (by decide) t68]) (fun w1 hw => exec_load rfl t76 (G8 _ hw)) hHeld (fun a12 e12 => ?_)
  rw [← e12] at h
  have z12 := pz e12 z11
  replace t68 := pk e12 t68
  replace t72 := pk e12 t72
  clear t76
  have t77 := pq e12 z11
  clear e12 z11
  refine wpAnyH_ready (rs := [12]) (by kernel_rfl) (by simp) ?_
  refine AllReadyH.cons (o := rkids10_o12) rfl (fun K hK => ?_) AllReadyH.nil
  rw [if_pos (by simp [Region.wanted, yielded, rkids10_o12, rkids10_o2, rkids10_ops, tget z12 (by decide) t68])]
  unfold rkids10_o12 at hK ⊢
  go_simp
  refine (CA _ hHeld).mono ?_
  rintro e x13 ⟨rfl, l1⟩
  try go_wp2_with fail
  skip
  refine hK.out _ _ (HSK _ _ hHeld l1) (fun hHeld => ?_)
  clear hK K
  change wpAnyH _ _ _ _ _ _ _ (a12.put (some 78) (.bool q)) _
  obtain ⟨a13, e13⟩ : ∃ act, act = a12.put (some 78) (.bool q) := ⟨_, rfl⟩
  rw [← e13] at h ⊢
  have z13 := pz e13 z12
  replace t68 := pk e13 t68
  clear t72
  clear t77
  have t78 := pq e13 z12
  clear e13 z12
  refine tk 13 rkids10_o13 (.bool q) (by rfl) (fun w1 hw => by unfold rkids10_o13; go_simp) hHeld (fun a14 e14 => ?_)
  rw [← e14] at h
  have z14 := pz e14 z13
  clear t68
  clear t78
  clear e14 z13
  exact wpAnyH_done (by kernel_rfl) (NoPanic.normal (h _ _ (hHeld) rfl)) _
def rkids10z_o0 : Oper := ⟨some 66, .move (.tmp 7), 3, "ref.go:191", #[], none⟩
def rkids10z_o1 : Oper := ⟨some 67, .binOp BinOp.gtr 3 (.tmp 66) (Operand.const (Value.int IntKind.i64 0)) 3, 4, "ref.go:191", #[⟨0, .data⟩], none⟩
def rkids10z_o2 : Oper := ⟨some 68, .move (.tmp 67), 4, "ref.go:191", #[⟨1, .data⟩], none⟩
def rkids10z_o3 : Oper := ⟨some 69, .move (.tmp 5), 83, "ref.go:191", #[⟨2, .guard⟩], some (2, true)⟩
def rkids10z_o4 : Oper := ⟨some 70, .move (.tmp 7), 3, "ref.go:191", #[⟨2, .guard⟩], some (2, true)⟩
def rkids10z_o5 : Oper := ⟨some 71, .indexAddr 83 (.tmp 69) (.tmp 70), 0, "ref.go:191", #[⟨3, .data⟩, ⟨4, .data⟩, ⟨2, .guard⟩], some (2, true)⟩
def rkids10z_o6 : Oper := ⟨some 72, .load 114 (.tmp 71), 114, "ref.go:191", #[⟨5, .data⟩, ⟨2, .guard⟩], some (2, true)⟩
def rkids10z_o7 : Oper := ⟨some 73, .move (.tmp 5), 83, "ref.go:191", #[⟨2, .guard⟩], some (2, true)⟩
def rkids10z_o8 : Oper := ⟨some 74, .move (.tmp 7), 3, "ref.go:191", #[⟨2, .guard⟩], some (2, true)⟩
def rkids10z_o9 : Oper := ⟨some 75, .binOp BinOp.sub 3 (.tmp 74) (Operand.const (Value.int IntKind.i64 1)) 3, 3, "ref.go:191", #[⟨8, .data⟩, ⟨2, .guard⟩], some (2, true)⟩
def rkids10z_o10 : Oper := ⟨some 76, .indexAddr 83 (.tmp 73) (.tmp 75), 0, "ref.go:191", #[⟨7, .data⟩, ⟨9, .data⟩, ⟨2, .guard⟩], some (2, true)⟩
def rkids10z_o11 : Oper := ⟨some 77, .load 114 (.tmp 76), 114, "ref.go:191", #[⟨10, .data⟩, ⟨2, .guard⟩], some (2, true)⟩
def rkids10z_o12 : Oper := ⟨some 78, .call { callee := Callee.value (Operand.func 78), args := #[.tmp 72, .tmp 77], argTypes := #[114, 114] }, 4, "ref.go:191", #[⟨6, .data⟩, ⟨11, .data⟩, ⟨2, .chain⟩, ⟨2, .guard⟩], some (2, true)⟩
def rkids10z_o13 : Oper := ⟨some 79, .pick (.tmp 68) (.tmp 78) (Operand.const (Value.bool false)), 4, "ref.go:191", #[⟨2, .data⟩, ⟨12, .data⟩], none⟩
def rkids10z_ops : Array Oper := #[rkids10z_o0, rkids10z_o1, rkids10z_o2, rkids10z_o3, rkids10z_o4, rkids10z_o5, rkids10z_o6, rkids10z_o7, rkids10z_o8, rkids10z_o9, rkids10z_o10, rkids10z_o11, rkids10z_o12, rkids10z_o13]
theorem rkids10z (lv : Value) (S : World → Prop) (a : Act) (w : World) (Q : Exit → Act → World → Prop) (hsz : a.tmps.size = 114)
    (t5 : a.tmps.getD 5 undef = lv)
    (t7 : a.tmps.getD 7 undef = .int .i64 0)
    (h0 : S w.drew)
    (G1 : ∀ W, (eqGuard BinOp.gtr 3 (Operand.tmp 66) (Operand.const (Value.int IntKind.i64 0)) (.int .i64 0) (.int .i64 0)).run Try.prog W = .ok () W)
    (G2 : ∀ W, S W → (binOp BinOp.gtr 3 (.int .i64 0) (.int .i64 0)).run Try.prog W = .ok (.bool false) W)
    (h : ∀ (a' : Act) (w' : World), S w' → a' = ((((((((((((((a).put (some 66) (.int .i64 0)).put (some 67) (.bool false)).put (some 68) (.bool false)).put (some 69) (undef)).put (some 70) (undef)).put (some 71) (undef)).put (some 72) (undef)).put (some 73) (undef)).put (some 74) (undef)).put (some 75) (undef)).put (some 76) (undef)).put (some 77) (undef)).put (some 78) (undef)).put (some 79) (.bool false) → Q .normal a' w') :
    (Code.region 10 rkids10z_ops true).wp Try.prog Q a w := by
  refine wp_region_noPanic ?_
  refine wp_region_held_drew (S := fun w' => S w') (by kernel_rfl) (h0) (fun hHeld => ?_)
  refine tk 0 rkids10z_o0 (.int .i64 0) (by rfl) (fun w1 hw => exec_move rfl t7) hHeld (fun a1 e1 => ?_)
  rw [← e1] at h
  have z1 := pz e1 hsz
  replace t5 := pk e1 t5
  replace t7 := pk e1 t7
  have t66 := pq e1 hsz
  clear e1 hsz
  refine tk 1 rkids10z_o1 (.bool false) (by rfl) (fun w1 hw => exec_binOp rfl t66 rfl (G1 _) (G2 _ hw)) hHeld (fun a2 e2 => ?_)
  rw [← e2] at h
  have z2 := pz e2 z1
  replace t5 := pk e2 t5
  replace t7 := pk e2 t7
  clear t66
  have t67 := pq e2 z1
  clear e2 z1
  refine tk 2 rkids10z_o2 (.bool false) (by rfl) (fun w1 hw => exec_move rfl t67) hHeld (fun a3 e3 => ?_)
  rw [← e3] at h
  have z3 := pz e3 z2
  replace t5 := pk e3 t5
  replace t7 := pk e3 t7
  clear t67
  have t68 := pq e3 z2
  clear e3 z2
  refine wpAnyH_take (i := 3) (oi := rkids10z_o3) (v := undef) rfl (by kernel_rfl) (by kernel_rfl) (by kernel_rfl) (fun _ _ _ h => h) (Or.inr ⟨by simp [Region.wanted, yielded, rkids10z_o3, rkids10z_o2, rkids10z_ops, tget z3 (by decide) t68], rfl⟩) hHeld ?_
  change wpAnyH _ _ _ _ _ _ _ (a3.put (some 69) (undef)) _
  obtain ⟨a4, e4⟩ : ∃ act, act = a3.put (some 69) (undef) := ⟨_, rfl⟩
  rw [← e4] at h ⊢
  have z4 := pz e4 z3
  replace t5 := pk e4 t5
  replace t7 := pk e4 t7
  replace t68 := pk e4 t68
  have t69 := pq e4 z3
  clear e4 z3
  refine wpAnyH_take (i := 4) (oi := rkids10z_o4) (v := undef) rfl (by kernel_rfl) (by kernel_rfl) (by kernel_rfl) (fun _ _ _ h => h) (Or.inr ⟨by simp [Region.wanted, yielded, rkids10z_o4, rkids10z_o2, rkids10z_ops, tget z4 (by decide) t68], rfl⟩) hHeld ?_
  change wpAnyH _ _ _ _ _ _ _ (a4.put (some 70) (undef)) _
  obtain ⟨a5, e5⟩ : ∃ act, act = a4.put (some 70) (undef) := ⟨_, rfl⟩
  rw [← e5] at h ⊢
  have z5 := pz e5 z4
  replace t5 := pk e5 t5
  replace t7 := pk e5 t7
  replace t68 := pk e5 t68
  replace t69 := pk e5 t69
  have t70 := pq e5 z4
  clear e5 z4
  refine wpAnyH_take (i := 5) (oi := rkids10z_o5) (v := undef) rfl (by kernel_rfl) (by kernel_rfl) (by kernel_rfl) (fun _ _ _ h => h) (Or.inr ⟨by simp [Region.wanted, yielded, rkids10z_o5, rkids10z_o2, rkids10z_ops, tget z5 (by decide) t68], rfl⟩) hHeld ?_
  change wpAnyH _ _ _ _ _ _ _ (a5.put (some 71) (undef)) _
  obtain ⟨a6, e6⟩ : ∃ act, act = a5.put (some 71) (undef) := ⟨_, rfl⟩
  rw [← e6] at h ⊢
  have z6 := pz e6 z5
  replace t5 := pk e6 t5
  replace t7 := pk e6 t7
  replace t68 := pk e6 t68
  clear t69
  clear t70
  have t71 := pq e6 z5
  clear e6 z5
  refine wpAnyH_take (i := 6) (oi := rkids10z_o6) (v := undef) rfl (by kernel_rfl) (by kernel_rfl) (by kernel_rfl) (fun _ _ _ h => h) (Or.inr ⟨by simp [Region.wanted, yielded, rkids10z_o6, rkids10z_o2, rkids10z_ops, tget z6 (by decide) t68], rfl⟩) hHeld ?_
  change wpAnyH _ _ _ _ _ _ _ (a6.put (some 72) (undef)) _
  obtain ⟨a7, e7⟩ : ∃ act, act = a6.put (some 72) (undef) := ⟨_, rfl⟩
  rw [← e7] at h ⊢
  have z7 := pz e7 z6
  replace t5 := pk e7 t5
  replace t7 := pk e7 t7
  replace t68 := pk e7 t68
  clear t71
  have t72 := pq e7 z6
  clear e7 z6
  refine wpAnyH_take (i := 7) (oi := rkids10z_o7) (v := undef) rfl (by kernel_rfl) (by kernel_rfl) (by kernel_rfl) (fun _ _ _ h => h) (Or.inr ⟨by simp [Region.wanted, yielded, rkids10z_o7, rkids10z_o2, rkids10z_ops, tget z7 (by decide) t68], rfl⟩) hHeld ?_
  change wpAnyH _ _ _ _ _ _ _ (a7.put (some 73) (undef)) _
  obtain ⟨a8, e8⟩ : ∃ act, act = a7.put (some 73) (undef) := ⟨_, rfl⟩
  rw [← e8] at h ⊢
  have z8 := pz e8 z7
  clear t5
  replace t7 := pk e8 t7
  replace t68 := pk e8 t68
  replace t72 := pk e8 t72
  have t73 := pq e8 z7
  clear e8 z7
  refine wpAnyH_take (i := 8) (oi := rkids10z_o8) (v := undef) rfl (by kernel_rfl) (by kernel_rfl) (by kernel_rfl) (fun _ _ _ h => h) (Or.inr ⟨by simp [Region.wanted, yielded, rkids10z_o8, rkids10z_o2, rkids10z_ops, tget z8 (by decide) t68], rfl⟩) hHeld ?_
  change wpAnyH _ _ _ _ _ _ _ (a8.put (some 74) (undef)) _
  obtain ⟨a9, e9⟩ : ∃ act, act = a8.put (some 74) (undef) := ⟨_, rfl⟩
  rw [← e9] at h ⊢
  have z9 := pz e9 z8
  clear t7
  replace t68 := pk e9 t68
  replace t72 := pk e9 t72
  replace t73 := pk e9 t73
  have t74 := pq e9 z8
  clear e9 z8
  refine wpAnyH_take (i := 9) (oi := rkids10z_o9) (v := undef) rfl (by kernel_rfl) (by kernel_rfl) (by kernel_rfl) (fun _ _ _ h => h) (Or.inr ⟨by simp [Region.wanted, yielded, rkids10z_o9, rkids10z_o2, rkids10z_ops, tget z9 (by decide) t68], rfl⟩) hHeld ?_
  change wpAnyH _ _ _ _ _ _ _ (a9.put (some 75) (undef)) _
  obtain ⟨a10, e10⟩ : ∃ act, act = a9.put (some 75) (undef) := ⟨_, rfl⟩
  rw [← e10] at h ⊢
  have z10 := pz e10 z9
  replace t68 := pk e10 t68
  replace t72 := pk e10 t72
  replace t73 := pk e10 t73
  clear t74
  have t75 := pq e10 z9
  clear e10 z9
  refine wpAnyH_take (i := 10) (oi := rkids10z_o10) (v := undef) rfl (by kernel_rfl) (by kernel_rfl) (by kernel_rfl) (fun _ _ _ h => h) (Or.inr ⟨by simp [Region.wanted, yielded, rkids10z_o10, rkids10z_o2, rkids10z_ops, tget z10 (by decide) t68], rfl⟩) hHeld ?_
  change wpAnyH _ _ _ _ _ _ _ (a10.put (some 76) (undef)) _
  obtain ⟨a11, e11⟩ : ∃ act, act = a10.put (some 76) (undef) := ⟨_, rfl⟩
  rw [← e11] at h ⊢
  have z11 := pz e11 z10
  replace t68 := pk e11 t68
  replace t72 := pk e11 t72
  clear t73
  clear t75
  have t76 := pq e11 z10
  clear e11 z10
  refine wpAnyH_take (i := 11) (oi := rkids10z_o11) (v := undef) rfl (by kernel_rfl) (by kernel_rfl) (by kernel_rfl) (fun _ _ _ h => h) (Or.inr ⟨by simp [Region.wanted, yielded, rkids10z_o11, rkids10z_o2, rkids10z_ops, tget z11 (by decide) t68], rfl⟩) hHeld ?_
  change wpAnyH _ _ _ _ _ _ _ (a11.put (some 77) (undef)) _
  obtain ⟨a12, e12⟩ : ∃ act, act = a11.put (some 77) (undef) := ⟨_, rfl⟩
  rw [← e12] at h ⊢
  have z12 := pz e12 z11
  replace t68 := pk e12 t68
  replace t72 := pk e12 t72
  clear t76
  have t77 := pq e12 z11
  clear e12 z11
  refine wpAnyH_take (i := 12) (oi := rkids10z_o12) (v := undef) rfl (by kernel_rfl) (by kernel_rfl) (by kernel_rfl) (fun _ _ _ h => h) (Or.inr ⟨by simp [Region.wanted, yielded, rkids10z_o12, rkids10z_o2, rkids10z_ops, tget z12 (by decide) t68], rfl⟩) hHeld ?_
  change wpAnyH _ _ _ _ _ _ _ (a12.put (some 78) (undef)) _
  obtain ⟨a13, e13⟩ : ∃ act, act = a12.put (some 78) (undef) := ⟨_, rfl⟩
  rw [← e13] at h ⊢
  have z13 := pz e13 z12
  replace t68 := pk e13 t68
  clear t72
  clear t77
  have t78 := pq e13 z12
  clear e13 z12
  refine tk 13 rkids10z_o13 (.bool false) (by rfl) (fun w1 hw => by unfold rkids10z_o13; go_simp) hHeld (fun a14 e14 => ?_)
  rw [← e14] at h
  have z14 := pz e14 z13
  clear t68
  clear t78
  clear e14 z13
  exact wpAnyH_done (by kernel_rfl) (NoPanic.normal (h _ _ (hHeld) rfl)) _
def ltN (x y : RN) : Prop := cKid (kOf x) (kOf y) < 0
def Srt (L : List RN) : Prop := L.Pairwise ltN
theorem ltN_trans {x y z : RN} (hx : RnOk x) (hy : RnOk y) (hz : RnOk z) (h1 : ltN x y) (h2 : ltN y z) : ltN x z := by
  unfold ltN at *
  exact to_kidP.lt (kidP (kOf x) hx.k) (kidP (kOf y) hy.k) (kidP (kOf z) hz.k) (by show cKid (kOf x) (kOf y) ≤ 0; omega) (by show cKid (kOf y) (kOf z) ≤ 0; omega) (Or.inl h1)
theorem ltN_of_not {x z : RN} (hx : RnOk x) (hz : RnOk z) (hne : z.1 ≠ x.1) (h : ¬ ltN x z) : ltN z x := by
  unfold ltN at *
  have h1 := cKid_anti (x := kOf x) (y := kOf z) hx.k hz.k
  have h2 : cKid (kOf z) (kOf x) ≠ 0 := fun e => hne (cKid_zero (x := kOf z) (y := kOf x) hz.k hx.k e)
  omega
theorem ins_sorted {A B : List RN} {x : RN} (ok : ∀ y ∈ A ++ B, RnOk y) (hx : RnOk x) (hs : Srt (A ++ B)) (hB : ∀ b ∈ B, ltN x b) (hne : ∀ a ∈ A, a.1 ≠ x.1) (hA : A = [] ∨ ∃ A' z, A = A' ++ [z] ∧ ¬ ltN x z) : Srt (A ++ x :: B) := by
  unfold Srt at *
  rw [List.pairwise_append] at hs
  rw [List.pairwise_append, List.pairwise_cons]
  have hax : ∀ a ∈ A, ltN a x := by
    rcases hA with rfl | ⟨A', z, rfl, hz⟩
    · intro a ha; cases ha
    · have hzo : RnOk z := ok z (by simp)
      have hzx := ltN_of_not hx hzo (hne z (by simp)) hz
      intro a ha
      rcases List.mem_append.1 ha with ha | ha
      · have h1 := (List.pairwise_append.1 hs.1).2.2 a ha z (by simp)
        exact ltN_trans (ok a (by simp [ha])) hzo hx h1 hzx
      · simp at ha; subst ha; exact hzx
  refine ⟨hs.1, ⟨hB, hs.2.1⟩, fun a ha b hb => ?_⟩
  rcases List.mem_cons.1 hb with rfl | hb
  · exact hax a ha
  · exact hs.2.2 a ha b hb
def selN (k : IdK) (L : List RN) : List RN := L.filter fun p => !p.2.pr && decide (p.2.u = k)
theorem sel_next {NL : List RN} {i : Nat} {p : RN} (k : IdK) (h : NL[i]? = some p) : selN k (NL.take (i + 1)) = selN k (NL.take i) ++ selN k [p] := by
  rw [List.take_add_one, h]
  unfold selN
  rw [List.filter_append]
  rfl
theorem kids_sel {NL : List RN} (hn : (NL.map (·.1)).Nodup) (ok : ∀ p ∈ NL, RnOk p) {k : IdK} {L : List RN} (hp : L.Perm (selN k NL)) (hs : Srt L) : IsKids (lookN NL) k (L.map (·.1)) := by
  have hmem : ∀ p, p ∈ L ↔ p ∈ NL ∧ p.2.pr = false ∧ p.2.u = k := fun p => by
    rw [hp.mem_iff, selN, List.mem_filter]
    simp
  have hlook : ∀ p ∈ L, lookN NL p.1 = some p.2 := fun p hp' => M.look_of_mem hn ((hmem p).1 hp').1
  refine ⟨fun x => ⟨fun hx => ?_, fun hx => ?_⟩, ?_, fun x hx => ?_⟩
  · obtain ⟨p, hp', rfl⟩ := List.mem_map.1 hx
    have h1 := (hmem p).1 hp'
    exact ⟨p.2, hlook p hp', h1.2.1, h1.2.2⟩
  · obtain ⟨n, h1, h2, h3⟩ := hx
    exact List.mem_map.2 ⟨(x, n), (hmem _).2 ⟨M.look_mem h1, h2, h3⟩, rfl⟩
  · rw [List.pairwise_map]
    refine List.Pairwise.imp_of_mem (fun {a b} ha hb hlt => ?_) hs
    have e1 : kidF (lookN NL) a.1 = kOf a := by unfold kidF nd kOf; rw [hlook a ha]; rfl
    have e2 : kidF (lookN NL) b.1 = kOf b := by unfold kidF nd kOf; rw [hlook b hb]; rfl
    rw [e1, e2]
    exact hlt
  · obtain ⟨p, hp', rfl⟩ := List.mem_map.1 hx
    exact (ok p ((hmem p).1 hp').1).k
theorem load_rn_at {w : World} {b o : Nat} {p : RN} (hp : RnOk p) (h : w.rangeAt b o (rnC p)) : (Instr.loadAt 114 (.pointer (some ⟨b, o, none⟩))).run Try.prog w = .ok (.agg (rnC p).toArray) w :=
  run_loadAt_mid (P := Try.prog) w b o 114 (rnC p) _ h Try.underlying114 rfl (by rw [rn_len hp]; exact szRn)
theorem zeroRn (w : World) : (zeroValue 114).run Try.prog w = .ok (.agg (rnC zRn).toArray) w := by kernel_rfl
theorem rn_new (w : World) (x : RN) (hx : RnOk x) : ∃ w1, (Instr.alloc 114 true (.tuple #[])).run Try.prog w = .ok (.pointer (some ⟨w.heap.size, 0, none⟩)) w1 ∧ (Instr.storeAt 114 (.pointer (some ⟨w.heap.size, 0, none⟩)) (.agg (rnC x).toArray)).run Try.prog w1 = .ok () (w.alloc (.cells (rnC x).toArray 114)) := by
  have e1 : (Instr.alloc 114 true (.tuple #[])).run Try.prog w = .ok (.pointer (some ⟨w.heap.size, 0, none⟩)) (w.alloc (.cells (rnC zRn).toArray 114)) := by
    simp only [Instr.alloc, newVar, newRow, newObj, Sem.run_bind, zeroRn, Result.andThen_ok, Value.cells]
    rfl
  have e2 := run_storeVar_row (P := Try.prog) (w.alloc (.cells (rnC zRn).toArray 114)) w.heap.size 114 114 (rnC zRn).toArray (rnC x).toArray (heap_alloc_new _ _) (by rw [List.size_toArray, rn_len hx]; exact szRn)
    (by rw [List.size_toArray, List.size_toArray, rn_len hx, rn_len zRn_ok]) (by rw [List.all_toArray, List.all_eq_true]; exact rn_one x)
  rw [World.setRow_alloc_new] at e2
  refine ⟨_, e1, ?_⟩
  simp only [Instr.storeAt, Instr.sureAddr, Sem.run_bind, Sem.run_pure, Result.andThen_ok, e2]
theorem ix_rn0 {b n c i : Nat} (h : i < n) (hn : n ≤ 9223372036854775807) (w : World) : (Instr.indexAt 83 (.slice (some ⟨b, 0, none⟩) n c) (.int .i64 (i : Int))).run Try.prog w = .ok (.pointer (some ⟨b, i * 68, none⟩)) w := by go_simp
theorem gtr0 {kk : Nat} (h : 0 < kk) (w : World) : (binOp .gtr 3 (.int .i64 (kk : Int)) (.int .i64 0)).run Try.prog w = .ok (.bool true) w := by
  have h1 : (0 : Int) < (kk : Int) := by omega
  go_simp
theorem sub1 {kk m : Nat} (h : wrap64 ((kk : Int) - 1) = (m : Int)) (w : World) : (binOp .sub 3 (.int .i64 (kk : Int)) (.int .i64 1)).run Try.prog w = .ok (.int .i64 (m : Int)) w := by
  have h1 : IntKind.i64.wrap ((kk : Int) - 1) = (m : Int) := by rw [← h, IntKind.wrap_i64]; unfold wrap64; omega
  go_simp
theorem set_swap {A B : List RN} {z p : RN} {m : Nat} (hm : A.length = m) : ((A.concat z ++ p :: B).set (m + 1) z).set m p = A ++ p :: (z :: B) := by
  have e : A.concat z ++ p :: B = A ++ (z :: p :: B) := by simp
  rw [e, ← hm, List.set_append_right _ _ (by omega), show A.length + 1 - A.length = 1 by omega, List.set_append_right _ _ (by omega), Nat.sub_self]
  rfl
theorem OwnI.base {w : World} {b b' : Nat} {v : Value} {L : List IdK} (h : OwnI w b v L) (hb : b' ≤ b) : OwnI w b' v L := by
  refine ⟨h.1, ?_⟩
  rcases h.2 with q | ⟨g, cap, cur, e, hbg, rest⟩
  · exact .inl q
  · exact .inr ⟨g, cap, cur, e, Nat.le_trans hb hbg, rest⟩
theorem own_getN {w : World} {base g n cap : Nat} {L : List RN} (own : OwnN w base (.slice (some ⟨g, 0, none⟩) n cap) L) (ok : ∀ x ∈ L, RnOk x) : L.length = n ∧ ∀ i x, L[i]? = some x → w.rangeAt g (i * 68) (rnC x) := by
  obtain ⟨a, c, e, h2, _⟩ := own.open ok
  simp only [Value.slice.injEq] at e
  obtain ⟨rfl, rfl, _⟩ := e
  refine ⟨rfl, fun i x hx => ?_⟩
  rcases h2 with rfl | ⟨b, off, e, _, h3⟩
  · simp at hx
  · simp only [Option.some.injEq, Addr.mk.injEq] at e
    obtain ⟨rfl, rfl, _⟩ := e
    have := h3 i x hx
    rwa [Nat.zero_add, Nat.mul_comm] at this
section
variable (d : Nat) (NL : List RN) (pv : Value)
theorem rkids_any (k : IdK) (w : World) (h : RefAt w d NL pv) (hk : k.ok) (hn : NL.length ≤ 1300000000000) (hf : Forest (lookN NL)) :
    Calls Try.prog 36 #[.pointer (some ⟨d, 0, none⟩), k.v] w fun e w' => ∃ v L, e = .returned v ∧ OwnI w' w.heap.size v L ∧ IsKids (lookN NL) k L ∧ Below w.heap.size w w' := by
  have lt := h.lt
  have HH := hidMk (fun (W : World) (b : Below w.heap.size w W) => rhas_any d NL pv k W (h.below b) hk hn)
  obtain ⟨a, c, hc, hrow⟩ := h.cell
  obtain ⟨n, hnn⟩ : ∃ n, NL.length = n := ⟨_, rfl⟩
  have C0 : w.cell? ⟨d, 0, none⟩ = some (.slice a n c) := by rw [← hnn, cell_of_row _ _ 0 _ _ _ hc]; rfl
  have HC := hidMk (fun (W : World) (b : Below w.heap.size w W) => (b.cell (p := ⟨d, 0, none⟩) lt).trans C0)
  have HROW := hidMk hrow
  have HNn := hidMk hnn
  have hbig : n ≤ 1300000000000 := by omega
  clear hc C0 hn hnn hrow
  unfold IdK.v
  go_enter Try.func36, Try.ntmps36
  obtain ⟨hx, bx, zx⟩ := box_id w k
  have ZX := hidMk zx
  clear zx
  go_upto_region 1 with fail
  generalize w.alloc (.cells k.c.toArray 37) = W at *
  have HL := hidMk (fun (V : World) (b : Below W.heap.size W V) => load_id hk ((b.block _ (by have := ZX.out; omega)).trans hx))
  by_cases hout : k ≠ zId ∧ (lookN NL k).isSome = false
  · have hq : ∀ V : World, (binOp .neq 37 k.v zId.v).run Try.prog V = .ok (.bool true) V := fun V => by rw [neq_id k zId hk zId_ok, decide_eq_false hout.1]; rfl
    have HO := hidMk hout
    rw [hout.2] at HH
    clear hout
    go_wp2_with (first
      | (refine wpList_val rfl (exec_load (t := 37) (u := .pointer (some ⟨w.heap.size, 0, none⟩)) rfl rfl (HL.out _ (Below.refl _ _))) ?_)
      | (refine wpList_val rfl (exec_build0 rfl (build_id _)) ?_)
      | (refine wpList_val rfl (exec_binOp (xv := k.v) (yv := zId.v) rfl rfl rfl (guard_id _ _ k zId _ _) (hq _)) ?_)
      | (go_at_call 74; refine (HH.out _ bx).mono ?_; rintro e w1 ⟨rfl, b1⟩)
      | fail)
    go_ret
    refine ⟨_, [], rfl, ⟨rfl, Or.inl ⟨rfl, rfl⟩⟩, kids_no (fun y hy => ?_), bx.trans (b1.mono bx.size)⟩
    obtain ⟨m, h1, h2, h3⟩ := hy
    have := hf.under y m h1 h2 (by rw [h3]; exact HO.out.1)
    rw [h3, HO.out.2] at this
    cases this
  · have hin : k = zId ∨ (lookN NL k).isSome = true := by
      by_cases e : k = zId
      · exact Or.inl e
      · refine Or.inr ?_
        cases q : (lookN NL k).isSome with
        | true => rfl
        | false => exact absurd ⟨e, q⟩ hout
    clear hout
    have own0 : ∀ V : World, OwnN V W.heap.size (.slice none 0 0) [] := fun V => ⟨rfl, Or.inl ⟨rfl, rfl⟩⟩
    rcases hin with hin | hin
    · have hq : ∀ V : World, (binOp .neq 37 k.v zId.v).run Try.prog V = .ok (.bool false) V := fun V => by rw [neq_id k zId hk zId_ok, decide_eq_true hin]; rfl
      clear hin
      go_upto_region 4 with (first
        | (refine wpList_val rfl (exec_load (t := 37) (u := .pointer (some ⟨w.heap.size, 0, none⟩)) rfl rfl (HL.out _ (Below.refl _ _))) ?_)
        | (refine wpList_val rfl (exec_build0 rfl (build_id _)) ?_)
        | (refine wpList_val rfl (exec_binOp (xv := k.v) (yv := zId.v) rfl rfl rfl (guard_id _ _ k zId _ _) (hq _)) ?_)
        | fail)
      have b1 := Below.refl W.heap.size W
      clear hq
      go_wp2
      go_loopw [5, 6] (fun v5 v6 wr => ∃ (i : Nat) (L : List RN), v6 = .int .i64 (i : Int) ∧ i ≤ n ∧ OwnN wr W.heap.size v5 L ∧ L.Perm (selN k (NL.take i)) ∧ Srt L ∧ Below W.heap.size W wr) (fun v5 v6 wr => n - (match v6 with | .int _ i => i.toNat | _ => 0))
      case atStart => exact ⟨0, [], rfl, Nat.zero_le _, own0 _, List.Perm.refl _, List.Pairwise.nil, b1⟩
      case round =>
        clear b1
        obtain ⟨i, L, rfl, hin, own, hper, hsrt, belW⟩ := hrel
        have bw : ∀ V, Below W.heap.size W V → Below w.heap.size w V := fun V b => bx.trans (b.mono bx.size)
        have c0 := HC.out wr (bw _ belW)
        have hN := HNn.out
        have hmemL : ∀ y ∈ L, y ∈ NL.take i := fun y hy => by have := hper.mem_iff.1 hy; unfold selN at this; exact (List.mem_filter.1 this).1
        have hokL : ∀ y ∈ L, RnOk y := fun y hy => h.ok y (List.mem_of_mem_take (hmemL y hy))
        have hLl : L.length ≤ n := by
          have h1 := hper.length_eq
          have h2 : (selN k (NL.take i)).length ≤ (NL.take i).length := List.length_filter_le _ _
          rw [List.length_take] at h2
          omega
        by_cases hi : i < n
        · have hxi : NL[i]? = some NL[i] := List.getElem?_eq_getElem (by omega)
          generalize NL[i] = p at hxi
          have hpo := h.ok p (List.mem_of_getElem? hxi)
          obtain ⟨b, o, rfl, lb, hr⟩ : ∃ b o, a = some ⟨b, o, none⟩ ∧ b < w.heap.size ∧ w.rangeAt b (o + i * 68) (rnC p) := by
            rcases HROW.out with e | ⟨b, o, e, h1, h2⟩
            · rw [e] at hxi; simp at hxi
            · exact ⟨b, o, e, h1, h2 i p hxi⟩
          have HR := hidMk (fun (V : World) (bb : Below W.heap.size W V) => rangeAt_keep hr ((bw V bb).block _ lb))
          have hnx := sel_next k hxi
          have HXI := hidMk hxi
          have HOW := hidMk own
          have HPE := hidMk hper
          have HSR := hidMk hsrt
          have HML := hidMk hmemL
          clear hxi own hper hsrt hmemL hr hN
          go_upto_region 7 with fail
          clear c0
          have beld : Below wr.heap.size wr wr.drew := (Below.refl _ _).drew
          have bwr : ∀ V, Below wr.heap.size wr V → Below W.heap.size W V := fun V b => belW.trans (b.mono belW.size)
          cases hp : p.2.pr with
          | true =>
            have hnx2 : selN k (NL.take (i + 1)) = selN k (NL.take i) := by rw [hnx]; simp [selN, hp]
            have HNX := hidMk hnx2
            clear hnx hnx2
            refine rkids7p d w.heap.size b o n c i (fun V => Below wr.heap.size wr V) _ wr _ rfl rfl rfl rfl beld (fun V hV => load_ns (HC.out V (bw V (bwr V hV)))) (fun V => ix_rn hi (by omega) V) (fun V hV => by rw [← hp]; exact rn_pr hpo (HR.out V (bwr V hV))) ?_
            intro a' w' hw' ha
            subst ha
            simp only [Act.put, List.setIfInBounds_toArray, List.set_cons_zero, List.set_cons_succ]
            have own' : Hid (OwnN w' W.heap.size u5 L) := HOW.out.below hw'
            have bel' := bwr _ hw'
            go_wp2
            rw [show ((i : Int) + 1) = ((i + 1 : Nat) : Int) by omega]
            refine ⟨⟨i + 1, L, rfl, hi, own'.out, by rw [HNX.out]; exact HPE.out, HSR.out, bel'⟩, ?_⟩
            show n - ((i + 1 : Nat) : Int).toNat < n - (i : Int).toNat
            omega
          | false =>
            refine rkids7u d w.heap.size b o n c i (fun V => Below wr.heap.size wr V) p.2.u.v k.v (!decide (p.2.u = k)) _ wr _ rfl rfl rfl rfl beld (fun V hV => load_ns (HC.out V (bw V (bwr V hV)))) (fun V => ix_rn hi (by omega) V) (fun V hV => by rw [← hp]; exact rn_pr hpo (HR.out V (bwr V hV))) (fun V hV => rn_under hpo (HR.out V (bwr V hV))) (fun V hV => HL.out V (bwr V hV)) (fun V => guard_id _ _ p.2.u k V _) (fun V hV => neq_id p.2.u k hpo.u hk V) ?_
            intro a' w' hw' ha
            subst ha
            simp only [Act.put, List.setIfInBounds_toArray, List.set_cons_zero, List.set_cons_succ]
            have own' : Hid (OwnN w' W.heap.size u5 L) := HOW.out.below hw'
            have bel' := bwr _ hw'
            by_cases hu : p.2.u = k
            · have hnx2 : selN k (NL.take (i + 1)) = selN k (NL.take i) ++ [p] := by rw [hnx]; simp [selN, hp, hu]
              have HNX := hidMk hnx2
              rw [decide_eq_true hu]
              simp only [Bool.not_true]
              have hneL : ∀ y ∈ L, y.1 ≠ p.1 := fun y hy e => by
                have h1 := HML.out y hy
                have hnd := h.nd
                obtain ⟨j, hj⟩ := List.getElem?_of_mem h1
                have hjl : j < i := by have := (List.getElem?_eq_some_iff.1 hj).1; rw [List.length_take] at this; omega
                rw [List.getElem?_take, if_pos hjl] at hj
                have e1 : (NL.map (·.1))[j]? = some y.1 := by rw [List.getElem?_map, hj]; rfl
                have e2 : (NL.map (·.1))[i]? = some p.1 := by rw [List.getElem?_map, HXI.out]; rfl
                have l2 : i < (NL.map (·.1)).length := by simp; have := HNn.out; omega
                have l1 : j < (NL.map (·.1)).length := by omega
                rw [List.getElem?_eq_getElem l1] at e1
                rw [List.getElem?_eq_getElem l2] at e2
                exact (List.pairwise_iff_getElem.1 hnd j i l1 l2 hjl) (by rw [Option.some.inj e1, Option.some.inj e2, e])
              have HNE := hidMk hneL
              clear hnx hnx2 hneL
              have cN := HC.out w' (bw _ bel')
              have LP := hidMk (load_rn_at hpo (HR.out w' bel'))
              have EBS : Hid ((Instr.buildSlice 83 1 #[(0, .agg (rnC p).toArray)]).run Try.prog w' = .ok (.slice (some ⟨w'.heap.size, 0, none⟩) 1 1) (w'.alloc (.cells (rnC p).toArray 114))) := run_bsN p hpo w'
              have hlit := rns_lit w' p 114
              have bb : Below w'.heap.size w' (w'.alloc (.cells (rnC p).toArray 114)) := (Below.refl _ _).alloc (Nat.le_refl _) _
              generalize w'.alloc (.cells (rnC p).toArray 114) = w3 at *
              have own3 := own'.out.below bb
              have bel3 : Below W.heap.size W w3 := bel'.trans (bb.mono bel'.size)
              obtain ⟨v5', w4, eap, own4, g4, _⟩ := run_appN w3 W.heap.size u5 L (some ⟨w'.heap.size, 0, none⟩) [p] 1 own3 hlit (by simpa using hpo) (by simp only [List.length_cons, List.length_nil]; omega) bel3.size
              have EAP : Hid ((Builtin.append_ #[83, 83] 83 #[u5, .slice (some ⟨w'.heap.size, 0, none⟩) 1 1]).run Try.prog w3 = .ok v5' w4) := eap
              have bel4 : Below W.heap.size W w4 := bel3.trans ⟨g4.os, g4.tape, g4.output, g4.size, fun j hj => g4.block j (Nat.lt_of_lt_of_le hj bel3.size) (fun e => by have := (own3.ge j e.symm).1; omega)⟩
              obtain ⟨ln, hln⟩ : ∃ ln, L.length = ln := ⟨_, rfl⟩
              obtain ⟨g, cap, rfl⟩ : ∃ g cap, v5' = .slice (some ⟨g, 0, none⟩) (ln + 1) cap := by
                rcases own4.2 with ⟨_, e⟩ | ⟨g', cap', cur, e, _⟩
                · simp at e
                · exact ⟨g', cap', by rw [e]; simp [hln]⟩
              have HLN := hidMk hln
              have hlnn : ln ≤ n := by omega
              have HOW4 := hidMk own4
              obtain ⟨ln1, hln1⟩ : ∃ ln1, ln + 1 = ln1 := ⟨_, rfl⟩
              rw [hln1] at HOW4 EAP
              have hsubL : wrap64 ((ln1 : Int) - 1) = (ln : Int) := by unfold wrap64; omega
              have HLN1 := hidMk hln1
              have hl1n : ln < ln1 ∧ ln1 ≤ 1300000000001 := by omega
              clear eap own4 g4 own3 hlit hln hln1 bb
              go_upto_region 9 with (first
                | (refine wpList_val rfl (exec_load (t := 114) (u := .pointer (some ⟨b, o + i * 68, none⟩)) rfl rfl LP.out) ?_)
                | (refine wpList_run rfl (exec_buildSlice (t := 83) (n := 1) (xv := .agg (rnC p).toArray) (v := .slice (some ⟨w'.heap.size, 0, none⟩) 1 1) rfl rfl EBS.out) ?_)
                | (refine wpList_run rfl (exec_append (xv := u5) (yv := .slice (some ⟨w'.heap.size, 0, none⟩) 1 1) (v := .slice (some ⟨g, 0, none⟩) ln1 cap) rfl rfl rfl EAP.out) ?_)
                | fail)
              go_wp2
              have lg4 : g < w4.heap.size ∧ W.heap.size ≤ g := by
                obtain ⟨h1, q, hq⟩ := HOW4.out.ge g rfl
                exact ⟨(Array.getElem?_eq_some_iff.1 hq).1, h1⟩
              go_loopw [7] (fun v7 wq => ∃ (A B : List RN), v7 = .int .i64 (A.length : Int) ∧ OwnN wq W.heap.size (.slice (some ⟨g, 0, none⟩) ln1 cap) (A ++ p :: B) ∧ A ++ B = L ∧ (∀ y ∈ B, ltN p y) ∧ Below W.heap.size W wq) (fun v7 wq => match v7 with | .int _ z => z.toNat | _ => 0)
              case atStart =>
                refine ⟨L, [], by rw [HLN.out]; congr 1; have := HLN1.out; omega, HOW4.out, by simp, fun y hy => (by cases hy), bel4⟩
              case round =>
                clear EBS EAP LP cN lg4
                obtain ⟨A, B, rfl, ownq, hAB, hB, belq⟩ := hrel
                have hokAB : ∀ y ∈ A ++ B, RnOk y := fun y hy => hokL y (by rw [← hAB]; exact hy)
                have hokM : ∀ y ∈ A ++ p :: B, RnOk y := fun y hy => by
                  rcases List.mem_append.1 hy with hy | hy
                  · exact hokAB y (by simp [hy])
                  · rcases List.mem_cons.1 hy with rfl | hy
                    · exact hpo
                    · exact hokAB y (by simp [hy])
                obtain ⟨hlenM, hrngM⟩ := own_getN ownq hokM
                have HRM := hidMk hrngM
                have HLM := hidMk hlenM
                have HAB := hidMk hAB
                have HOQ := hidMk ownq
                have hneA : ∀ y ∈ A, y.1 ≠ p.1 := fun y hy => HNE.out y (by rw [← hAB]; simp [hy])
                have fin : ∀ (A' : List RN), A' = A → (A = [] ∨ ∃ A'' z, A = A'' ++ [z] ∧ ¬ ltN p z) → ∀ V, OwnN V W.heap.size (.slice (some ⟨g, 0, none⟩) ln1 cap) (A ++ p :: B) → Below W.heap.size W V →
                    ∃ (i' : Nat) (L' : List RN), Value.int IntKind.i64 ((i + 1 : Nat) : Int) = .int .i64 (i' : Int) ∧ i' ≤ n ∧ OwnN V W.heap.size (.slice (some ⟨g, 0, none⟩) ln1 cap) L' ∧ L'.Perm (selN k (NL.take i')) ∧ Srt L' ∧ Below W.heap.size W V := fun A' _ hcase V hV bV => by
                  refine ⟨i + 1, A ++ p :: B, rfl, hi, hV, ?_, ?_, bV⟩
                  · rw [HNX.out]
                    refine List.perm_middle.trans ?_
                    rw [HAB.out]
                    refine (List.Perm.cons p HPE.out).trans ?_
                    exact (List.perm_append_singleton p _).symm
                  · exact ins_sorted hokAB hpo (by rw [HAB.out]; exact HSR.out) hB hneA hcase
                have HFIN := hidMk (fin A rfl)
                clear fin hrngM hlenM hAB ownq
                have beldq : Below wr.heap.size wr wr.drew := (Below.refl _ _).drew
                have bwq : ∀ V, Below wr.heap.size wr V → Below W.heap.size W V := fun V b => belq.trans (b.mono belq.size)
                go_upto_region 10 with fail
                rcases List.eq_nil_or_concat A with rfl | ⟨A2, z, hA2⟩
                · refine rkids10z (.slice (some ⟨g, 0, none⟩) ln1 cap) (fun V => Below wr.heap.size wr V) _ wr _ rfl rfl rfl beldq (fun V => by go_simp) (fun V hV => by go_simp) ?_
                  intro a' w5 hw5 ha
                  subst ha
                  simp only [Act.put, List.setIfInBounds_toArray, List.set_cons_zero, List.set_cons_succ]
                  have bel5 := bwq _ hw5
                  have own5 := hidMk (HFIN.out (Or.inl rfl) w5 (HOQ.out.below hw5) bel5)
                  go_wp2
                  rw [show ((i : Int) + 1) = ((i + 1 : Nat) : Int) by omega]
                  refine ⟨own5.out, ?_⟩
                  show n - ((i + 1 : Nat) : Int).toNat < n - (i : Int).toNat
                  omega
                · subst hA2
                  obtain ⟨m, hm⟩ : ∃ m, A2.length = m := ⟨_, rfl⟩
                  obtain ⟨kk, hkk⟩ : ∃ kk, (A2.concat z).length = kk := ⟨_, rfl⟩
                  have hkm : kk = m + 1 := by rw [← hkk, List.length_concat, hm]
                  rw [hkk]
                  have HKK0 := hidMk hkk
                  have hcat : A2.concat z = A2 ++ [z] := by simp
                  have hzo : RnOk z := hokAB z (by simp)
                  have hl := HLM.out
                  rw [List.length_append, hkk, List.length_cons] at hl
                  have hxk : (A2.concat z ++ p :: B)[kk]? = some p := by rw [List.getElem?_append_right (by omega), hkk]; simp
                  have hzk : (A2.concat z ++ p :: B)[m]? = some z := by rw [List.getElem?_append_left (by omega), hcat, List.getElem?_append_right (by omega), hm]; simp
                  have rk := HRM.out kk p hxk
                  have rm := HRM.out m z hzk
                  have lg : g < wr.heap.size := by obtain ⟨_, q, hq⟩ := HOQ.out.ge g rfl; exact (Array.getElem?_eq_some_iff.1 hq).1
                  have HKK := hidMk (And.intro hkk (And.intro hkm hm))
                  have hk1 : kk < ln1 ∧ m < ln1 ∧ 0 < kk := by omega
                  have hsubk : wrap64 ((kk : Int) - 1) = (m : Int) := by unfold wrap64; omega
                  clear hxk hzk hl hkk hkm hm hcat
                  refine rkids10 g ln1 cap kk m (.agg (rnC p).toArray) (.agg (rnC z).toArray) (decide (cKid (kOf p) (kOf z) < 0)) (fun V => Below wr.heap.size wr V) _ wr _ rfl rfl rfl beldq (fun V V' h1 h2 => h1.trans (h2.mono h1.size)) (fun V hV => ahead_any p z V hpo hzo) ?_ ?_ ?_ ?_ ?_ ?_ ?_ ?_ ?_
                  · exact fun V => by go_simp
                  · exact fun V hV => gtr0 hk1.2.2 V
                  · exact fun V => ix_rn0 hk1.1 (by omega) V
                  · exact fun V hV => load_rn_at hpo (rangeAt_keep rk (hV.block _ lg))
                  · exact fun V => by go_simp
                  · exact fun V hV => sub1 hsubk V
                  · exact fun V => ix_rn0 hk1.2.1 (by omega) V
                  · exact fun V hV => load_rn_at hzo (rangeAt_keep rm (hV.block _ lg))
                  intro a' w5 hw5 ha
                  subst ha
                  simp only [Act.put, List.setIfInBounds_toArray, List.set_cons_zero, List.set_cons_succ]
                  have bel5 := bwq _ hw5
                  have ownw5 := HOQ.out.below hw5
                  by_cases hlt : cKid (kOf p) (kOf z) < 0
                  · rw [decide_eq_true hlt]
                    obtain ⟨x6, ea6, es6⟩ := rn_new w5 p hpo
                    have c6 : Below w5.heap.size w5 (w5.alloc (.cells (rnC p).toArray 114)) := (Below.refl _ _).alloc (Nat.le_refl _) _
                    have hb6 : RnAt (w5.alloc (.cells (rnC p).toArray 114)) w5.heap.size p := heap_alloc_new _ _
                    generalize w5.alloc (.cells (rnC p).toArray 114) = w6 at *
                    have own6 := ownw5.below c6
                    have hl := HLM.out
                    have hkk := HKK.out
                    obtain ⟨g7, cap7, e7, _, w7, est7, own7, t7, z7⟩ := own_setN own6 hokM (i := kk) (by rw [hl]; exact hk1.1) hzo
                    simp only [Value.slice.injEq, Option.some.injEq, Addr.mk.injEq] at e7
                    obtain ⟨⟨rfl, e71⟩, e72⟩ := e7
                    clear e71 e72
                    have hok7 : ∀ y ∈ (A2.concat z ++ p :: B).set kk z, RnOk y := fun y hy => by
                      rcases List.mem_or_eq_of_mem_set hy with hy | rfl
                      · exact hokM y hy
                      · exact hzo
                    obtain ⟨g8, cap8, e8, _, w8, est8, own8, t8, z8⟩ := own_setN own7 hok7 (i := m) (by rw [List.length_set, hl]; exact hk1.2.1) hpo
                    simp only [Value.slice.injEq, Option.some.injEq, Addr.mk.injEq] at e8
                    obtain ⟨⟨rfl, e81⟩, e82⟩ := e8
                    clear e81 e82
                    rw [hkk.2.1, set_swap hkk.2.2] at own8
                    have lg5 : g < w5.heap.size := Nat.lt_of_lt_of_le lg hw5.size
                    have bel6 := bel5.trans (c6.mono bel5.size)
                    have bel7 : Below W.heap.size W w7 := bel6.trans (t7.below bel6.size (fun j hj => (own6.ge j hj).1))
                    have bel8 : Below W.heap.size W w8 := bel7.trans (t8.below bel7.size (fun j hj => (own7.ge j hj).1))
                    have hb7 : RnAt w7 w5.heap.size p := (t7.block _ (Array.getElem?_eq_some_iff.1 hb6).1 (fun e => by simp [Value.ownBlock] at e; omega)).trans hb6
                    have LK := hidMk (load_rn_at hpo (rangeAt_keep rk (hw5.block _ lg)))
                    have LM := hidMk (load_rn_at hzo (rangeAt_keep rm ((hw5.trans (c6.mono hw5.size)).block _ lg)))
                    have LB := hidMk (load_rn_at hpo hb7.range)
                    have EA6 := hidMk ea6
                    have ES6 := hidMk es6
                    have EST7 := hidMk est7
                    have hm1 : m = kk - 1 := by omega
                    have EST8 : Hid ((Instr.storeAt 114 (.pointer (some ⟨g, (kk - 1) * 68, none⟩)) (.agg (rnC p).toArray)).run Try.prog w7 = .ok () w8) := by rw [← hm1]; exact est8
                    rw [hm1] at LM
                    clear hm1
                    have HO8 := hidMk own8
                    have hB8 : ∀ y ∈ z :: B, ltN p y := fun y hy => by
                      rcases List.mem_cons.1 hy with rfl | hy
                      · exact hlt
                      · exact hB y hy
                    have hA8 : A2 ++ z :: B = L := by rw [← HAB.out]; simp
                    have HA8 := hidMk hA8
                    have HKM := hidMk hkk.2.2
                    have HKM1 := hidMk hkk.2.1
                    have hkl := hk1
                    clear ea6 es6 est7 est8 own8 own7 own6 t7 t8 z7 z8 hl hkk hA8 hok7 ownw5 c6 rk rm HRM HLM HOQ HFIN
                    go_wp2_with (first
                      | (refine wpList_val rfl (exec_load (t := 114) (u := .pointer (some ⟨g, kk * 68, none⟩)) rfl rfl LK.out) ?_)
                      | (refine wpList_run rfl (exec_alloc (t := 114) rfl EA6.out) ?_)
                      | (refine wpList_skip rfl rfl (exec_store (t := 114) (xv := .pointer (some ⟨w5.heap.size, 0, none⟩)) (yv := .agg (rnC p).toArray) rfl rfl rfl ES6.out) ?_)
                      | (refine wpList_val rfl (exec_load (t := 114) (u := .pointer (some ⟨g, (kk - 1) * 68, none⟩)) rfl rfl LM.out) ?_)
                      | (refine wpList_skip rfl rfl (exec_store (t := 114) (xv := .pointer (some ⟨g, kk * 68, none⟩)) (yv := .agg (rnC z).toArray) rfl rfl rfl EST7.out) ?_)
                      | (refine wpList_val rfl (exec_load (t := 114) (u := .pointer (some ⟨w5.heap.size, 0, none⟩)) rfl rfl LB.out) ?_)
                      | (refine wpList_skip rfl rfl (exec_store (t := 114) (xv := .pointer (some ⟨g, (kk - 1) * 68, none⟩)) (yv := .agg (rnC p).toArray) rfl rfl rfl EST8.out) ?_)
                      | fail)
                    refine ⟨⟨A2, z :: B, by rw [HKM.out]; congr 1; have := HKM1.out; omega, HO8.out, HA8.out, hB8, bel8⟩, ?_⟩
                    have hkm1 := HKM1.out
                    have hkk0 := HKK0.out
                    simp only []
                    rw [hkk0]
                    omega
                  · rw [decide_eq_false hlt]
                    have own5 := hidMk (HFIN.out (Or.inr ⟨A2, z, by simp, hlt⟩) w5 ownw5 bel5)
                    clear ownw5 HFIN
                    go_wp2
                    rw [show ((i : Int) + 1) = ((i + 1 : Nat) : Int) by omega]
                    refine ⟨own5.out, ?_⟩
                    show n - ((i + 1 : Nat) : Int).toNat < n - (i : Int).toNat
                    omega
            · have hnx2 : selN k (NL.take (i + 1)) = selN k (NL.take i) := by rw [hnx]; simp [selN, hp, hu]
              have HNX := hidMk hnx2
              rw [decide_eq_false hu]
              simp only [Bool.not_false]
              clear hnx hnx2
              go_wp2
              rw [show ((i : Int) + 1) = ((i + 1 : Nat) : Int) by omega]
              refine ⟨⟨i + 1, L, rfl, hi, own'.out, by rw [HNX.out]; exact HPE.out, HSR.out, bel'⟩, ?_⟩
              show n - ((i + 1 : Nat) : Int).toNat < n - (i : Int).toNat
              omega
        · obtain rfl : i = n := by omega
          rw [List.take_of_length_le (by omega)] at hper
          obtain ⟨a5, c5, rfl, hra, _⟩ := own.open hokL
          have HKI := hidMk (kids_sel h.nd h.ok hper hsrt)
          obtain ⟨ln, hln⟩ : ∃ ln, L.length = ln := ⟨_, rfl⟩
          rw [hln]
          have HLN := hidMk hln
          have hlb : ln ≤ 1300000000000 := by omega
          have bel0 := bw _ belW
          have own9 : OwnI wr wr.heap.size (.slice none 0 0) [] := ⟨rfl, Or.inl ⟨rfl, rfl⟩⟩
          clear own hper hsrt hmemL hLl hln hN
          generalize wr = wx at *
          go_wp2
          clear c0
          go_loopw [9, 10] (fun v9 v10 wq => ∃ j : Nat, v10 = .int .i64 (j : Int) ∧ j ≤ ln ∧ OwnI wq wx.heap.size v9 ((L.take j).map (·.1)) ∧ Below wx.heap.size wx wq) (fun v9 v10 wq => ln - (match v10 with | .int _ z => z.toNat | _ => 0))
          case atStart => exact ⟨0, rfl, Nat.zero_le _, own9, Below.refl _ _⟩
          case round =>
            clear own9
            obtain ⟨j, rfl, hjn, own, belx⟩ := hrel
            have hLn := HLN.out
            by_cases hj : j < ln
            · have hxj : L[j]? = some L[j] := List.getElem?_eq_getElem (by omega)
              generalize L[j] = q at hxj
              have hqo := hokL q (List.mem_of_getElem? hxj)
              obtain ⟨gb, go, rfl, lgb, hrq⟩ : ∃ gb go, a5 = some ⟨gb, go, none⟩ ∧ gb < wx.heap.size ∧ wx.rangeAt gb (go + j * 68) (rnC q) := by
                rcases hra with e | ⟨b, o, e, h1, h2⟩
                · rw [e] at hxj; simp at hxj
                · exact ⟨b, o, e, h1, by rw [Nat.mul_comm]; exact h2 j q hxj⟩
              have LQ0 := rn_id hqo (rangeAt_keep hrq (belx.block _ lgb))
              rw [Nat.add_zero] at LQ0
              have LQ := hidMk LQ0
              have EBS : Hid ((Instr.buildSlice 41 1 #[(0, q.1.v)]).run Try.prog wr = .ok (.slice (some ⟨wr.heap.size, 0, none⟩) 1 1) (wr.alloc (.cells q.1.c.toArray 37))) := run_bsI q.1 hqo.k wr
              have hlit := ids_lit wr q.1 37
              have bb : Below wr.heap.size wr (wr.alloc (.cells q.1.c.toArray 37)) := (Below.refl _ _).alloc (Nat.le_refl _) _
              generalize wr.alloc (.cells q.1.c.toArray 37) = w3 at *
              have own3 := own.below bb
              have bel3 : Below wx.heap.size wx w3 := belx.trans (bb.mono belx.size)
              have htl : ((L.take j).map (·.1)).length = j := by simp; omega
              obtain ⟨v9', w4, eap, own4, g4, _⟩ := run_appI w3 wx.heap.size u9 ((L.take j).map (·.1)) (some ⟨wr.heap.size, 0, none⟩) [q.1] 1 own3 hlit (by simpa using hqo.k) (by rw [htl]; simp only [List.length_cons, List.length_nil]; omega) bel3.size
              have EAP : Hid ((Builtin.append_ #[41, 41] 41 #[u9, .slice (some ⟨wr.heap.size, 0, none⟩) 1 1]).run Try.prog w3 = .ok v9' w4) := eap
              have bel4 : Below wx.heap.size wx w4 := bel3.trans (below_grown own3 bel3.size g4)
              have hnext : (L.take j).map (·.1) ++ [q.1] = (L.take (j + 1)).map (·.1) := by rw [List.take_add_one, hxj]; simp
              rw [hnext] at own4
              have HO4 := hidMk own4
              clear eap own4 g4 own3 hlit hnext htl hxj hrq LQ0 own hLn bb
              go_wp2_with (first
                | (refine wpList_val rfl (exec_load (t := 37) (u := .pointer (some ⟨gb, go + j * 68, none⟩)) rfl rfl LQ.out) ?_)
                | (refine wpList_run rfl (exec_buildSlice (t := 41) (n := 1) (xv := q.1.v) (v := .slice (some ⟨wr.heap.size, 0, none⟩) 1 1) rfl rfl EBS.out) ?_)
                | (refine wpList_run rfl (exec_append (xv := u9) (yv := .slice (some ⟨wr.heap.size, 0, none⟩) 1 1) (v := v9') rfl rfl rfl EAP.out) ?_)
                | fail)
              rw [show ((j : Int) + 1) = ((j + 1 : Nat) : Int) by omega]
              refine ⟨⟨j + 1, rfl, hj, HO4.out, bel4⟩, ?_⟩
              show ln - ((j + 1 : Nat) : Int).toNat < ln - (j : Int).toNat
              omega
            · obtain rfl : j = ln := by omega
              rw [List.take_of_length_le (by omega)] at own
              have HO := hidMk own
              clear own hLn hjn hj
              go_wp2
              go_ret
              exact ⟨_, _, rfl, HO.out.base (Nat.le_trans bel0.size (Nat.le_refl _)), HKI.out, bel0.trans (belx.mono bel0.size)⟩
    · by_cases hz : k = zId
      · exact absurd (by rw [hz] at hin; rw [hf.zero] at hin; exact hin : (none : Option NodeV).isSome = true) (by simp)
      · have hq : ∀ V : World, (binOp .neq 37 k.v zId.v).run Try.prog V = .ok (.bool true) V := fun V => by rw [neq_id k zId hk zId_ok, decide_eq_false hz]; rfl
        rw [hin] at HH
        clear hin hz
        go_upto_region 4 with (first
          | (refine wpList_val rfl (exec_load (t := 37) (u := .pointer (some ⟨w.heap.size, 0, none⟩)) rfl rfl (HL.out _ (Below.refl _ _))) ?_)
          | (refine wpList_val rfl (exec_build0 rfl (build_id _)) ?_)
          | (refine wpList_val rfl (exec_binOp (xv := k.v) (yv := zId.v) rfl rfl rfl (guard_id _ _ k zId _ _) (hq _)) ?_)
          | (go_at_call 74; refine (HH.out _ bx).mono ?_; rintro e w1 ⟨rfl, b1⟩)
          | fail)
        clear hq
        go_wp2
        go_loopw [5, 6] (fun v5 v6 wr => ∃ (i : Nat) (L : List RN), v6 = .int .i64 (i : Int) ∧ i ≤ n ∧ OwnN wr W.heap.size v5 L ∧ L.Perm (selN k (NL.take i)) ∧ Srt L ∧ Below W.heap.size W wr) (fun v5 v6 wr => n - (match v6 with | .int _ i => i.toNat | _ => 0))
        case atStart => exact ⟨0, [], rfl, Nat.zero_le _, own0 _, List.Perm.refl _, List.Pairwise.nil, b1⟩
        case round =>
          clear b1
          obtain ⟨i, L, rfl, hin, own, hper, hsrt, belW⟩ := hrel
          have bw : ∀ V, Below W.heap.size W V → Below w.heap.size w V := fun V b => bx.trans (b.mono bx.size)
          have c0 := HC.out wr (bw _ belW)
          have hN := HNn.out
          have hmemL : ∀ y ∈ L, y ∈ NL.take i := fun y hy => by have := hper.mem_iff.1 hy; unfold selN at this; exact (List.mem_filter.1 this).1
          have hokL : ∀ y ∈ L, RnOk y := fun y hy => h.ok y (List.mem_of_mem_take (hmemL y hy))
          have hLl : L.length ≤ n := by
            have h1 := hper.length_eq
            have h2 : (selN k (NL.take i)).length ≤ (NL.take i).length := List.length_filter_le _ _
            rw [List.length_take] at h2
            omega
          by_cases hi : i < n
          · have hxi : NL[i]? = some NL[i] := List.getElem?_eq_getElem (by omega)
            generalize NL[i] = p at hxi
            have hpo := h.ok p (List.mem_of_getElem? hxi)
            obtain ⟨b, o, rfl, lb, hr⟩ : ∃ b o, a = some ⟨b, o, none⟩ ∧ b < w.heap.size ∧ w.rangeAt b (o + i * 68) (rnC p) := by
              rcases HROW.out with e | ⟨b, o, e, h1, h2⟩
              · rw [e] at hxi; simp at hxi
              · exact ⟨b, o, e, h1, h2 i p hxi⟩
            have HR := hidMk (fun (V : World) (bb : Below W.heap.size W V) => rangeAt_keep hr ((bw V bb).block _ lb))
            have hnx := sel_next k hxi
            have HXI := hidMk hxi
            have HOW := hidMk own
            have HPE := hidMk hper
            have HSR := hidMk hsrt
            have HML := hidMk hmemL
            clear hxi own hper hsrt hmemL hr hN
            go_upto_region 7 with fail
            clear c0
            have beld : Below wr.heap.size wr wr.drew := (Below.refl _ _).drew
            have bwr : ∀ V, Below wr.heap.size wr V → Below W.heap.size W V := fun V b => belW.trans (b.mono belW.size)
            cases hp : p.2.pr with
            | true =>
              have hnx2 : selN k (NL.take (i + 1)) = selN k (NL.take i) := by rw [hnx]; simp [selN, hp]
              have HNX := hidMk hnx2
              clear hnx hnx2
              refine rkids7p d w.heap.size b o n c i (fun V => Below wr.heap.size wr V) _ wr _ rfl rfl rfl rfl beld (fun V hV => load_ns (HC.out V (bw V (bwr V hV)))) (fun V => ix_rn hi (by omega) V) (fun V hV => by rw [← hp]; exact rn_pr hpo (HR.out V (bwr V hV))) ?_
              intro a' w' hw' ha
              subst ha
              simp only [Act.put, List.setIfInBounds_toArray, List.set_cons_zero, List.set_cons_succ]
              have own' : Hid (OwnN w' W.heap.size u5 L) := HOW.out.below hw'
              have bel' := bwr _ hw'
              go_wp2
              rw [show ((i : Int) + 1) = ((i + 1 : Nat) : Int) by omega]
              refine ⟨⟨i + 1, L, rfl, hi, own'.out, by rw [HNX.out]; exact HPE.out, HSR.out, bel'⟩, ?_⟩
              show n - ((i + 1 : Nat) : Int).toNat < n - (i : Int).toNat
              omega
            | false =>
              refine rkids7u d w.heap.size b o n c i (fun V => Below wr.heap.size wr V) p.2.u.v k.v (!decide (p.2.u = k)) _ wr _ rfl rfl rfl rfl beld (fun V hV => load_ns (HC.out V (bw V (bwr V hV)))) (fun V => ix_rn hi (by omega) V) (fun V hV => by rw [← hp]; exact rn_pr hpo (HR.out V (bwr V hV))) (fun V hV => rn_under hpo (HR.out V (bwr V hV))) (fun V hV => HL.out V (bwr V hV)) (fun V => guard_id _ _ p.2.u k V _) (fun V hV => neq_id p.2.u k hpo.u hk V) ?_
              intro a' w' hw' ha
              subst ha
              simp only [Act.put, List.setIfInBounds_toArray, List.set_cons_zero, List.set_cons_succ]
              have own' : Hid (OwnN w' W.heap.size u5 L) := HOW.out.below hw'
              have bel' := bwr _ hw'
              by_cases hu : p.2.u = k
              · have hnx2 : selN k (NL.take (i + 1)) = selN k (NL.take i) ++ [p] := by rw [hnx]; simp [selN, hp, hu]
                have HNX := hidMk hnx2
                rw [decide_eq_true hu]
                simp only [Bool.not_true]
                have hneL : ∀ y ∈ L, y.1 ≠ p.1 := fun y hy e => by
                  have h1 := HML.out y hy
                  have hnd := h.nd
                  obtain ⟨j, hj⟩ := List.getElem?_of_mem h1
                  have hjl : j < i := by have := (List.getElem?_eq_some_iff.1 hj).1; rw [List.length_take] at this; omega
                  rw [List.getElem?_take, if_pos hjl] at hj
                  have e1 : (NL.map (·.1))[j]? = some y.1 := by rw [List.getElem?_map, hj]; rfl
                  have e2 : (NL.map (·.1))[i]? = some p.1 := by rw [List.getElem?_map, HXI.out]; rfl
                  have l2 : i < (NL.map (·.1)).length := by simp; have := HNn.out; omega
                  have l1 : j < (NL.map (·.1)).length := by omega
                  rw [List.getElem?_eq_getElem l1] at e1
                  rw [List.getElem?_eq_getElem l2] at e2
                  exact (List.pairwise_iff_getElem.1 hnd j i l1 l2 hjl) (by rw [Option.some.inj e1, Option.some.inj e2, e])
                have HNE := hidMk hneL
                clear hnx hnx2 hneL
                have cN := HC.out w' (bw _ bel')
                have LP := hidMk (load_rn_at hpo (HR.out w' bel'))
                have EBS : Hid ((Instr.buildSlice 83 1 #[(0, .agg (rnC p).toArray)]).run Try.prog w' = .ok (.slice (some ⟨w'.heap.size, 0, none⟩) 1 1) (w'.alloc (.cells (rnC p).toArray 114))) := run_bsN p hpo w'
                have hlit := rns_lit w' p 114
                have bb : Below w'.heap.size w' (w'.alloc (.cells (rnC p).toArray 114)) := (Below.refl _ _).alloc (Nat.le_refl _) _
                generalize w'.alloc (.cells (rnC p).toArray 114) = w3 at *
                have own3 := own'.out.below bb
                have bel3 : Below W.heap.size W w3 := bel'.trans (bb.mono bel'.size)
                obtain ⟨v5', w4, eap, own4, g4, _⟩ := run_appN w3 W.heap.size u5 L (some ⟨w'.heap.size, 0, none⟩) [p] 1 own3 hlit (by simpa using hpo) (by simp only [List.length_cons, List.length_nil]; omega) bel3.size
                have EAP : Hid ((Builtin.append_ #[83, 83] 83 #[u5, .slice (some ⟨w'.heap.size, 0, none⟩) 1 1]).run Try.prog w3 = .ok v5' w4) := eap
                have bel4 : Below W.heap.size W w4 := bel3.trans ⟨g4.os, g4.tape, g4.output, g4.size, fun j hj => g4.block j (Nat.lt_of_lt_of_le hj bel3.size) (fun e => by have := (own3.ge j e.symm).1; omega)⟩
                obtain ⟨ln, hln⟩ : ∃ ln, L.length = ln := ⟨_, rfl⟩
                obtain ⟨g, cap, rfl⟩ : ∃ g cap, v5' = .slice (some ⟨g, 0, none⟩) (ln + 1) cap := by
                  rcases own4.2 with ⟨_, e⟩ | ⟨g', cap', cur, e, _⟩
                  · simp at e
                  · exact ⟨g', cap', by rw [e]; simp [hln]⟩
                have HLN := hidMk hln
                have hlnn : ln ≤ n := by omega
                have HOW4 := hidMk own4
                obtain ⟨ln1, hln1⟩ : ∃ ln1, ln + 1 = ln1 := ⟨_, rfl⟩
                rw [hln1] at HOW4 EAP
                have hsubL : wrap64 ((ln1 : Int) - 1) = (ln : Int) := by unfold wrap64; omega
                have HLN1 := hidMk hln1
                have hl1n : ln < ln1 ∧ ln1 ≤ 1300000000001 := by omega
                clear eap own4 g4 own3 hlit hln hln1 bb
                go_upto_region 9 with (first
                  | (refine wpList_val rfl (exec_load (t := 114) (u := .pointer (some ⟨b, o + i * 68, none⟩)) rfl rfl LP.out) ?_)
                  | (refine wpList_run rfl (exec_buildSlice (t := 83) (n := 1) (xv := .agg (rnC p).toArray) (v := .slice (some ⟨w'.heap.size, 0, none⟩) 1 1) rfl rfl EBS.out) ?_)
                  | (refine wpList_run rfl (exec_append (xv := u5) (yv := .slice (some ⟨w'.heap.size, 0, none⟩) 1 1) (v := .slice (some ⟨g, 0, none⟩) ln1 cap) rfl rfl rfl EAP.out) ?_)
                  | fail)
                go_wp2
                have lg4 : g < w4.heap.size ∧ W.heap.size ≤ g := by
                  obtain ⟨h1, q, hq⟩ := HOW4.out.ge g rfl
                  exact ⟨(Array.getElem?_eq_some_iff.1 hq).1, h1⟩
                go_loopw [7] (fun v7 wq => ∃ (A B : List RN), v7 = .int .i64 (A.length : Int) ∧ OwnN wq W.heap.size (.slice (some ⟨g, 0, none⟩) ln1 cap) (A ++ p :: B) ∧ A ++ B = L ∧ (∀ y ∈ B, ltN p y) ∧ Below W.heap.size W wq) (fun v7 wq => match v7 with | .int _ z => z.toNat | _ => 0)
                case atStart =>
                  refine ⟨L, [], by rw [HLN.out]; congr 1; have := HLN1.out; omega, HOW4.out, by simp, fun y hy => (by cases hy), bel4⟩
                case round =>
                  clear EBS EAP LP cN lg4
                  obtain ⟨A, B, rfl, ownq, hAB, hB, belq⟩ := hrel
                  have hokAB : ∀ y ∈ A ++ B, RnOk y := fun y hy => hokL y (by rw [← hAB]; exact hy)
                  have hokM : ∀ y ∈ A ++ p :: B, RnOk y := fun y hy => by
                    rcases List.mem_append.1 hy with hy | hy
                    · exact hokAB y (by simp [hy])
                    · rcases List.mem_cons.1 hy with rfl | hy
                      · exact hpo
                      · exact hokAB y (by simp [hy])
                  obtain ⟨hlenM, hrngM⟩ := own_getN ownq hokM
                  have HRM := hidMk hrngM
                  have HLM := hidMk hlenM
                  have HAB := hidMk hAB
                  have HOQ := hidMk ownq
                  have hneA : ∀ y ∈ A, y.1 ≠ p.1 := fun y hy => HNE.out y (by rw [← hAB]; simp [hy])
                  have fin : ∀ (A' : List RN), A' = A → (A = [] ∨ ∃ A'' z, A = A'' ++ [z] ∧ ¬ ltN p z) → ∀ V, OwnN V W.heap.size (.slice (some ⟨g, 0, none⟩) ln1 cap) (A ++ p :: B) → Below W.heap.size W V →
                      ∃ (i' : Nat) (L' : List RN), Value.int IntKind.i64 ((i + 1 : Nat) : Int) = .int .i64 (i' : Int) ∧ i' ≤ n ∧ OwnN V W.heap.size (.slice (some ⟨g, 0, none⟩) ln1 cap) L' ∧ L'.Perm (selN k (NL.take i')) ∧ Srt L' ∧ Below W.heap.size W V := fun A' _ hcase V hV bV => by
                    refine ⟨i + 1, A ++ p :: B, rfl, hi, hV, ?_, ?_, bV⟩
                    · rw [HNX.out]
                      refine List.perm_middle.trans ?_
                      rw [HAB.out]
                      refine (List.Perm.cons p HPE.out).trans ?_
                      exact (List.perm_append_singleton p _).symm
                    · exact ins_sorted hokAB hpo (by rw [HAB.out]; exact HSR.out) hB hneA hcase
                  have HFIN := hidMk (fin A rfl)
                  clear fin hrngM hlenM hAB ownq
                  have beldq : Below wr.heap.size wr wr.drew := (Below.refl _ _).drew
                  have bwq : ∀ V, Below wr.heap.size wr V → Below W.heap.size W V := fun V b => belq.trans (b.mono belq.size)
                  go_upto_region 10 with fail
                  rcases List.eq_nil_or_concat A with rfl | ⟨A2, z, hA2⟩
                  · refine rkids10z (.slice (some ⟨g, 0, none⟩) ln1 cap) (fun V => Below wr.heap.size wr V) _ wr _ rfl rfl rfl beldq (fun V => by go_simp) (fun V hV => by go_simp) ?_
                    intro a' w5 hw5 ha
                    subst ha
                    simp only [Act.put, List.setIfInBounds_toArray, List.set_cons_zero, List.set_cons_succ]
                    have bel5 := bwq _ hw5
                    have own5 := hidMk (HFIN.out (Or.inl rfl) w5 (HOQ.out.below hw5) bel5)
                    go_wp2
                    rw [show ((i : Int) + 1) = ((i + 1 : Nat) : Int) by omega]
                    refine ⟨own5.out, ?_⟩
                    show n - ((i + 1 : Nat) : Int).toNat < n - (i : Int).toNat
                    omega
                  · subst hA2
                    obtain ⟨m, hm⟩ : ∃ m, A2.length = m := ⟨_, rfl⟩
                    obtain ⟨kk, hkk⟩ : ∃ kk, (A2.concat z).length = kk := ⟨_, rfl⟩
                    have hkm : kk = m + 1 := by rw [← hkk, List.length_concat, hm]
                    rw [hkk]
                    have HKK0 := hidMk hkk
                    have hcat : A2.concat z = A2 ++ [z] := by simp
                    have hzo : RnOk z := hokAB z (by simp)
                    have hl := HLM.out
                    rw [List.length_append, hkk, List.length_cons] at hl
                    have hxk : (A2.concat z ++ p :: B)[kk]? = some p := by rw [List.getElem?_append_right (by omega), hkk]; simp
                    have hzk : (A2.concat z ++ p :: B)[m]? = some z := by rw [List.getElem?_append_left (by omega), hcat, List.getElem?_append_right (by omega), hm]; simp
                    have rk := HRM.out kk p hxk
                    have rm := HRM.out m z hzk
                    have lg : g < wr.heap.size := by obtain ⟨_, q, hq⟩ := HOQ.out.ge g rfl; exact (Array.getElem?_eq_some_iff.1 hq).1
                    have HKK := hidMk (And.intro hkk (And.intro hkm hm))
                    have hk1 : kk < ln1 ∧ m < ln1 ∧ 0 < kk := by omega
                    have hsubk : wrap64 ((kk : Int) - 1) = (m : Int) := by unfold wrap64; omega
                    clear hxk hzk hl hkk hkm hm hcat
                    refine rkids10 g ln1 cap kk m (.agg (rnC p).toArray) (.agg (rnC z).toArray) (decide (cKid (kOf p) (kOf z) < 0)) (fun V => Below wr.heap.size wr V) _ wr _ rfl rfl rfl beldq (fun V V' h1 h2 => h1.trans (h2.mono h1.size)) (fun V hV => ahead_any p z V hpo hzo) ?_ ?_ ?_ ?_ ?_ ?_ ?_ ?_ ?_
                    · exact fun V => by go_simp
                    · exact fun V hV => gtr0 hk1.2.2 V
                    · exact fun V => ix_rn0 hk1.1 (by omega) V
                    · exact fun V hV => load_rn_at hpo (rangeAt_keep rk (hV.block _ lg))
                    · exact fun V => by go_simp
                    · exact fun V hV => sub1 hsubk V
                    · exact fun V => ix_rn0 hk1.2.1 (by omega) V
                    · exact fun V hV => load_rn_at hzo (rangeAt_keep rm (hV.block _ lg))
                    intro a' w5 hw5 ha
                    subst ha
                    simp only [Act.put, List.setIfInBounds_toArray, List.set_cons_zero, List.set_cons_succ]
                    have bel5 := bwq _ hw5
                    have ownw5 := HOQ.out.below hw5
                    by_cases hlt : cKid (kOf p) (kOf z) < 0
                    · rw [decide_eq_true hlt]
                      obtain ⟨x6, ea6, es6⟩ := rn_new w5 p hpo
                      have c6 : Below w5.heap.size w5 (w5.alloc (.cells (rnC p).toArray 114)) := (Below.refl _ _).alloc (Nat.le_refl _) _
                      have hb6 : RnAt (w5.alloc (.cells (rnC p).toArray 114)) w5.heap.size p := heap_alloc_new _ _
                      generalize w5.alloc (.cells (rnC p).toArray 114) = w6 at *
                      have own6 := ownw5.below c6
                      have hl := HLM.out
                      have hkk := HKK.out
                      obtain ⟨g7, cap7, e7, _, w7, est7, own7, t7, z7⟩ := own_setN own6 hokM (i := kk) (by rw [hl]; exact hk1.1) hzo
                      simp only [Value.slice.injEq, Option.some.injEq, Addr.mk.injEq] at e7
                      obtain ⟨⟨rfl, e71⟩, e72⟩ := e7
                      clear e71 e72
                      have hok7 : ∀ y ∈ (A2.concat z ++ p :: B).set kk z, RnOk y := fun y hy => by
                        rcases List.mem_or_eq_of_mem_set hy with hy | rfl
                        · exact hokM y hy
                        · exact hzo
                      obtain ⟨g8, cap8, e8, _, w8, est8, own8, t8, z8⟩ := own_setN own7 hok7 (i := m) (by rw [List.length_set, hl]; exact hk1.2.1) hpo
                      simp only [Value.slice.injEq, Option.some.injEq, Addr.mk.injEq] at e8
                      obtain ⟨⟨rfl, e81⟩, e82⟩ := e8
                      clear e81 e82
                      rw [hkk.2.1, set_swap hkk.2.2] at own8
                      have lg5 : g < w5.heap.size := Nat.lt_of_lt_of_le lg hw5.size
                      have bel6 := bel5.trans (c6.mono bel5.size)
                      have bel7 : Below W.heap.size W w7 := bel6.trans (t7.below bel6.size (fun j hj => (own6.ge j hj).1))
                      have bel8 : Below W.heap.size W w8 := bel7.trans (t8.below bel7.size (fun j hj => (own7.ge j hj).1))
                      have hb7 : RnAt w7 w5.heap.size p := (t7.block _ (Array.getElem?_eq_some_iff.1 hb6).1 (fun e => by simp [Value.ownBlock] at e; omega)).trans hb6
                      have LK := hidMk (load_rn_at hpo (rangeAt_keep rk (hw5.block _ lg)))
                      have LM := hidMk (load_rn_at hzo (rangeAt_keep rm ((hw5.trans (c6.mono hw5.size)).block _ lg)))
                      have LB := hidMk (load_rn_at hpo hb7.range)
                      have EA6 := hidMk ea6
                      have ES6 := hidMk es6
                      have EST7 := hidMk est7
                      have hm1 : m = kk - 1 := by omega
                      have EST8 : Hid ((Instr.storeAt 114 (.pointer (some ⟨g, (kk - 1) * 68, none⟩)) (.agg (rnC p).toArray)).run Try.prog w7 = .ok () w8) := by rw [← hm1]; exact est8
                      rw [hm1] at LM
                      clear hm1
                      have HO8 := hidMk own8
                      have hB8 : ∀ y ∈ z :: B, ltN p y := fun y hy => by
                        rcases List.mem_cons.1 hy with rfl | hy
                        · exact hlt
                        · exact hB y hy
                      have hA8 : A2 ++ z :: B = L := by rw [← HAB.out]; simp
                      have HA8 := hidMk hA8
                      have HKM := hidMk hkk.2.2
                      have HKM1 := hidMk hkk.2.1
                      have hkl := hk1
                      clear ea6 es6 est7 est8 own8 own7 own6 t7 t8 z7 z8 hl hkk hA8 hok7 ownw5 c6 rk rm HRM HLM HOQ HFIN
                      go_wp2_with (first
                        | (refine wpList_val rfl (exec_load (t := 114) (u := .pointer (some ⟨g, kk * 68, none⟩)) rfl rfl LK.out) ?_)
                        | (refine wpList_run rfl (exec_alloc (t := 114) rfl EA6.out) ?_)
                        | (refine wpList_skip rfl rfl (exec_store (t := 114) (xv := .pointer (some ⟨w5.heap.size, 0, none⟩)) (yv := .agg (rnC p).toArray) rfl rfl rfl ES6.out) ?_)
                        | (refine wpList_val rfl (exec_load (t := 114) (u := .pointer (some ⟨g, (kk - 1) * 68, none⟩)) rfl rfl LM.out) ?_)
                        | (refine wpList_skip rfl rfl (exec_store (t := 114) (xv := .pointer (some ⟨g, kk * 68, none⟩)) (yv := .agg (rnC z).toArray) rfl rfl rfl EST7.out) ?_)
                        | (refine wpList_val rfl (exec_load (t := 114) (u := .pointer (some ⟨w5.heap.size, 0, none⟩)) rfl rfl LB.out) ?_)
                        | (refine wpList_skip rfl rfl (exec_store (t := 114) (xv := .pointer (some ⟨g, (kk - 1) * 68, none⟩)) (yv := .agg (rnC p).toArray) rfl rfl rfl EST8.out) ?_)
                        | fail)
                      refine ⟨⟨A2, z :: B, by rw [HKM.out]; congr 1; have := HKM1.out; omega, HO8.out, HA8.out, hB8, bel8⟩, ?_⟩
                      have hkm1 := HKM1.out
                      have hkk0 := HKK0.out
                      simp only []
                      rw [hkk0]
                      omega
                    · rw [decide_eq_false hlt]
                      have own5 := hidMk (HFIN.out (Or.inr ⟨A2, z, by simp, hlt⟩) w5 ownw5 bel5)
                      clear ownw5 HFIN
                      go_wp2
                      rw [show ((i : Int) + 1) = ((i + 1 : Nat) : Int) by omega]
                      refine ⟨own5.out, ?_⟩
                      show n - ((i + 1 : Nat) : Int).toNat < n - (i : Int).toNat
                      omega
              · have hnx2 : selN k (NL.take (i + 1)) = selN k (NL.take i) := by rw [hnx]; simp [selN, hp, hu]
                have HNX := hidMk hnx2
                rw [decide_eq_false hu]
                simp only [Bool.not_false]
                clear hnx hnx2
                go_wp2
                rw [show ((i : Int) + 1) = ((i + 1 : Nat) : Int) by omega]
                refine ⟨⟨i + 1, L, rfl, hi, own'.out, by rw [HNX.out]; exact HPE.out, HSR.out, bel'⟩, ?_⟩
                show n - ((i + 1 : Nat) : Int).toNat < n - (i : Int).toNat
                omega
          · obtain rfl : i = n := by omega
            rw [List.take_of_length_le (by omega)] at hper
            obtain ⟨a5, c5, rfl, hra, _⟩ := own.open hokL
            have HKI := hidMk (kids_sel h.nd h.ok hper hsrt)
            obtain ⟨ln, hln⟩ : ∃ ln, L.length = ln := ⟨_, rfl⟩
            rw [hln]
            have HLN := hidMk hln
            have hlb : ln ≤ 1300000000000 := by omega
            have bel0 := bw _ belW
            have own9 : OwnI wr wr.heap.size (.slice none 0 0) [] := ⟨rfl, Or.inl ⟨rfl, rfl⟩⟩
            clear own hper hsrt hmemL hLl hln hN
            generalize wr = wx at *
            go_wp2
            clear c0
            go_loopw [9, 10] (fun v9 v10 wq => ∃ j : Nat, v10 = .int .i64 (j : Int) ∧ j ≤ ln ∧ OwnI wq wx.heap.size v9 ((L.take j).map (·.1)) ∧ Below wx.heap.size wx wq) (fun v9 v10 wq => ln - (match v10 with | .int _ z => z.toNat | _ => 0))
            case atStart => exact ⟨0, rfl, Nat.zero_le _, own9, Below.refl _ _⟩
            case round =>
              clear own9
              obtain ⟨j, rfl, hjn, own, belx⟩ := hrel
              have hLn := HLN.out
              by_cases hj : j < ln
              · have hxj : L[j]? = some L[j] := List.getElem?_eq_getElem (by omega)
                generalize L[j] = q at hxj
                have hqo := hokL q (List.mem_of_getElem? hxj)
                obtain ⟨gb, go, rfl, lgb, hrq⟩ : ∃ gb go, a5 = some ⟨gb, go, none⟩ ∧ gb < wx.heap.size ∧ wx.rangeAt gb (go + j * 68) (rnC q) := by
                  rcases hra with e | ⟨b, o, e, h1, h2⟩
                  · rw [e] at hxj; simp at hxj
                  · exact ⟨b, o, e, h1, by rw [Nat.mul_comm]; exact h2 j q hxj⟩
                have LQ0 := rn_id hqo (rangeAt_keep hrq (belx.block _ lgb))
                rw [Nat.add_zero] at LQ0
                have LQ := hidMk LQ0
                have EBS : Hid ((Instr.buildSlice 41 1 #[(0, q.1.v)]).run Try.prog wr = .ok (.slice (some ⟨wr.heap.size, 0, none⟩) 1 1) (wr.alloc (.cells q.1.c.toArray 37))) := run_bsI q.1 hqo.k wr
                have hlit := ids_lit wr q.1 37
                have bb : Below wr.heap.size wr (wr.alloc (.cells q.1.c.toArray 37)) := (Below.refl _ _).alloc (Nat.le_refl _) _
                generalize wr.alloc (.cells q.1.c.toArray 37) = w3 at *
                have own3 := own.below bb
                have bel3 : Below wx.heap.size wx w3 := belx.trans (bb.mono belx.size)
                have htl : ((L.take j).map (·.1)).length = j := by simp; omega
                obtain ⟨v9', w4, eap, own4, g4, _⟩ := run_appI w3 wx.heap.size u9 ((L.take j).map (·.1)) (some ⟨wr.heap.size, 0, none⟩) [q.1] 1 own3 hlit (by simpa using hqo.k) (by rw [htl]; simp only [List.length_cons, List.length_nil]; omega) bel3.size
                have EAP : Hid ((Builtin.append_ #[41, 41] 41 #[u9, .slice (some ⟨wr.heap.size, 0, none⟩) 1 1]).run Try.prog w3 = .ok v9' w4) := eap
                have bel4 : Below wx.heap.size wx w4 := bel3.trans (below_grown own3 bel3.size g4)
                have hnext : (L.take j).map (·.1) ++ [q.1] = (L.take (j + 1)).map (·.1) := by rw [List.take_add_one, hxj]; simp
                rw [hnext] at own4
                have HO4 := hidMk own4
                clear eap own4 g4 own3 hlit hnext htl hxj hrq LQ0 own hLn bb
                go_wp2_with (first
                  | (refine wpList_val rfl (exec_load (t := 37) (u := .pointer (some ⟨gb, go + j * 68, none⟩)) rfl rfl LQ.out) ?_)
                  | (refine wpList_run rfl (exec_buildSlice (t := 41) (n := 1) (xv := q.1.v) (v := .slice (some ⟨wr.heap.size, 0, none⟩) 1 1) rfl rfl EBS.out) ?_)
                  | (refine wpList_run rfl (exec_append (xv := u9) (yv := .slice (some ⟨wr.heap.size, 0, none⟩) 1 1) (v := v9') rfl rfl rfl EAP.out) ?_)
                  | fail)
                rw [show ((j : Int) + 1) = ((j + 1 : Nat) : Int) by omega]
                refine ⟨⟨j + 1, rfl, hj, HO4.out, bel4⟩, ?_⟩
                show ln - ((j + 1 : Nat) : Int).toNat < ln - (j : Int).toNat
                omega
              · obtain rfl : j = ln := by omega
                rw [List.take_of_length_le (by omega)] at own
                have HO := hidMk own
                clear own hLn hjn hj
                go_wp2
                go_ret
                exact ⟨_, _, rfl, HO.out.base (Nat.le_trans bel0.size (Nat.le_refl _)), HKI.out, bel0.trans (belx.mono bel0.size)⟩
end
def slLen : Value → Nat
  | .slice _ n _ => n
  | _ => 0
theorem ids_tail {w : World} {a : Option Addr} {x : IdK} {L : List IdK} (h : IdsAt w a (x :: L)) : ∃ b off, a = some ⟨b, off, none⟩ ∧ b < w.heap.size ∧ w.rangeAt b off x.c ∧ IdsAt w (some ⟨b, off + 33, none⟩) L := by
  rcases h with h | ⟨b, off, e, hl, hr⟩
  · cases h
  · refine ⟨b, off, e, hl, by have := hr 0 x rfl; simpa using this, Or.inr ⟨b, off + 33, rfl, hl, fun i y hy => ?_⟩⟩
    have := hr (i + 1) y (by simpa using hy)
    rwa [show off + 33 * (i + 1) = off + 33 + 33 * i by omega] at this
theorem IdsAt.keepT {w w' : World} {a : Option Addr} {L : List IdK} (h : IdsAt w a L) (hb : ∀ b off, a = some ⟨b, off, none⟩ → b < w.heap.size → w'.heap[b]? = w.heap[b]?) (hs : w.heap.size ≤ w'.heap.size) : IdsAt w' a L := by
  rcases h with h | ⟨b, off, e, hl, hr⟩
  · exact .inl h
  · exact .inr ⟨b, off, e, Nat.lt_of_lt_of_le hl hs, fun i x hx => rangeAt_keep (hr i x hx) (hb b off e hl)⟩
section
variable (d : Nat) (NL : List RN) (pv : Value)
theorem ref_dom {w : World} (h : RefAt w d NL pv) : Dom (lookN NL) (NL.map (·.1)) := by
  refine ⟨fun x => ⟨fun hx => ?_, fun hx => ?_⟩, h.nd, fun x hx => ?_⟩
  · obtain ⟨p, hp, rfl⟩ := List.mem_map.1 hx
    unfold lookN
    rw [M.look_of_mem h.nd hp]; rfl
  · obtain ⟨v, hv⟩ := Option.isSome_iff_exists.1 hx
    exact List.mem_map.2 ⟨_, M.look_mem hv, rfl⟩
  · obtain ⟨p, hp, rfl⟩ := List.mem_map.1 hx
    exact (h.ok p hp).k
theorem rwalk_any (w : World) (h : RefAt w d NL pv) (hn : NL.length ≤ 1300000000000) (hf : Forest (lookN NL)) :
    Calls Try.prog 35 #[.pointer (some ⟨d, 0, none⟩)] w fun e w' => ∃ v L, e = .returned v ∧ OwnI w' w.heap.size v L ∧ IsWalk (lookN NL) L ∧ Below w.heap.size w w' := by
  have lt := h.lt
  have hD := ref_dom d NL pv h
  obtain ⟨Wk, hWk⟩ := walk_exist hf hD
  have hWl := hWk.le hf hD
  rw [List.length_map] at hWl
  have HK := hidMk (fun (k : IdK) (hk : k.ok) (W : World) (bb : Below w.heap.size w W) => rkids_any d NL pv k W (h.below bb) hk hn hf)
  have hWk' := hWk
  obtain ⟨K0, hK0, hF0⟩ := hWk
  have hle0 : K0.length ≤ NL.length := by have := hF0.sub.length_le; omega
  have HD := hidMk hD
  go_enter Try.func35, Try.ntmps35
  go_upto_region 4 with fail
  go_wp2_with (first
    | (refine wpList_val rfl (exec_build0 rfl (build_id _)) ?_)
    | (go_at_call 36; refine (HK.out zId zId_ok _ (Below.refl _ _)).mono ?_; rintro e w1 ⟨v, L, rfl, own, hik, b1⟩; obtain rfl := hik.unique hK0; have HO := hidMk own; clear own)
    | fail)
  go_loopw [3, 4] (fun v3 v4 wr => ∃ (Lo A out : List IdK), OwnI wr w.heap.size v3 Lo ∧ (∃ a c, v4 = .slice a A.length c ∧ IdsAt wr a A ∧ A.length ≤ c) ∧ Flat (lookN NL) A out ∧ Lo ++ out = Wk ∧ (∀ a l c, v4 = .slice (some a) l c → v3.ownBlock ≠ some a.block) ∧ (∀ x ∈ A, x.ok) ∧ (∀ x ∈ Lo, x.ok) ∧ Below w.heap.size w wr) (fun v3 v4 wr => Wk.length - slLen v3)
  case atStart =>
    exact ⟨[], L, Wk, ⟨rfl, Or.inl ⟨rfl, rfl⟩⟩, HO.out.open hK0.ok, hF0, rfl, fun a l c e => (by simp [Value.ownBlock]), hK0.ok, fun x hx => (by cases hx), b1⟩
  case round =>
    clear HO b1 hF0 hle0 hK0
    obtain ⟨Lo, A, out, own3, is4, hF, hW, hap, hokA, hokL, bel⟩ := hrel
    obtain ⟨a4, c4, rfl, ia4, hlc4⟩ := is4
    have HOL := hidMk hokL
    have HU3 : Hid (∃ a c, u3 = .slice a Lo.length c) := by obtain ⟨a, c, e, _⟩ := own3.open hokL; exact ⟨a, c, e⟩
    clear hokL
    cases hF with
    | nil =>
      have HO3 := hidMk own3
      have HWk := hidMk hWk'
      rw [List.append_nil] at hW
      subst hW
      clear own3 ia4 hap hokA hWk'
      simp only [List.length_nil]
      go_wp2
      go_ret
      exact ⟨_, _, rfl, HO3.out, HWk.out, bel⟩
    | @cons x K rest out1 hK hF1 =>
      have hxo : x.ok := hokA x (by simp)
      have hokR : ∀ y ∈ rest, y.ok := fun y hy => hokA y (List.mem_cons_of_mem _ hy)
      have hWl2 := congrArg List.length hW
      rw [List.length_append, List.length_cons] at hWl2
      have hsub1 := hF1.sub.length_le
      rw [List.length_append] at hsub1
      obtain ⟨b, o, rfl, lb, hr0, ia4r⟩ := ids_tail ia4
      have hap4 := hap _ _ _ rfl
      obtain ⟨m, hm⟩ : ∃ m, rest.length = m := ⟨_, rfl⟩
      obtain ⟨n4, hn4⟩ : ∃ n4, (x :: rest).length = n4 := ⟨_, rfl⟩
      have hn4m : n4 = m + 1 := by rw [← hn4, List.length_cons, hm]
      rw [hn4]
      have hn0 : 0 < n4 := by omega
      have hn1 : 1 ≤ n4 := by omega
      have HL1 := hidMk (load_id_at hxo hr0)
      obtain ⟨wz, ea, es⟩ := id_new wr x hxo
      obtain ⟨wa, hwa⟩ : ∃ wa, wr.alloc (.cells x.c.toArray 37) = wa := ⟨_, rfl⟩
      have ba : Below wr.heap.size wr wa := by rw [← hwa]; exact (Below.refl _ _).alloc (Nat.le_refl _) _
      have za : wa.heap.size = wr.heap.size + 1 := by rw [← hwa]; simp
      have hxa : IdAt wa wr.heap.size x := by rw [← hwa]; exact heap_alloc_new _ _
      rw [hwa] at es
      have HL2 := hidMk (load_id hxo hxa)
      have ebs := run_bsI x hxo wa
      obtain ⟨wb, hwb⟩ : ∃ wb, wa.alloc (.cells x.c.toArray 37) = wb := ⟨_, rfl⟩
      have bb : Below wa.heap.size wa wb := by rw [← hwb]; exact (Below.refl _ _).alloc (Nat.le_refl _) _
      have zb : wb.heap.size = wa.heap.size + 1 := by rw [← hwb]; simp
      have hlit := ids_lit wa x 37
      rw [hwb] at ebs hlit
      have own3b := (own3.below ba).below bb
      have hl3 : ∀ j, u3.ownBlock = some j → j < wr.heap.size := fun j hj => by obtain ⟨_, c, hc⟩ := own3.ge j hj; exact (Array.getElem?_eq_some_iff.1 hc).1
      have belb : Below w.heap.size w wb := (bel.trans (ba.mono bel.size)).trans (bb.mono (by have := bel.size; omega))
      have hlo : Lo.length + 1 ≤ 5600000000000 := by omega
      obtain ⟨v3', wc, eap, own3c, gc, ob3⟩ := run_appI wb w.heap.size u3 Lo (some ⟨wa.heap.size, 0, none⟩) [x] 1 own3b hlit (by simpa using hxo) hlo belb.size
      have belc : Below w.heap.size w wc := belb.trans (below_grown own3b belb.size gc)
      have hkeep : ∀ j, j < wr.heap.size → u3.ownBlock ≠ some j → wc.heap[j]? = wr.heap[j]? := fun j hj hne => (gc.block j (by omega) (fun e => hne e.symm)).trans ((bb.block j (by omega)).trans (ba.block j hj))
      have hxc : IdAt wc wr.heap.size x := (gc.block _ (by omega) (fun e => by have := hl3 _ e.symm; omega)).trans ((bb.block _ (by omega)).trans hxa)
      have hsc : wr.heap.size ≤ wc.heap.size := by have := gc.size; omega
      have ia4c : IdsAt wc (some ⟨b, o + 33, none⟩) rest := ia4r.keepT (fun b' o' e hl => by
        simp only [Option.some.injEq, Addr.mk.injEq] at e
        obtain ⟨rfl, _⟩ := e
        exact hkeep b hl hap4) hsc
      have HL3 := hidMk (load_id hxo hxc)
      have HK2 := hidMk (HK.out x hxo wc belc)
      have HBS : Hid ((Instr.buildSlice 41 1 #[(0, x.v)]).run Try.prog wa = .ok (.slice (some ⟨wa.heap.size, 0, none⟩) 1 1) wb) := ebs
      have HAP : Hid ((Builtin.append_ #[41, 41] 41 #[u3, .slice (some ⟨wa.heap.size, 0, none⟩) 1 1]).run Try.prog wb = .ok v3' wc) := eap
      have HEA := hidMk ea
      have HES := hidMk es
      have HW := hidMk hW
      have HLR := hidMk (And.intro hm hn4m)
      have hK0 := hK
      have HWL2 := hidMk hWl2
      have HZ := hidMk (And.intro za zb)
      have hkle : K.length + rest.length ≤ 5600000000000 := by omega
      have hmn : m + 1 ≤ 5600000000000 := by omega
      have lb' : b < wc.heap.size := by omega
      clear hW hm hn4 hWl2 za zb ebs eap ea es hwa hwb hlit own3b own3 hxa hxc hsub1 hWk' hWl ia4 ia4r hr0 hap hn
      go_upto_region 7 with (first
        | (refine wpList_val rfl (exec_load (t := 37) (u := .pointer (some ⟨b, o, none⟩)) rfl rfl HL1.out) ?_)
        | (refine wpList_run rfl (exec_alloc (t := 37) rfl HEA.out) ?_)
        | (refine wpList_skip rfl rfl (exec_store (t := 37) rfl rfl rfl HES.out) ?_)
        | fail)
      simp only [Act.put, List.setIfInBounds_toArray, List.set_cons_zero, List.set_cons_succ]
      clear HL1 HEA HES
      go_upto_region 9 with (first
        | (refine wpList_val rfl (exec_load (t := 37) (u := .pointer (some ⟨wr.heap.size, 0, none⟩)) rfl rfl HL2.out) ?_)
        | (refine wpList_run rfl (exec_buildSlice (t := 41) (n := 1) (xv := x.v) (v := .slice (some ⟨wa.heap.size, 0, none⟩) 1 1) rfl rfl HBS.out) ?_)
        | (refine wpList_run rfl (exec_append (xv := u3) (yv := .slice (some ⟨wa.heap.size, 0, none⟩) 1 1) (v := v3') rfl rfl rfl HAP.out) ?_)
        | (refine wpList_val rfl (exec_load (t := 37) (u := .pointer (some ⟨wr.heap.size, 0, none⟩)) rfl rfl HL3.out) ?_)
        | (go_at_call 36; refine HK2.out.mono ?_; rintro e wd ⟨v6, K', rfl, own6, hik, bd⟩; obtain rfl := hik.unique hK0; have HO6 := hidMk own6; clear own6)
        | fail)
      clear HL2 HL3 HK2 HBS HAP
      have ia4d := ia4c.below bd
      have beld : Below w.heap.size w wd := belc.trans (bd.mono belc.size)
      have hsd := bd.size
      have HM := HLR.out.1
      have hcl : m + 1 ≤ c4 := by rw [List.length_cons, HM] at hlc4; exact hlc4
      obtain ⟨ay, cy, iay, hform⟩ : ∃ ay cy, IdsAt wd ay rest ∧ ((c4 = 1 ∧ m = 0 ∧ ay = some ⟨b, o, none⟩ ∧ cy = 0) ∨ (∃ cc, c4 = cc + 2 ∧ ay = some ⟨b, o + 33, none⟩ ∧ cy = cc + 1)) := by
        by_cases e : c4 = 1
        · have hr : rest = [] := List.eq_nil_of_length_eq_zero (by omega)
          exact ⟨some ⟨b, o, none⟩, 0, Or.inl hr, Or.inl ⟨e, by omega, rfl, rfl⟩⟩
        · exact ⟨some ⟨b, o + 33, none⟩, c4 - 1, ia4d, Or.inr ⟨c4 - 2, by omega, rfl, by omega⟩⟩
      obtain ⟨v4', w9, eap9, own9, g9, _⟩ := run_appI wd wc.heap.size v6 K' ay rest cy HO6.out iay hokR hkle hsd
      have bel9c : Below wc.heap.size wd w9 := below_grown HO6.out hsd g9
      have bel9 : Below w.heap.size w w9 := beld.trans (bel9c.mono belc.size)
      have own3d := own3c.below bd
      have l3c : ∀ j, v3'.ownBlock = some j → j < wc.heap.size := fun j hj => by obtain ⟨_, c, hc⟩ := own3c.ge j hj; exact (Array.getElem?_eq_some_iff.1 hc).1
      have own39 := own3d.keep (w' := w9) (fun j hj => bel9c.block j (l3c j hj))
      have hok' : ∀ y ∈ K' ++ rest, y.ok := fun y hy => by
        rcases List.mem_append.1 hy with hy | hy
        · exact hK0.ok y hy
        · exact hokR y hy
      have his := own9.open hok'
      have hap9 : ∀ a l c, v4' = .slice (some a) l c → v3'.ownBlock ≠ some a.block := fun a l c e q => by
        have h1 := (own9.ge a.block (by rw [e]; rfl)).1
        have h2 := l3c _ q
        omega
      have EAP9 : Hid ((Builtin.append_ #[41, 41] 41 #[v6, .slice ay m cy]).run Try.prog wd = .ok v4' w9) := by rw [← HM]; exact eap9
      have HF := hidMk own39
      have HG := hidMk his
      have HFM := hidMk HM
      have fin : (∃ (Lo' A' out' : List IdK), OwnI w9 w.heap.size v3' Lo' ∧ (∃ a c, v4' = .slice a A'.length c ∧ IdsAt w9 a A' ∧ A'.length ≤ c) ∧ Flat (lookN NL) A' out' ∧ Lo' ++ out' = Wk ∧ (∀ a l c, v4' = .slice (some a) l c → v3'.ownBlock ≠ some a.block) ∧ (∀ x ∈ A', x.ok) ∧ (∀ x ∈ Lo', x.ok) ∧ Below w.heap.size w w9) ∧
          Wk.length - slLen v3' < Wk.length - slLen u3 := by
        have hokLo : ∀ y ∈ Lo ++ [x], y.ok := fun y hy => by
          rcases List.mem_append.1 hy with hy | hy
          · exact HOL.out y hy
          · simp at hy; subst hy; exact hxo
        refine ⟨⟨Lo ++ [x], K' ++ rest, out1, HF.out, HG.out, hF1, by rw [List.append_assoc]; exact HW.out, hap9, hok', hokLo, bel9⟩, ?_⟩
        obtain ⟨a3, c3, e3, _⟩ := HF.out.open hokLo
        obtain ⟨a9, c9, e9⟩ := HU3.out
        rw [e3, e9]
        have := HWL2.out
        simp only [slLen, List.length_append, List.length_cons, List.length_nil]
        omega
      have FIN := hidMk fin
      clear fin own39 his own9 own3d own3c eap9 g9 ia4d ia4c HO6 HM hn4m hap9 hlc4 iay
      rcases hform with ⟨rfl, rfl, rfl, rfl⟩ | ⟨cc, rfl, rfl, rfl⟩
      · go_wp2_with (first
          | (refine wpList_run rfl (exec_append (xv := v6) (yv := .slice (some ⟨b, o, none⟩) 0 0) (v := v4') rfl rfl rfl EAP9.out) ?_)
          | fail)
        exact FIN.out
      · go_wp2_with (first
          | (refine wpList_run rfl (exec_append (xv := v6) (yv := .slice (some ⟨b, o + 33, none⟩) m (cc + 1)) (v := v4') rfl rfl rfl EAP9.out) ?_)
          | fail)
        exact FIN.out
theorem tells_ref {w : World} (h : RefAt w d NL pv) (hf : Forest (lookN NL)) (hn : NL.length ≤ 1300000000000) :
    Tells w (.pointer (some ⟨d, 0, none⟩)) (lookN NL) (NL.map (·.1)) 34 35 36 38 40 41 := {
  len := fun W b => by rw [List.length_map]; exact rlen_any d NL pv W (h.below b)
  walk := fun W b => (rwalk_any d NL pv W (h.below b) hn hf).mono fun e w' ⟨v, L, h1, h2, h3, h4⟩ => ⟨v, L, h1, own_is h2 (walk_ok (ref_dom d NL pv h) h3), h3, h4⟩
  kids := fun k hk W b => (rkids_any d NL pv k W (h.below b) hk hn hf).mono fun e w' ⟨v, L, h1, h2, h3, h4⟩ => ⟨v, L, h1, own_is h2 h3.ok, h3, h4⟩
  under := fun k hk W b => runder_any d NL pv k W (h.below b) hk hn hf
  live := fun k hk W b => rlive_any d NL pv k W (h.below b) hk hn hf
  deep := fun k hk W b => rdeep_any d NL pv k W (h.below b) hk hn hf }
end
def alike9_o0 : Oper := ⟨some 62, .load 37 (.tmp 9), 37, "law.go:106", #[], none⟩
def alike9_o1 : Oper := ⟨some 63, .load 37 (.tmp 12), 37, "law.go:106", #[], none⟩
def alike9_o2 : Oper := ⟨some 64, .binOp BinOp.neq 37 (.tmp 62) (.tmp 63) 37, 4, "law.go:106", #[⟨0, .data⟩, ⟨1, .data⟩], none⟩
def alike9_o3 : Oper := ⟨some 65, .move (.tmp 64), 4, "law.go:106", #[⟨2, .data⟩], none⟩
def alike9_o4 : Oper := ⟨some 66, .move (.tmp 10), 9, "law.go:106", #[⟨3, .guard⟩], some (3, false)⟩
def alike9_o5 : Oper := ⟨some 67, .move (.tmp 13), 9, "law.go:106", #[⟨3, .guard⟩], some (3, false)⟩
def alike9_o6 : Oper := ⟨some 68, .binOp BinOp.neq 9 (.tmp 66) (.tmp 67) 9, 4, "law.go:106", #[⟨4, .data⟩, ⟨5, .data⟩, ⟨3, .guard⟩], some (3, false)⟩
def alike9_o7 : Oper := ⟨some 69, .pick (.tmp 65) (Operand.const (Value.bool true)) (.tmp 68), 4, "law.go:106", #[⟨3, .data⟩, ⟨6, .data⟩], none⟩
def alike9_o8 : Oper := ⟨some 70, .move (.tmp 69), 4, "law.go:106", #[⟨7, .data⟩, ⟨3, .chain⟩], none⟩
def alike9_o9 : Oper := ⟨some 71, .move (.tmp 11), 4, "law.go:106", #[⟨8, .guard⟩], some (8, false)⟩
def alike9_o10 : Oper := ⟨some 72, .move (.tmp 14), 4, "law.go:106", #[⟨8, .guard⟩], some (8, false)⟩
def alike9_o11 : Oper := ⟨some 73, .binOp BinOp.neq 4 (.tmp 71) (.tmp 72) 4, 4, "law.go:106", #[⟨9, .data⟩, ⟨10, .data⟩, ⟨8, .guard⟩], some (8, false)⟩
def alike9_o12 : Oper := ⟨some 74, .pick (.tmp 70) (Operand.const (Value.bool true)) (.tmp 73), 4, "law.go:106", #[⟨8, .data⟩, ⟨11, .data⟩], none⟩
def alike9_o13 : Oper := ⟨some 75, .move (.tmp 74), 4, "law.go:106", #[⟨12, .data⟩, ⟨8, .chain⟩], none⟩
def alike9_o14 : Oper := ⟨some 76, .move (.tmp 0), 25, "law.go:106", #[⟨13, .guard⟩], some (13, false)⟩
def alike9_o15 : Oper := ⟨some 77, .load 37 (.tmp 8), 37, "law.go:106", #[⟨13, .guard⟩], some (13, false)⟩
def alike9_o16 : Oper := ⟨some 78, .call { callee := Callee.value (Operand.func 39), args := #[.tmp 76, .tmp 77], argTypes := #[25, 37] }, 4, "law.go:106", #[⟨14, .data⟩, ⟨15, .data⟩, ⟨13, .chain⟩, ⟨13, .guard⟩], some (13, false)⟩
def alike9_o17 : Oper := ⟨some 79, .move (.tmp 1), 27, "law.go:106", #[⟨13, .guard⟩], some (13, false)⟩
def alike9_o18 : Oper := ⟨some 80, .load 37 (.tmp 8), 37, "law.go:106", #[⟨13, .guard⟩], some (13, false)⟩
def alike9_o19 : Oper := ⟨some 81, .call { callee := Callee.value (Operand.func 40), args := #[.tmp 79, .tmp 80], argTypes := #[27, 37] }, 4, "law.go:106", #[⟨17, .data⟩, ⟨18, .data⟩, ⟨16, .chain⟩, ⟨13, .guard⟩], some (13, false)⟩
def alike9_o20 : Oper := ⟨some 82, .binOp BinOp.neq 4 (.tmp 78) (.tmp 81) 4, 4, "law.go:106", #[⟨16, .data⟩, ⟨19, .data⟩, ⟨13, .guard⟩], some (13, false)⟩
def alike9_o21 : Oper := ⟨some 83, .pick (.tmp 75) (Operand.const (Value.bool true)) (.tmp 82), 4, "law.go:106", #[⟨13, .data⟩, ⟨20, .data⟩], none⟩
def alike9_o22 : Oper := ⟨some 84, .move (.tmp 83), 4, "law.go:106", #[⟨21, .data⟩, ⟨19, .chain⟩], none⟩
def alike9_o23 : Oper := ⟨some 85, .move (.tmp 0), 25, "law.go:106", #[⟨22, .guard⟩], some (22, false)⟩
def alike9_o24 : Oper := ⟨some 86, .load 37 (.tmp 8), 37, "law.go:106", #[⟨22, .guard⟩], some (22, false)⟩
def alike9_o25 : Oper := ⟨some 87, .call { callee := Callee.value (Operand.func 29), args := #[.tmp 85, .tmp 86], argTypes := #[25, 37] }, 3, "law.go:106", #[⟨23, .data⟩, ⟨24, .data⟩, ⟨22, .chain⟩, ⟨22, .guard⟩], some (22, false)⟩
def alike9_o26 : Oper := ⟨some 88, .move (.tmp 1), 27, "law.go:106", #[⟨22, .guard⟩], some (22, false)⟩
def alike9_o27 : Oper := ⟨some 89, .load 37 (.tmp 8), 37, "law.go:106", #[⟨22, .guard⟩], some (22, false)⟩
def alike9_o28 : Oper := ⟨some 90, .call { callee := Callee.value (Operand.func 41), args := #[.tmp 88, .tmp 89], argTypes := #[27, 37] }, 3, "law.go:106", #[⟨26, .data⟩, ⟨27, .data⟩, ⟨25, .chain⟩, ⟨22, .guard⟩], some (22, false)⟩
def alike9_o29 : Oper := ⟨some 91, .binOp BinOp.neq 3 (.tmp 87) (.tmp 90) 3, 4, "law.go:106", #[⟨25, .data⟩, ⟨28, .data⟩, ⟨22, .guard⟩], some (22, false)⟩
def alike9_o30 : Oper := ⟨some 92, .pick (.tmp 84) (Operand.const (Value.bool true)) (.tmp 91), 4, "law.go:106", #[⟨22, .data⟩, ⟨29, .data⟩], none⟩
def alike9_o31 : Oper := ⟨some 93, .move (.tmp 92), 4, "law.go:106", #[⟨30, .data⟩, ⟨28, .chain⟩], none⟩
def alike9_o32 : Oper := ⟨some 94, .move (.tmp 0), 25, "law.go:106", #[⟨31, .guard⟩], some (31, false)⟩
def alike9_o33 : Oper := ⟨some 95, .load 37 (.tmp 8), 37, "law.go:106", #[⟨31, .guard⟩], some (31, false)⟩
def alike9_o34 : Oper := ⟨some 96, .call { callee := Callee.value (Operand.func 24), args := #[.tmp 94, .tmp 95], argTypes := #[25, 37] }, 41, "law.go:106", #[⟨32, .data⟩, ⟨33, .data⟩, ⟨31, .chain⟩, ⟨31, .guard⟩], some (31, false)⟩
def alike9_o35 : Oper := ⟨some 97, .move (.tmp 1), 27, "law.go:106", #[⟨31, .guard⟩], some (31, false)⟩
def alike9_o36 : Oper := ⟨some 98, .load 37 (.tmp 8), 37, "law.go:106", #[⟨31, .guard⟩], some (31, false)⟩
def alike9_o37 : Oper := ⟨some 99, .call { callee := Callee.value (Operand.func 36), args := #[.tmp 97, .tmp 98], argTypes := #[27, 37] }, 41, "law.go:106", #[⟨35, .data⟩, ⟨36, .data⟩, ⟨34, .chain⟩, ⟨31, .guard⟩], some (31, false)⟩
def alike9_o38 : Oper := ⟨some 100, .call { callee := Callee.value (Operand.func 28), args := #[.tmp 96, .tmp 99], argTypes := #[41, 41] }, 4, "law.go:106", #[⟨34, .data⟩, ⟨37, .data⟩, ⟨37, .chain⟩, ⟨31, .guard⟩], some (31, false)⟩
def alike9_o39 : Oper := ⟨some 101, .unOp UnOp.not 4 (.tmp 100), 4, "law.go:106", #[⟨38, .data⟩, ⟨31, .guard⟩], some (31, false)⟩
def alike9_o40 : Oper := ⟨some 102, .pick (.tmp 93) (Operand.const (Value.bool true)) (.tmp 101), 4, "law.go:106", #[⟨31, .data⟩, ⟨39, .data⟩], none⟩
def alike9_ops : Array Oper := #[alike9_o0, alike9_o1, alike9_o2, alike9_o3, alike9_o4, alike9_o5, alike9_o6, alike9_o7, alike9_o8, alike9_o9, alike9_o10, alike9_o11, alike9_o12, alike9_o13, alike9_o14, alike9_o15, alike9_o16, alike9_o17, alike9_o18, alike9_o19, alike9_o20, alike9_o21, alike9_o22, alike9_o23, alike9_o24, alike9_o25, alike9_o26, alike9_o27, alike9_o28, alike9_o29, alike9_o30, alike9_o31, alike9_o32, alike9_o33, alike9_o34, alike9_o35, alike9_o36, alike9_o37, alike9_o38, alike9_o39, alike9_o40]
theorem alike9 (B : Nat) (w0 : World) (bi bu bv : Nat) (tv dv kv uv : Value) (ks : ByteArray) (pb lb : Bool) (dd : Int) (IK : World → Value → Prop) (a : Act) (w : World) (Q : Exit → Act → World → Prop) (hsz : a.tmps.size = 103)
    (t0 : a.tmps.getD 0 undef = tv)
    (t1 : a.tmps.getD 1 undef = dv)
    (t8 : a.tmps.getD 8 undef = .pointer (some ⟨bi, 0, none⟩))
    (t9 : a.tmps.getD 9 undef = .pointer (some ⟨bu, 0, none⟩))
    (t10 : a.tmps.getD 10 undef = .string ks)
    (t11 : a.tmps.getD 11 undef = .bool pb)
    (t12 : a.tmps.getD 12 undef = .pointer (some ⟨bv, 0, none⟩))
    (t13 : a.tmps.getD 13 undef = .string ks)
    (t14 : a.tmps.getD 14 undef = .bool pb)
    (h0 : Below B w0 w.drew)
    (hN : ∀ W, Below B w0 W → B ≤ W.heap.size)
    (KI : ∀ W W' v, IK W v → Below W.heap.size W W' → IK W' v)
    (CLT : ∀ W, Below B w0 W → Calls Try.prog 39 #[tv, kv] W fun e w' => e = .returned (.bool lb) ∧ Below W.heap.size W w')
    (CLD : ∀ W, Below B w0 W → Calls Try.prog 40 #[dv, kv] W fun e w' => e = .returned (.bool lb) ∧ Below W.heap.size W w')
    (CDT : ∀ W, Below B w0 W → Calls Try.prog 29 #[tv, kv] W fun e w' => e = .returned (.int .i64 dd) ∧ Below W.heap.size W w')
    (CDD : ∀ W, Below B w0 W → Calls Try.prog 41 #[dv, kv] W fun e w' => e = .returned (.int .i64 dd) ∧ Below W.heap.size W w')
    (CKT : ∀ W, Below B w0 W → Calls Try.prog 24 #[tv, kv] W fun e w' => ∃ v, e = .returned v ∧ IK w' v ∧ Below W.heap.size W w')
    (CKD : ∀ W, Below B w0 W → Calls Try.prog 36 #[dv, kv] W fun e w' => ∃ v, e = .returned v ∧ IK w' v ∧ Below W.heap.size W w')
    (CS : ∀ W v u, Below B w0 W → IK W v → IK W u → Calls Try.prog 28 #[v, u] W fun e w' => e = .returned (.bool true) ∧ Below W.heap.size W w')
    (G1 : ∀ W, Below B w0 W → (Instr.loadAt 37 (.pointer (some ⟨bu, 0, none⟩))).run Try.prog W = .ok (uv) W)
    (G2 : ∀ W, Below B w0 W → (Instr.loadAt 37 (.pointer (some ⟨bv, 0, none⟩))).run Try.prog W = .ok (uv) W)
    (G3 : ∀ W, (eqGuard BinOp.neq 37 (Operand.tmp 62) (Operand.tmp 63) (uv) (uv)).run Try.prog W = .ok () W)
    (G4 : ∀ W, Below B w0 W → (binOp BinOp.neq 37 (uv) (uv)).run Try.prog W = .ok (.bool false) W)
    (G5 : ∀ W, (eqGuard BinOp.neq 9 (Operand.tmp 66) (Operand.tmp 67) (.string ks) (.string ks)).run Try.prog W = .ok () W)
    (G6 : ∀ W, Below B w0 W → (binOp BinOp.neq 9 (.string ks) (.string ks)).run Try.prog W = .ok (.bool false) W)
    (G7 : ∀ W, (eqGuard BinOp.neq 4 (Operand.tmp 71) (Operand.tmp 72) (.bool pb) (.bool pb)).run Try.prog W = .ok () W)
    (G8 : ∀ W, Below B w0 W → (binOp BinOp.neq 4 (.bool pb) (.bool pb)).run Try.prog W = .ok (.bool false) W)
    (G9 : ∀ W, Below B w0 W → (Instr.loadAt 37 (.pointer (some ⟨bi, 0, none⟩))).run Try.prog W = .ok (kv) W)
    (G10 : ∀ W, (eqGuard BinOp.neq 4 (Operand.tmp 78) (Operand.tmp 81) (.bool lb) (.bool lb)).run Try.prog W = .ok () W)
    (G11 : ∀ W, Below B w0 W → (binOp BinOp.neq 4 (.bool lb) (.bool lb)).run Try.prog W = .ok (.bool false) W)
    (G12 : ∀ W, (eqGuard BinOp.neq 3 (Operand.tmp 87) (Operand.tmp 90) (.int .i64 dd) (.int .i64 dd)).run Try.prog W = .ok () W)
    (G13 : ∀ W, Below B w0 W → (binOp BinOp.neq 3 (.int .i64 dd) (.int .i64 dd)).run Try.prog W = .ok (.bool false) W)
    (h : ∀ (v u : Value) (a' : Act) (w' : World), Below B w0 w' → a' = (((((((((((((((((((((((((((((((((((((((((a).put (some 62) (uv)).put (some 63) (uv)).put (some 64) (.bool false)).put (some 65) (.bool false)).put (some 66) (.string ks)).put (some 67) (.string ks)).put (some 68) (.bool false)).put (some 69) (.bool false)).put (some 70) (.bool false)).put (some 71) (.bool pb)).put (some 72) (.bool pb)).put (some 73) (.bool false)).put (some 74) (.bool false)).put (some 75) (.bool false)).put (some 76) (tv)).put (some 77) (kv)).put (some 79) (dv)).put (some 80) (kv)).put (some 78) (.bool lb)).put (some 81) (.bool lb)).put (some 82) (.bool false)).put (some 83) (.bool false)).put (some 84) (.bool false)).put (some 85) (tv)).put (some 86) (kv)).put (some 88) (dv)).put (some 89) (kv)).put (some 87) (.int .i64 dd)).put (some 90) (.int .i64 dd)).put (some 91) (.bool false)).put (some 92) (.bool false)).put (some 93) (.bool false)).put (some 94) (tv)).put (some 95) (kv)).put (some 97) (dv)).put (some 98) (kv)).put (some 96) (v)).put (some 99) (u)).put (some 100) (.bool true)).put (some 101) (.bool false)).put (some 102) (.bool false) → Q .normal a' w') :
    (Code.region 9 alike9_ops true).wp Try.prog Q a w := by
  refine wp_region_noPanic ?_
  refine wp_region_held_drew (S := fun w' => Below B w0 w') (by kernel_rfl) (h0) (fun hHeld => ?_)
  refine tk 0 alike9_o0 (uv) (by rfl) (fun w1 hw => exec_load rfl t9 (G1 _ hw)) hHeld (fun a1 e1 => ?_)
  rw [← e1] at h
  have z1 := pz e1 hsz
  replace t0 := pk e1 t0
  replace t1 := pk e1 t1
  replace t8 := pk e1 t8
  clear t9
  replace t10 := pk e1 t10
  replace t11 := pk e1 t11
  replace t12 := pk e1 t12
  replace t13 := pk e1 t13
  replace t14 := pk e1 t14
  have t62 := pq e1 hsz
  clear e1 hsz
  refine tk 1 alike9_o1 (uv) (by rfl) (fun w1 hw => exec_load rfl t12 (G2 _ hw)) hHeld (fun a2 e2 => ?_)
  rw [← e2] at h
  have z2 := pz e2 z1
  replace t0 := pk e2 t0
  replace t1 := pk e2 t1
  replace t8 := pk e2 t8
  replace t10 := pk e2 t10
  replace t11 := pk e2 t11
  clear t12
  replace t13 := pk e2 t13
  replace t14 := pk e2 t14
  replace t62 := pk e2 t62
  have t63 := pq e2 z1
  clear e2 z1
  refine tk 2 alike9_o2 (.bool false) (by rfl) (fun w1 hw => exec_binOp rfl t62 t63 (G3 _) (G4 _ hw)) hHeld (fun a3 e3 => ?_)
  rw [← e3] at h
  have z3 := pz e3 z2
  replace t0 := pk e3 t0
  replace t1 := pk e3 t1
  replace t8 := pk e3 t8
  replace t10 := pk e3 t10
  replace t11 := pk e3 t11
  replace t13 := pk e3 t13
  replace t14 := pk e3 t14
  clear t62
  clear t63
  have t64 := pq e3 z2
  clear e3 z2
  refine tk 3 alike9_o3 (.bool false) (by rfl) (fun w1 hw => exec_move rfl t64) hHeld (fun a4 e4 => ?_)
  rw [← e4] at h
  have z4 := pz e4 z3
  replace t0 := pk e4 t0
  replace t1 := pk e4 t1
  replace t8 := pk e4 t8
  replace t10 := pk e4 t10
  replace t11 := pk e4 t11
  replace t13 := pk e4 t13
  replace t14 := pk e4 t14
  clear t64
  have t65 := pq e4 z3
  clear e4 z3
  refine tk 4 alike9_o4 (.string ks) (by simp [Region.wanted, yielded, alike9_o4, alike9_o3, alike9_ops, tget z4 (by decide) t65]) (fun w1 hw => exec_move rfl t10) hHeld (fun a5 e5 => ?_)
  rw [← e5] at h
  have z5 := pz e5 z4
  replace t0 := pk e5 t0
  replace t1 := pk e5 t1
  replace t8 := pk e5 t8
  clear t10
  replace t11 := pk e5 t11
  replace t13 := pk e5 t13
  replace t14 := pk e5 t14
  replace t65 := pk e5 t65
  have t66 := pq e5 z4
  clear e5 z4
  refine tk 5 alike9_o5 (.string ks) (by simp [Region.wanted, yielded, alike9_o5, alike9_o3, alike9_ops, tget z5 (by decide) t65]) (fun w1 hw => exec_move rfl t13) hHeld (fun a6 e6 => ?_)
  rw [← e6] at h
  have z6 := pz e6 z5
  replace t0 := pk e6 t0
  replace t1 := pk e6 t1
  replace t8 := pk e6 t8
  replace t11 := pk e6 t11
  clear t13
  replace t14 := pk e6 t14
  replace t65 := pk e6 t65
  replace t66 := pk e6 t66
  have t67 := pq e6 z5
  clear e6 z5
  refine tk 6 alike9_o6 (.bool false) (by simp [Region.wanted, yielded, alike9_o6, alike9_o3, alike9_ops, tget z6 (by decide) t65]) (fun w1 hw => exec_binOp rfl t66 t67 (G5 _) (G6 _ hw)) hHeld (fun a7 e7 => ?_)
  rw [← e7] at h
  have z7 := pz e7 z6
  replace t0 := pk e7 t0
  replace t1 := pk e7 t1
  replace t8 := pk e7 t8
  replace t11 := pk e7 t11
  replace t14 := pk e7 t14
  replace t65 := pk e7 t65
  clear t66
  clear t67
  have t68 := pq e7 z6
  clear e7 z6
  refine tk 7 alike9_o7 (.bool false) (by rfl) (fun w1 hw => by unfold alike9_o7; go_simp) hHeld (fun a8 e8 => ?_)
  rw [← e8] at h
  have z8 := pz e8 z7
  replace t0 := pk e8 t0
  replace t1 := pk e8 t1
  replace t8 := pk e8 t8
  replace t11 := pk e8 t11
  replace t14 := pk e8 t14
  clear t65
  clear t68
  have t69 := pq e8 z7
  clear e8 z7
  refine tk 8 alike9_o8 (.bool false) (by rfl) (fun w1 hw => exec_move rfl t69) hHeld (fun a9 e9 => ?_)
  rw [← e9] at h
  have z9 := pz e9 z8
  replace t0 := pk e9 t0
  replace t1 := pk e9 t1
  replace t8 := pk e9 t8
  replace t11 := pk e9 t11
  replace t14 := pk e9 t14
  clear t69
  have t70 := pq e9 z8
  clear e9 z8
  refine tk 9 alike9_o9 (.bool pb) (by simp [Region.wanted, yielded, alike9_o9, alike9_o8, alike9_ops, tget z9 (by decide) t70]) (fun w1 hw => exec_move rfl t11) hHeld (fun a10 e10 => ?_)
  rw [← e10] at h
  have z10 := pz e10 z9
  replace t0 := pk e10 t0
  replace t1 := pk e10 t1
  replace t8 := pk e10 t8
  clear t11
  replace t14 := pk e10 t14
  replace t70 := pk e10 t70
  have t71 := pq e10 z9
  clear e10 z9
  refine tk 10 alike9_o10 (.bool pb) (by simp [Region.wanted, yielded, alike9_o10, alike9_o8, alike9_ops, tget z10 (by decide) t70]) (fun w1 hw => exec_move rfl t14) hHeld (fun a11 e11 => ?_)
  rw [← e11] at h
  have z11 := pz e11 z10
  replace t0 := pk e11 t0
  replace t1 := pk e11 t1
  replace t8 := pk e11 t8
  clear t14
  replace t70 := pk e11 t70
  replace t71 := pk e11 t71
  have t72 := pq e11 z10
  clear e11 z10
  refine tk 11 alike9_o11 (.bool false) (by simp [Region.wanted, yielded, alike9_o11, alike9_o8, alike9_ops, tget z11 (by decide) t70]) (fun w1 hw => exec_binOp rfl t71 t72 (G7 _) (G8 _ hw)) hHeld (fun a12 e12 => ?_)
  rw [← e12] at h
  have z12 := pz e12 z11
  replace t0 := pk e12 t0
  replace t1 := pk e12 t1
  replace t8 := pk e12 t8
  replace t70 := pk e12 t70
  clear t71
  clear t72
  have t73 := pq e12 z11
  clear e12 z11
  refine tk 12 alike9_o12 (.bool false) (by rfl) (fun w1 hw => by unfold alike9_o12; go_simp) hHeld (fun a13 e13 => ?_)
  rw [← e13] at h
  have z13 := pz e13 z12
  replace t0 := pk e13 t0
  replace t1 := pk e13 t1
  replace t8 := pk e13 t8
  clear t70
  clear t73
  have t74 := pq e13 z12
  clear e13 z12
  refine tk 13 alike9_o13 (.bool false) (by rfl) (fun w1 hw => exec_move rfl t74) hHeld (fun a14 e14 => ?_)
  rw [← e14] at h
  have z14 := pz e14 z13
  replace t0 := pk e14 t0
  replace t1 := pk e14 t1
  replace t8 := pk e14 t8
  clear t74
  have t75 := pq e14 z13
  clear e14 z13
  refine tk 14 alike9_o14 (tv) (by simp [Region.wanted, yielded, alike9_o14, alike9_o13, alike9_ops, tget z14 (by decide) t75]) (fun w1 hw => exec_move rfl t0) hHeld (fun a15 e15 => ?_)
  rw [← e15] at h
  have z15 := pz e15 z14
  replace t0 := pk e15 t0
  replace t1 := pk e15 t1
  replace t8 := pk e15 t8
  replace t75 := pk e15 t75
  have t76 := pq e15 z14
  clear e15 z14
  refine tk 15 alike9_o15 (kv) (by simp [Region.wanted, yielded, alike9_o15, alike9_o13, alike9_ops, tget z15 (by decide) t75]) (fun w1 hw => exec_load rfl t8 (G9 _ hw)) hHeld (fun a16 e16 => ?_)
  rw [← e16] at h
  have z16 := pz e16 z15
  replace t0 := pk e16 t0
  replace t1 := pk e16 t1
  replace t8 := pk e16 t8
  replace t75 := pk e16 t75
  replace t76 := pk e16 t76
  have t77 := pq e16 z15
  clear e16 z15
  refine tk 17 alike9_o17 (dv) (by simp [Region.wanted, yielded, alike9_o17, alike9_o13, alike9_ops, tget z16 (by decide) t75]) (fun w1 hw => exec_move rfl t1) hHeld (fun a17 e17 => ?_)
  rw [← e17] at h
  have z17 := pz e17 z16
  replace t0 := pk e17 t0
  replace t1 := pk e17 t1
  replace t8 := pk e17 t8
  replace t75 := pk e17 t75
  replace t76 := pk e17 t76
  replace t77 := pk e17 t77
  have t79 := pq e17 z16
  clear e17 z16
  refine tk 18 alike9_o18 (kv) (by simp [Region.wanted, yielded, alike9_o18, alike9_o13, alike9_ops, tget z17 (by decide) t75]) (fun w1 hw => exec_load rfl t8 (G9 _ hw)) hHeld (fun a18 e18 => ?_)
  rw [← e18] at h
  have z18 := pz e18 z17
  replace t0 := pk e18 t0
  replace t1 := pk e18 t1
  replace t8 := pk e18 t8
  replace t75 := pk e18 t75
  replace t76 := pk e18 t76
  replace t77 := pk e18 t77
  replace t79 := pk e18 t79
  have t80 := pq e18 z17
  clear e18 z17
  refine wpAnyH_ready (rs := [16]) (by kernel_rfl) (by simp) ?_
  refine AllReadyH.cons (o := alike9_o16) rfl (fun K hK => ?_) AllReadyH.nil
  rw [if_pos (by simp [Region.wanted, yielded, alike9_o16, alike9_o13, alike9_ops, tget z18 (by decide) t75])]
  unfold alike9_o16 at hK ⊢
  go_simp
  refine (CLT _ hHeld).mono ?_
  rintro e x19 ⟨rfl, l1⟩
  try go_wp2_with fail
  skip
  refine hK.out _ _ (hHeld.trans (l1.mono (hN _ hHeld))) (fun hHeld => ?_)
  clear hK K
  change wpAnyH _ _ _ _ _ _ _ (a18.put (some 78) (.bool lb)) _
  obtain ⟨a19, e19⟩ : ∃ act, act = a18.put (some 78) (.bool lb) := ⟨_, rfl⟩
  rw [← e19] at h ⊢
  have z19 := pz e19 z18
  replace t0 := pk e19 t0
  replace t1 := pk e19 t1
  replace t8 := pk e19 t8
  replace t75 := pk e19 t75
  clear t76
  clear t77
  replace t79 := pk e19 t79
  replace t80 := pk e19 t80
  have t78 := pq e19 z18
  clear e19 z18
  refine wpAnyH_ready (rs := [19]) (by kernel_rfl) (by simp) ?_
  refine AllReadyH.cons (o := alike9_o19) rfl (fun K hK => ?_) AllReadyH.nil
  rw [if_pos (by simp [Region.wanted, yielded, alike9_o19, alike9_o13, alike9_ops, tget z19 (by decide) t75])]
  unfold alike9_o19 at hK ⊢
  go_simp
  refine (CLD _ hHeld).mono ?_
  rintro e x20 ⟨rfl, l1⟩
  try go_wp2_with fail
  skip
  refine hK.out _ _ (hHeld.trans (l1.mono (hN _ hHeld))) (fun hHeld => ?_)
  clear hK K
  change wpAnyH _ _ _ _ _ _ _ (a19.put (some 81) (.bool lb)) _
  obtain ⟨a20, e20⟩ : ∃ act, act = a19.put (some 81) (.bool lb) := ⟨_, rfl⟩
  rw [← e20] at h ⊢
  have z20 := pz e20 z19
  replace t0 := pk e20 t0
  replace t1 := pk e20 t1
  replace t8 := pk e20 t8
  replace t75 := pk e20 t75
  clear t79
  clear t80
  replace t78 := pk e20 t78
  have t81 := pq e20 z19
  clear e20 z19
  refine tk 20 alike9_o20 (.bool false) (by simp [Region.wanted, yielded, alike9_o20, alike9_o13, alike9_ops, tget z20 (by decide) t75]) (fun w1 hw => exec_binOp rfl t78 t81 (G10 _) (G11 _ hw)) hHeld (fun a21 e21 => ?_)
  rw [← e21] at h
  have z21 := pz e21 z20
  replace t0 := pk e21 t0
  replace t1 := pk e21 t1
  replace t8 := pk e21 t8
  replace t75 := pk e21 t75
  clear t78
  clear t81
  have t82 := pq e21 z20
  clear e21 z20
  refine tk 21 alike9_o21 (.bool false) (by rfl) (fun w1 hw => by unfold alike9_o21; go_simp) hHeld (fun a22 e22 => ?_)
  rw [← e22] at h
  have z22 := pz e22 z21
  replace t0 := pk e22 t0
  replace t1 := pk e22 t1
  replace t8 := pk e22 t8
  clear t75
  clear t82
  have t83 := pq e22 z21
  clear e22 z21
  refine tk 22 alike9_o22 (.bool false) (by rfl) (fun w1 hw => exec_move rfl t83) hHeld (fun a23 e23 => ?_)
  rw [← e23] at h
  have z23 := pz e23 z22
  replace t0 := pk e23 t0
  replace t1 := pk e23 t1
  replace t8 := pk e23 t8
  clear t83
  have t84 := pq e23 z22
  clear e23 z22
  refine tk 23 alike9_o23 (tv) (by simp [Region.wanted, yielded, alike9_o23, alike9_o22, alike9_ops, tget z23 (by decide) t84]) (fun w1 hw => exec_move rfl t0) hHeld (fun a24 e24 => ?_)
  rw [← e24] at h
  have z24 := pz e24 z23
  replace t0 := pk e24 t0
  replace t1 := pk e24 t1
  replace t8 := pk e24 t8
  replace t84 := pk e24 t84
  have t85 := pq e24 z23
  clear e24 z23
  refine tk 24 alike9_o24 (kv) (by simp [Region.wanted, yielded, alike9_o24, alike9_o22, alike9_ops, tget z24 (by decide) t84]) (fun w1 hw => exec_load rfl t8 (G9 _ hw)) hHeld (fun a25 e25 => ?_)
  rw [← e25] at h
  have z25 := pz e25 z24
  replace t0 := pk e25 t0
  replace t1 := pk e25 t1
  replace t8 := pk e25 t8
  replace t84 := pk e25 t84
  replace t85 := pk e25 t85
  have t86 := pq e25 z24
  clear e25 z24
  refine tk 26 alike9_o26 (dv) (by simp [Region.wanted, yielded, alike9_o26, alike9_o22, alike9_ops, tget z25 (by decide) t84]) (fun w1 hw => exec_move rfl t1) hHeld (fun a26 e26 => ?_)
  rw [← e26] at h
  have z26 := pz e26 z25
  replace t0 := pk e26 t0
  replace t1 := pk e26 t1
  replace t8 := pk e26 t8
  replace t84 := pk e26 t84
  replace t85 := pk e26 t85
  replace t86 := pk e26 t86
  have t88 := pq e26 z25
  clear e26 z25
  refine tk 27 alike9_o27 (kv) (by simp [Region.wanted, yielded, alike9_o27, alike9_o22, alike9_ops, tget z26 (by decide) t84]) (fun w1 hw => exec_load rfl t8 (G9 _ hw)) hHeld (fun a27 e27 => ?_)
  rw [← e27] at h
  have z27 := pz e27 z26
  replace t0 := pk e27 t0
  replace t1 := pk e27 t1
  replace t8 := pk e27 t8
  replace t84 := pk e27 t84
  replace t85 := pk e27 t85
  replace t86 := pk e27 t86
  replace t88 := pk e27 t88
  have t89 := pq e27 z26
  clear e27 z26
  refine wpAnyH_ready (rs := [25]) (by kernel_rfl) (by simp) ?_
  refine AllReadyH.cons (o := alike9_o25) rfl (fun K hK => ?_) AllReadyH.nil
  rw [if_pos (by simp [Region.wanted, yielded, alike9_o25, alike9_o22, alike9_ops, tget z27 (by decide) t84])]
  unfold alike9_o25 at hK ⊢
  go_simp
  refine (CDT _ hHeld).mono ?_
  rintro e x28 ⟨rfl, l1⟩
  try go_wp2_with fail
  skip
  refine hK.out _ _ (hHeld.trans (l1.mono (hN _ hHeld))) (fun hHeld => ?_)
  clear hK K
  change wpAnyH _ _ _ _ _ _ _ (a27.put (some 87) (.int .i64 dd)) _
  obtain ⟨a28, e28⟩ : ∃ act, act = a27.put (some 87) (.int .i64 dd) := ⟨_, rfl⟩
  rw [← e28] at h ⊢
  have z28 := pz e28 z27
  replace t0 := pk e28 t0
  replace t1 := pk e28 t1
  replace t8 := pk e28 t8
  replace t84 := pk e28 t84
  clear t85
  clear t86
  replace t88 := pk e28 t88
  replace t89 := pk e28 t89
  have t87 := pq e28 z27
  clear e28 z27
  refine wpAnyH_ready (rs := [28]) (by kernel_rfl) (by simp) ?_
  refine AllReadyH.cons (o := alike9_o28) rfl (fun K hK => ?_) AllReadyH.nil
  rw [if_pos (by simp [Region.wanted, yielded, alike9_o28, alike9_o22, alike9_ops, tget z28 (by decide) t84])]
  unfold alike9_o28 at hK ⊢
  go_simp
  refine (CDD _ hHeld).mono ?_
  rintro e x29 ⟨rfl, l1⟩
  try go_wp2_with fail
  skip
  refine hK.out _ _ (hHeld.trans (l1.mono (hN _ hHeld))) (fun hHeld => ?_)
  clear hK K
  change wpAnyH _ _ _ _ _ _ _ (a28.put (some 90) (.int .i64 dd)) _
  obtain ⟨a29, e29⟩ : ∃ act, act = a28.put (some 90) (.int .i64 dd) := ⟨_, rfl⟩
  rw [← e29] at h ⊢
  have z29 := pz e29 z28
  replace t0 := pk e29 t0
  replace t1 := pk e29 t1
  replace t8 := pk e29 t8
  replace t84 := pk e29 t84
  clear t88
  clear t89
  replace t87 := pk e29 t87
  have t90 := pq e29 z28
  clear e29 z28
  refine tk 29 alike9_o29 (.bool false) (by simp [Region.wanted, yielded, alike9_o29, alike9_o22, alike9_ops, tget z29 (by decide) t84]) (fun w1 hw => exec_binOp rfl t87 t90 (G12 _) (G13 _ hw)) hHeld (fun a30 e30 => ?_)
  rw [← e30] at h
  have z30 := pz e30 z29
  replace t0 := pk e30 t0
  replace t1 := pk e30 t1
  replace t8 := pk e30 t8
  replace t84 := pk e30 t84
  clear t87
  clear t90
  have t91 := pq e30 z29
  clear e30 z29
  refine tk 30 alike9_o30 (.bool false) (by rfl) (fun w1 hw => by unfold alike9_o30; go_simp) hHeld (fun a31 e31 => ?_)
  rw [← e31] at h
  have z31 := pz e31 z30
  replace t0 := pk e31 t0
  replace t1 := pk e31 t1
  replace t8 := pk e31 t8
  clear t84
  clear t91
  have t92 := pq e31 z30
  clear e31 z30
  refine tk 31 alike9_o31 (.bool false) (by rfl) (fun w1 hw => exec_move rfl t92) hHeld (fun a32 e32 => ?_)
  rw [← e32] at h
  have z32 := pz e32 z31
  replace t0 := pk e32 t0
  replace t1 := pk e32 t1
  replace t8 := pk e32 t8
  clear t92
  have t93 := pq e32 z31
  clear e32 z31
  refine tk 32 alike9_o32 (tv) (by simp [Region.wanted, yielded, alike9_o32, alike9_o31, alike9_ops, tget z32 (by decide) t93]) (fun w1 hw => exec_move rfl t0) hHeld (fun a33 e33 => ?_)
  rw [← e33] at h
  have z33 := pz e33 z32
  clear t0
  replace t1 := pk e33 t1
  replace t8 := pk e33 t8
  replace t93 := pk e33 t93
  have t94 := pq e33 z32
  clear e33 z32
  refine tk 33 alike9_o33 (kv) (by simp [Region.wanted, yielded, alike9_o33, alike9_o31, alike9_ops, tget z33 (by decide) t93]) (fun w1 hw => exec_load rfl t8 (G9 _ hw)) hHeld (fun a34 e34 => ?_)
  rw [← e34] at h
  have z34 := pz e34 z33
  replace t1 := pk e34 t1
  replace t8 := pk e34 t8
  replace t93 := pk e34 t93
  replace t94 := pk e34 t94
  have t95 := pq e34 z33
  clear e34 z33
  refine tk 35 alike9_o35 (dv) (by simp [Region.wanted, yielded, alike9_o35, alike9_o31, alike9_ops, tget z34 (by decide) t93]) (fun w1 hw => exec_move rfl t1) hHeld (fun a35 e35 => ?_)
  rw [← e35] at h
  have z35 := pz e35 z34
  clear t1
  replace t8 := pk e35 t8
  replace t93 := pk e35 t93
  replace t94 := pk e35 t94
  replace t95 := pk e35 t95
  have t97 := pq e35 z34
  clear e35 z34
  refine tk 36 alike9_o36 (kv) (by simp [Region.wanted, yielded, alike9_o36, alike9_o31, alike9_ops, tget z35 (by decide) t93]) (fun w1 hw => exec_load rfl t8 (G9 _ hw)) hHeld (fun a36 e36 => ?_)
  rw [← e36] at h
  have z36 := pz e36 z35
  clear t8
  replace t93 := pk e36 t93
  replace t94 := pk e36 t94
  replace t95 := pk e36 t95
  replace t97 := pk e36 t97
  have t98 := pq e36 z35
  clear e36 z35
  refine wpAnyH_ready (rs := [34]) (by kernel_rfl) (by simp) ?_
  refine AllReadyH.cons (o := alike9_o34) rfl (fun K hK => ?_) AllReadyH.nil
  rw [if_pos (by simp [Region.wanted, yielded, alike9_o34, alike9_o31, alike9_ops, tget z36 (by decide) t93])]
  unfold alike9_o34 at hK ⊢
  go_simp
  refine (CKT _ hHeld).mono ?_
  rintro e x37 ⟨v, rfl, iv, l1⟩
  try go_wp2_with fail
  replace h := h v
  refine hK.out _ _ (hHeld.trans (l1.mono (hN _ hHeld))) (fun hHeld => ?_)
  clear hK K
  change wpAnyH _ _ _ _ _ _ _ (a36.put (some 96) (v)) _
  obtain ⟨a37, e37⟩ : ∃ act, act = a36.put (some 96) (v) := ⟨_, rfl⟩
  rw [← e37] at h ⊢
  have z37 := pz e37 z36
  replace t93 := pk e37 t93
  clear t94
  clear t95
  replace t97 := pk e37 t97
  replace t98 := pk e37 t98
  have t96 := pq e37 z36
  clear e37 z36
  refine wpAnyH_ready (rs := [37]) (by kernel_rfl) (by simp) ?_
  refine AllReadyH.cons (o := alike9_o37) rfl (fun K hK => ?_) AllReadyH.nil
  rw [if_pos (by simp [Region.wanted, yielded, alike9_o37, alike9_o31, alike9_ops, tget z37 (by decide) t93])]
  unfold alike9_o37 at hK ⊢
  go_simp
  refine (CKD _ hHeld).mono ?_
  rintro e x38 ⟨u, rfl, iu, l1⟩
  try go_wp2_with fail
  replace h := h u; replace iv := KI _ _ _ iv l1
  refine hK.out _ _ (hHeld.trans (l1.mono (hN _ hHeld))) (fun hHeld => ?_)
  clear hK K
  change wpAnyH _ _ _ _ _ _ _ (a37.put (some 99) (u)) _
  obtain ⟨a38, e38⟩ : ∃ act, act = a37.put (some 99) (u) := ⟨_, rfl⟩
  rw [← e38] at h ⊢
  have z38 := pz e38 z37
  replace t93 := pk e38 t93
  clear t97
  clear t98
  replace t96 := pk e38 t96
  have t99 := pq e38 z37
  clear e38 z37
  refine wpAnyH_ready (rs := [38]) (by kernel_rfl) (by simp) ?_
  refine AllReadyH.cons (o := alike9_o38) rfl (fun K hK => ?_) AllReadyH.nil
  rw [if_pos (by simp [Region.wanted, yielded, alike9_o38, alike9_o31, alike9_ops, tget z38 (by decide) t93])]
  unfold alike9_o38 at hK ⊢
  go_simp
  refine (CS _ _ _ hHeld iv iu).mono ?_
  rintro e x39 ⟨rfl, l1⟩
  try go_wp2_with fail
  skip
  refine hK.out _ _ (hHeld.trans (l1.mono (hN _ hHeld))) (fun hHeld => ?_)
  clear hK K
  change wpAnyH _ _ _ _ _ _ _ (a38.put (some 100) (.bool true)) _
  obtain ⟨a39, e39⟩ : ∃ act, act = a38.put (some 100) (.bool true) := ⟨_, rfl⟩
  rw [← e39] at h ⊢
  have z39 := pz e39 z38
  replace t93 := pk e39 t93
  clear t96
  clear t99
  have t100 := pq e39 z38
  clear e39 z38
  refine tk 39 alike9_o39 (.bool false) (by simp [Region.wanted, yielded, alike9_o39, alike9_o31, alike9_ops, tget z39 (by decide) t93]) (fun w1 hw => by unfold alike9_o39; go_simp) hHeld (fun a40 e40 => ?_)
  rw [← e40] at h
  have z40 := pz e40 z39
  replace t93 := pk e40 t93
  clear t100
  have t101 := pq e40 z39
  clear e40 z39
  refine tk 40 alike9_o40 (.bool false) (by rfl) (fun w1 hw => by unfold alike9_o40; go_simp) hHeld (fun a41 e41 => ?_)
  rw [← e41] at h
  have z41 := pz e41 z40
  clear t93
  clear t101
  clear e41 z40
  exact wpAnyH_done (by kernel_rfl) (NoPanic.normal (h _ _ (hHeld) rfl)) _
theorem live_exist {f : Fn} (hf : Forest f) (k : IdK) : ∃ b, LiveIs f k b := by
  cases h : (f k).isSome with
  | false => exact ⟨false, Or.inl ⟨h, rfl⟩⟩
  | true => obtain ⟨l, p, hc⟩ := hf.ends k; exact ⟨_, Or.inr ⟨h, l, p, hc, rfl⟩⟩
theorem deep_exist {f : Fn} (hf : Forest f) (k : IdK) : ∃ d, DeepIs f k d := by
  cases h : (f k).isSome with
  | false => exact ⟨-1, Or.inl ⟨h, rfl⟩⟩
  | true => obtain ⟨l, p, hc⟩ := hf.ends k; exact ⟨_, Or.inr ⟨h, l, p, hc, rfl⟩⟩
theorem same_is (L : List IdK) (ok : ∀ x ∈ L, x.ok) (hl : L.length ≤ 1300000000000) (W : World) (v u : Value) (h1 : IdsIs L W v) (h2 : IdsIs L W u) :
    Calls Try.prog 28 #[v, u] W fun e w' => e = .returned (.bool true) ∧ Below W.heap.size W w' := by
  obtain ⟨a1, c1, rfl, h1⟩ := h1
  obtain ⟨a2, c2, rfl, h2⟩ := h2
  refine (same_ids a1 a2 c1 c2 L L W h1 h2 ok ok (by omega)).mono ?_
  rintro e w' ⟨rfl, bw⟩
  exact ⟨by simp, bw⟩
theorem alike_any (w0 : World) (tv dv : Value) (f : Fn) (D : List IdK) (hf : Forest f) (hD : Dom f D) (hl : D.length ≤ 1300000000000) (hU : ∀ k, (nd f k).u.ok) (a : Option Addr) (c : Nat) (I : List IdK) (hI : IdsAt w0 a I) (oI : ∀ x ∈ I, x.ok) (lI : I.length ≤ 7000000000000)
    (T : Tells w0 tv f D 21 23 24 37 39 29)
    (R : Tells w0 dv f D 34 35 36 38 40 41) :
    Calls Try.prog 13 #[tv, dv, .slice a I.length c] w0 fun e w' => e = .returned (.bool true) ∧ Below w0.heap.size w0 w' := by
  obtain ⟨Wk, hWk⟩ := walk_exist hf hD
  obtain ⟨K0, hK0⟩ := kids_exist hD zId
  have hWl := hWk.le hf hD
  have hKl := hK0.le hD
  obtain ⟨n, hnn⟩ : ∃ n, I.length = n := ⟨_, rfl⟩
  have HNn := hidMk hnn
  have HLn := hidMk lI
  rw [hnn]
  obtain ⟨dn, hdn⟩ : ∃ dn : Nat, D.length = dn := ⟨_, rfl⟩
  have HLT : Hid (∀ W, Below w0.heap.size w0 W → Calls Try.prog 21 #[tv] W fun e w' => e = .returned (.int .i64 (dn : Int)) ∧ Below W.heap.size W w') := by rw [← hdn]; exact T.len
  have HLR : Hid (∀ W, Below w0.heap.size w0 W → Calls Try.prog 34 #[dv] W fun e w' => e = .returned (.int .i64 (dn : Int)) ∧ Below W.heap.size W w') := by rw [← hdn]; exact R.len
  have HWT : Hid (∀ W, Below w0.heap.size w0 W → Calls Try.prog 23 #[tv] W fun e w' => ∃ v, e = .returned v ∧ IdsIs Wk w' v ∧ Below W.heap.size W w') := fun W b => (T.walk W b).mono fun e w' ⟨v, L, h1, h2, h3, h4⟩ => ⟨v, h1, by rw [hWk.unique h3]; exact h2, h4⟩
  have HWR : Hid (∀ W, Below w0.heap.size w0 W → Calls Try.prog 35 #[dv] W fun e w' => ∃ v, e = .returned v ∧ IdsIs Wk w' v ∧ Below W.heap.size W w') := fun W b => (R.walk W b).mono fun e w' ⟨v, L, h1, h2, h3, h4⟩ => ⟨v, h1, by rw [hWk.unique h3]; exact h2, h4⟩
  have KT : ∀ (k : IdK) (K : List IdK), k.ok → IsKids f k K → ∀ W, Below w0.heap.size w0 W → Calls Try.prog 24 #[tv, k.v] W fun e w' => ∃ v, e = .returned v ∧ IdsIs K w' v ∧ Below W.heap.size W w' := fun k K hk hK W b => (T.kids k hk W b).mono fun e w' ⟨v, L, h1, h2, h3, h4⟩ => ⟨v, h1, by rw [hK.unique h3]; exact h2, h4⟩
  have KR : ∀ (k : IdK) (K : List IdK), k.ok → IsKids f k K → ∀ W, Below w0.heap.size w0 W → Calls Try.prog 36 #[dv, k.v] W fun e w' => ∃ v, e = .returned v ∧ IdsIs K w' v ∧ Below W.heap.size W w' := fun k K hk hK W b => (R.kids k hk W b).mono fun e w' ⟨v, L, h1, h2, h3, h4⟩ => ⟨v, h1, by rw [hK.unique h3]; exact h2, h4⟩
  have HK0T := hidMk (KT zId K0 zId_ok hK0)
  have HK0R := hidMk (KR zId K0 zId_ok hK0)
  have HS1 := hidMk (same_is Wk (walk_ok hD hWk) (by omega))
  have HS2 := hidMk (same_is K0 hK0.ok (by omega))
  have HKT := hidMk KT
  have HKR := hidMk KR
  have HD := hidMk hdn
  clear KT KR hdn hnn lI
  go_enter Try.func13, Try.ntmps13
  go_wp2_with (first
    | (go_at_call 21; refine (HLT.out _ (Below.refl _ _)).mono ?_; rintro e w1 ⟨rfl, b1⟩; clear HLT)
    | (go_at_call 34; refine (HLR.out _ b1).mono ?_; rintro e w2 ⟨rfl, c2⟩; have b2 : Below w0.heap.size w0 w2 := b1.trans (c2.mono b1.size); clear HLR)
    | (go_at_call 23; refine (HWT.out _ b2).mono ?_; rintro e w3 ⟨v3, rfl, i3, c3⟩; have b3 : Below w0.heap.size w0 w3 := b2.trans (c3.mono b2.size); clear HWT)
    | (go_at_call 35; refine (HWR.out _ b3).mono ?_; rintro e w4 ⟨v4, rfl, i4, c4⟩; have b4 : Below w0.heap.size w0 w4 := b3.trans (c4.mono b3.size); replace i3 := IdsIs.keep _ _ _ i3 c4; clear HWR)
    | (go_at_call_of 28 v3; refine (HS1.out _ _ _ i3 i4).mono ?_; rintro e w5 ⟨rfl, c5⟩; have b5 : Below w0.heap.size w0 w5 := b4.trans (c5.mono b4.size); clear HS1 i3 i4)
    | (refine wpList_val rfl (exec_build0 rfl (build_id _)) ?_)
    | (go_at_call 24; refine (HK0T.out _ b5).mono ?_; rintro e w6 ⟨v6, rfl, i6, c6⟩; have b6 : Below w0.heap.size w0 w6 := b5.trans (c6.mono b5.size); clear HK0T)
    | (go_at_call 36; refine (HK0R.out _ b6).mono ?_; rintro e w7 ⟨v7, rfl, i7, c7⟩; have b7 : Below w0.heap.size w0 w7 := b6.trans (c7.mono b6.size); replace i6 := IdsIs.keep _ _ _ i6 c7; clear HK0R)
    | (go_at_call_of 28 v6; refine (HS2.out _ _ _ i6 i7).mono ?_; rintro e w8 ⟨rfl, c8⟩; have b8 : Below w0.heap.size w0 w8 := b7.trans (c8.mono b7.size); clear HS2 i6 i7)
    | fail)
  clear b1 b2 b3 b4 b5 b6 b7 c2 c3 c4 c5 c6 c7 c8
  go_loopw [7] (fun v7 wr => ∃ i : Nat, v7 = .int .i64 (i : Int) ∧ i ≤ n ∧ Below w0.heap.size w0 wr) (fun v7 wr => n - (match v7 with | .int _ i => i.toNat | _ => 0))
  case atStart => exact ⟨0, rfl, Nat.zero_le _, b8⟩
  case round =>
    clear b8
    obtain ⟨i, rfl, hin, bel⟩ := hrel
    have hLn := HNn.out
    have hbig := HLn.out
    by_cases hi : i < n
    · have hxi : I[i]? = some I[i] := List.getElem?_eq_getElem (by omega)
      generalize I[i] = x at hxi
      have hxo : x.ok := oI x (List.mem_of_getElem? hxi)
      obtain ⟨b, o, rfl, lb, hr⟩ : ∃ b o, a = some ⟨b, o, none⟩ ∧ b < w0.heap.size ∧ w0.rangeAt b (o + i * 33) x.c := by
        rcases hI with rfl | ⟨b, o, e, h1, h2⟩
        · simp at hxi
        · exact ⟨b, o, e, h1, by rw [Nat.mul_comm]; exact h2 i x hxi⟩
      have HL := hidMk (load_id_at hxo (rangeAt_keep hr (bel.block _ lb)))
      obtain ⟨wz, ea, es⟩ := id_new wr x hxo
      obtain ⟨wa, hwa⟩ : ∃ wa, wr.alloc (.cells x.c.toArray 37) = wa := ⟨_, rfl⟩
      have ba : Below wr.heap.size wr wa := by rw [← hwa]; exact (Below.refl _ _).alloc (Nat.le_refl _) _
      have za : wa.heap.size = wr.heap.size + 1 := by rw [← hwa]; simp
      have hxa : IdAt wa wr.heap.size x := by rw [← hwa]; exact heap_alloc_new _ _
      rw [hwa] at es
      have HEA := hidMk ea
      have HES := hidMk es
      have bela : Below w0.heap.size w0 wa := bel.trans (ba.mono bel.size)
      have hbw := bel.size
      have HZA := hidMk za
      clear ea es hwa hxi hr lb za
      go_upto_region 7 with (first
        | (refine wpList_val rfl (exec_load (t := 37) (u := .pointer (some ⟨b, o + i * 33, none⟩)) rfl rfl HL.out) ?_)
        | (refine wpList_run rfl (exec_alloc (t := 37) rfl HEA.out) ?_)
        | (refine wpList_skip rfl rfl (exec_store (t := 37) rfl rfl rfl HES.out) ?_)
        | fail)
      simp only [Act.put, List.setIfInBounds_toArray, List.set_cons_zero, List.set_cons_succ]
      clear HL HEA HES
      obtain ⟨bi, hbi⟩ : ∃ bi, wr.heap.size = bi := ⟨_, rfl⟩
      rw [hbi] at hxa HZA hbw ⊢
      have HBI := hidMk hbi
      clear hbi
      have HUT := hidMk (T.under x hxo wa bela)
      have HUR := hidMk (R.under x hxo)
      have hUo := hU x
      obtain ⟨uu, huu⟩ : ∃ uu, (nd f x).u = uu := ⟨_, rfl⟩
      obtain ⟨ks, hks⟩ : ∃ ks, (nd f x).key = ks := ⟨_, rfl⟩
      obtain ⟨pb, hpb⟩ : ∃ pb, ((f x).isSome && !(nd f x).pr) = pb := ⟨_, rfl⟩
      rw [huu, hks, hpb] at HUT HUR
      rw [huu] at hUo
      clear huu hks hpb
      have HLa := hidMk (load_id hxo hxa)
      go_upto_region 8 with (first
        | (refine wpList_val rfl (exec_load (t := 37) (u := .pointer (some ⟨bi, 0, none⟩)) rfl rfl HLa.out) ?_)
        | (go_at_call 37; refine HUT.out.mono ?_; rintro e w9 ⟨rfl, c9⟩; obtain ⟨wz9, ea9, es9⟩ := id_new w9 uu hUo; have HEA9 := hidMk ea9; have HES9 := hidMk es9; clear ea9 es9 HUT)
        | (refine wpList_run rfl (exec_alloc (t := 37) rfl HEA9.out) ?_)
        | (refine wpList_skip rfl rfl (exec_store (t := 37) (xv := .pointer (some ⟨w9.heap.size, 0, none⟩)) (yv := uu.v) rfl rfl rfl HES9.out) ?_)
        | fail)
      obtain ⟨hu9, cu9, zu9⟩ := box_id w9 uu
      generalize w9.alloc (.cells uu.c.toArray 37) = w10 at *
      have bel9 : Below w0.heap.size w0 w9 := bela.trans (c9.mono bela.size)
      have bel10 : Below w0.heap.size w0 w10 := bel9.trans (cu9.mono bel9.size)
      have s9 : wa.heap.size ≤ w9.heap.size := c9.size
      have hx10 : IdAt w10 bi x := (cu9.block _ (by have := HZA.out; omega)).trans ((c9.block _ (by have := HZA.out; omega)).trans hxa)
      have HL10 := hidMk (load_id hxo hx10)
      have HUR2 := hidMk (HUR.out w10 bel10)
      obtain ⟨bu, hbu⟩ : ∃ bu, w9.heap.size = bu := ⟨_, rfl⟩
      rw [hbu] at hu9 zu9 cu9 s9 ⊢
      have HZ10 := hidMk zu9
      have HBU := hidMk hbu
      clear hbu zu9 HLa HUR c9 HEA9 HES9
      go_upto_region 9 with (first
        | (refine wpList_val rfl (exec_load (t := 37) (u := .pointer (some ⟨bi, 0, none⟩)) rfl rfl HL10.out) ?_)
        | (go_at_call 38; refine HUR2.out.mono ?_; rintro e w11 ⟨rfl, c11⟩; obtain ⟨wz11, ea11, es11⟩ := id_new w11 uu hUo; have HEA11 := hidMk ea11; have HES11 := hidMk es11; clear ea11 es11 HUR2)
        | (refine wpList_run rfl (exec_alloc (t := 37) rfl HEA11.out) ?_)
        | (refine wpList_skip rfl rfl (exec_store (t := 37) (xv := .pointer (some ⟨w11.heap.size, 0, none⟩)) (yv := uu.v) rfl rfl rfl HES11.out) ?_)
        | fail)
      obtain ⟨hu11, cu11, zu11⟩ := box_id w11 uu
      generalize w11.alloc (.cells uu.c.toArray 37) = w12 at *
      have bel11 : Below w0.heap.size w0 w11 := bel10.trans (c11.mono bel10.size)
      have bel12 : Below w0.heap.size w0 w12 := bel11.trans (cu11.mono bel11.size)
      have s11 : w10.heap.size ≤ w11.heap.size := c11.size
      have z10 := HZ10.out
      have zA := HZA.out
      have hx12 : IdAt w12 bi x := (cu11.block _ (by omega)).trans ((c11.block _ (by omega)).trans hx10)
      have hu12 : IdAt w12 bu uu := (cu11.block _ (by omega)).trans ((c11.block _ (by omega)).trans hu9)
      obtain ⟨lb, hlb⟩ := live_exist hf x
      obtain ⟨dd, hdd⟩ := deep_exist hf x
      obtain ⟨K, hK⟩ := kids_exist hD x
      have hKlen := hK.le hD
      have b12 : ∀ W, Below w12.heap.size w12 W → Below w0.heap.size w0 W := fun W b => bel12.trans (b.mono bel12.size)
      have lbu : bu < w12.heap.size := (Array.getElem?_eq_some_iff.1 hu12).1
      have lbi : bi < w12.heap.size := (Array.getElem?_eq_some_iff.1 hx12).1
      have lbv : w11.heap.size < w12.heap.size := (Array.getElem?_eq_some_iff.1 hu11).1
      refine alike9 w12.heap.size w12 bi bu w11.heap.size tv dv x.v uu.v ks pb lb dd (IdsIs K) _ w12 _ rfl rfl rfl rfl rfl rfl rfl rfl rfl rfl (Below.refl _ _).drew (fun W b => b.size) IdsIs.keep ?_ ?_ ?_ ?_ ?_ ?_ ?_ ?_ ?_ ?_ ?_ ?_ ?_ ?_ ?_ ?_ ?_ ?_ ?_ ?_ ?_
      · exact fun W b => (T.live x hxo W (b12 W b)).mono fun e w' ⟨q, h1, h2, h3⟩ => ⟨by rw [hlb.unique h2]; exact h1, h3⟩
      · exact fun W b => (R.live x hxo W (b12 W b)).mono fun e w' ⟨q, h1, h2, h3⟩ => ⟨by rw [hlb.unique h2]; exact h1, h3⟩
      · exact fun W b => (T.deep x hxo W (b12 W b)).mono fun e w' ⟨q, h1, h2, h3⟩ => ⟨by rw [hdd.unique h2]; exact h1, h3⟩
      · exact fun W b => (R.deep x hxo W (b12 W b)).mono fun e w' ⟨q, h1, h2, h3⟩ => ⟨by rw [hdd.unique h2]; exact h1, h3⟩
      · exact fun W b => HKT.out x K hxo hK W (b12 W b)
      · exact fun W b => HKR.out x K hxo hK W (b12 W b)
      · exact fun W v u b h1 h2 => same_is K hK.ok (by omega) W v u h1 h2
      · exact fun W b => load_id hUo ((b.block _ lbu).trans hu12)
      · exact fun W b => load_id hUo ((b.block _ lbv).trans hu11)
      · exact fun W => guard_id _ _ uu uu W _
      · exact fun W b => by rw [neq_id uu uu hUo hUo]; simp
      · exact fun W => by go_simp
      · exact fun W b => by go_simp
      · exact fun W => by go_simp
      · exact fun W b => by go_simp
      · exact fun W b => load_id hxo ((b.block _ lbi).trans hx12)
      · exact fun W => by go_simp
      · exact fun W b => by go_simp
      · exact fun W => by go_simp
      · exact fun W b => by go_simp
      intro v u a' w13 b13 ha
      subst ha
      simp only [Act.put, List.setIfInBounds_toArray, List.set_cons_zero, List.set_cons_succ]
      have bel13 := b12 _ b13
      clear b13 b12
      go_wp2
      rw [show ((i : Int) + 1) = ((i + 1 : Nat) : Int) by omega]
      refine ⟨⟨i + 1, rfl, hi, bel13⟩, ?_⟩
      show n - ((i + 1 : Nat) : Int).toNat < n - (i : Int).toNat
      omega
    · obtain rfl : i = n := by omega
      clear hLn hin hi
      go_wp2
      go_ret
      exact ⟨rfl, bel⟩
theorem up_len {f : Fn} (hf : Forest f) {D : List IdK} (hD : Dom f D) {k : IdK} {l : List IdK} {b : Bool} (h : UpIs f k l b) : l.length ≤ D.length := by
  rcases h with ⟨_, rfl, _⟩ | ⟨_, p, hc, _⟩
  · simp
  · exact climb_le hf hD hc
section
variable (d : Nat) (NL : List (IdK × NodeV)) (pv : Value)
theorem rlies_any (k u : IdK) (w : World) (h : RefAt w d NL pv) (hk : k.ok) (hu : u.ok) (hn : NL.length ≤ 1300000000000) (hf : Forest (lookN NL)) :
    Calls Try.prog 76 #[.pointer (some ⟨d, 0, none⟩), k.v, u.v] w fun e w' => ∃ l b, e = .returned (.bool (decide (u ∈ l))) ∧ UpIs (lookN NL) k l b ∧ Below w.heap.size w w' := by
  have HU := hidMk (fun (W : World) (b : Below w.heap.size w W) => rup_any d NL pv k W (h.below b) hk hn hf)
  have HLn := hidMk (fun (l : List IdK) (b : Bool) (q : UpIs (lookN NL) k l b) => Nat.le_trans (up_len hf (ref_dom d NL pv h) q) (by rw [List.length_map]; exact hn))
  clear hn
  unfold IdK.v
  go_enter Try.func76, Try.ntmps76
  go_upto_region 1 with fail
  obtain ⟨hx, hy, bx, zx⟩ := two_boxes w k u
  have ZX := hidMk zx
  clear zx
  generalize (w.alloc (.cells k.c.toArray 37)).alloc (.cells u.c.toArray 37) = W at *
  have HX := hidMk (load_id hk hx)
  go_wp2_with (first
    | (refine wpList_val rfl (exec_load (t := 37) (u := .pointer (some ⟨w.heap.size, 0, none⟩)) rfl rfl HX.out) ?_)
    | (go_at_call 79; refine (HU.out _ bx).mono ?_; rintro e w1 ⟨v, l, b, rfl, ov, hup, okl, b1⟩; obtain ⟨a1, c1, rfl, hl1, _⟩ := ov.open okl; obtain ⟨m, hm⟩ : ∃ m, l.length = m := ⟨_, rfl⟩; have HM := hidMk hm; have HB := hidMk (HLn.out l b hup); rw [hm]; clear hm ov HU HX)
    | fail)
  have zx := ZX.out
  have hy1 : IdAt w1 (w.heap.size + 1) u := (b1.block _ (by omega)).trans hy
  have bw1 : Below w.heap.size w w1 := bx.trans (b1.mono bx.size)
  have ly1 : w.heap.size + 1 < w1.heap.size := (Array.getElem?_eq_some_iff.1 hy1).1
  clear zx hy hx b1 bx
  obtain ⟨bu, hbu⟩ : ∃ bu, w.heap.size + 1 = bu := ⟨_, rfl⟩
  rw [hbu] at hy1 ly1 ⊢
  clear hbu
  go_loopw [9] (fun v9 wr => ∃ i : Nat, v9 = .int .i64 (i : Int) ∧ i ≤ m ∧ u ∉ l.take i ∧ Below w1.heap.size w1 wr) (fun v9 wr => m - (match v9 with | .int _ i => i.toNat | _ => 0))
  case atStart => exact ⟨0, rfl, Nat.zero_le _, by simp, Below.refl _ _⟩
  case round =>
    obtain ⟨i, rfl, him, hnot, bel⟩ := hrel
    have hm := HM.out
    have hbig := HB.out
    have HNO := hidMk hnot
    clear hnot
    by_cases hi : i < m
    · have hxi : l[i]? = some l[i] := List.getElem?_eq_getElem (by omega)
      generalize l[i] = x at hxi
      have hxo : x.ok := okl x (List.mem_of_getElem? hxi)
      obtain ⟨b2, o, rfl, lb, hr⟩ : ∃ b o, a1 = some ⟨b, o, none⟩ ∧ b < w1.heap.size ∧ w1.rangeAt b (o + i * 33) x.c := by
        rcases hl1 with rfl | ⟨b, o, e, h1, h2⟩
        · simp at hxi
        · exact ⟨b, o, e, h1, by rw [Nat.mul_comm]; exact h2 i x hxi⟩
      have HXI := hidMk hxi
      clear hxi
      have beld : Below w1.heap.size w1 wr.drew := bel.drew
      go_upto_region 5 with fail
      refine rlies5 b2 (o + i * 33) bu (.slice (some ⟨b2, o, none⟩) m c1) (.int .i64 (i : Int)) x.v u.v (decide (x = u)) _ wr _ rfl rfl rfl rfl ?_ ?_ ?_ ?_ ?_ ?_
      · exact fun W => ix_id hi (by omega) W
      · exact fun W hw => by rw [hw]; exact load_id_at hxo (rangeAt_keep hr (beld.block _ lb))
      · exact fun W hw => by rw [hw]; exact load_id hu ((beld.block _ ly1).trans hy1)
      · exact fun W => guard_id _ _ x u W _
      · exact fun W hw => eql_id x u hxo hu W
      intro a' w' hw' ha
      subst hw' ha
      simp only [Act.put, List.setIfInBounds_toArray, List.set_cons_zero, List.set_cons_succ]
      by_cases e : x = u
      · have hmem : u ∈ l := by rw [← e]; exact List.mem_of_getElem? HXI.out
        rw [decide_eq_true e]
        go_wp2
        go_ret
        exact ⟨l, b, by simp [hmem], hup, bw1.trans (beld.mono bw1.size)⟩
      · rw [decide_eq_false e]
        go_wp2
        rw [show ((i : Int) + 1) = ((i + 1 : Nat) : Int) by omega]
        refine ⟨⟨i + 1, rfl, hi, ?_, beld⟩, ?_⟩
        · rw [List.take_add_one, HXI.out]
          have := HNO.out
          simp only [List.mem_append, Option.toList_some, List.mem_singleton, not_or]
          exact ⟨this, fun q => e q.symm⟩
        · show m - ((i + 1 : Nat) : Int).toNat < m - (i : Int).toNat
          omega
    · obtain rfl : i = m := by omega
      have hnl : u ∉ l := by have := HNO.out; rwa [List.take_of_length_le (by omega)] at this
      clear hm him hi hbig
      go_wp2
      go_ret
      exact ⟨l, b, by simp [hnl], hup, bw1.trans (bel.mono bw1.size)⟩
end
def Vals (w : World) (a : Option Addr) (X : List Value) : Prop := X = [] ∨ ∃ b off, a = some ⟨b, off, none⟩ ∧ ∀ j u, X[j]? = some u → w.cell? ⟨b, off + j, none⟩ = some u
def OwnV (w : World) (base : Nat) (e : TypeId) (v : Value) (X : List Value) : Prop := w.ownsRow base e 1 v X.length X
theorem Vals.below {w w' : World} {a : Option Addr} {X : List Value} (h : Vals w a X) (hb : Below w.heap.size w w') : Vals w' a X := by
  rcases h with rfl | ⟨b, off, rfl, hc⟩
  · exact .inl rfl
  · exact .inr ⟨b, off, rfl, fun j u hj => (hb.cell (p := ⟨b, off + j, none⟩) (block_lt_of_cell (hc j u hj))).trans (hc j u hj)⟩
theorem OwnV.below {w w' : World} {base : Nat} {e : TypeId} {v : Value} {X : List Value} (h : OwnV w base e v X) (hb : Below w.heap.size w w') : OwnV w' base e v X := by
  refine ⟨h.1, ?_⟩
  rcases h.2 with hn | ⟨g, cap, cur, rfl, hbg, hg, rest⟩
  · exact .inl hn
  · exact .inr ⟨g, cap, cur, rfl, hbg, by rw [hb.block g (Array.getElem?_eq_some_iff.1 hg).1]; exact hg, rest⟩
theorem OwnV.keep {w w' : World} {base : Nat} {e : TypeId} {v : Value} {X : List Value} (h : OwnV w base e v X) (hk : ∀ k, v.ownBlock = some k → w'.heap[k]? = w.heap[k]?) : OwnV w' base e v X := by
  refine ⟨h.1, ?_⟩
  rcases h.2 with hn | ⟨g, cap, cur, rfl, hbg, hg, rest⟩
  · exact .inl hn
  · exact .inr ⟨g, cap, cur, rfl, hbg, by rw [hk g rfl]; exact hg, rest⟩
theorem OwnV.ge {w : World} {base : Nat} {e : TypeId} {v : Value} {X : List Value} (h : OwnV w base e v X) : ∀ j, v.ownBlock = some j → base ≤ j ∧ ∃ c, w.heap[j]? = some (.cells c e (0, 0)) := by
  intro j hj
  rcases h.2 with ⟨rfl, hn⟩ | ⟨g, cap, cur, rfl, hbg, hg, rest⟩
  · cases hj
  · obtain rfl : g = j := by simpa [Value.ownBlock] using hj
    exact ⟨hbg, _, hg⟩
theorem OwnV.open {w : World} {base : Nat} {e : TypeId} {v : Value} {X : List Value} (h : OwnV w base e v X) :
    ∃ a cap, v = .slice a X.length cap ∧ X.length ≤ cap ∧ Vals w a X ∧ (a = none → X = [] ∧ cap = 0) := by
  rcases h.2 with ⟨rfl, hn⟩ | ⟨g, cap, cur, rfl, hbg, hg, hnc, hcm, hcs, htake⟩
  · obtain rfl : X = [] := List.eq_nil_of_length_eq_zero hn
    exact ⟨none, 0, rfl, Nat.le_refl _, .inl rfl, fun _ => ⟨rfl, rfl⟩⟩
  · refine ⟨some ⟨g, 0, none⟩, cap, rfl, hnc, .inr ⟨g, 0, rfl, fun j u hj => ?_⟩, fun h => by cases h⟩
    rw [Nat.zero_add, cell_of_row w g j cur e (0, 0) hg]
    rw [← htake, List.getElem?_take] at hj
    split at hj
    · simpa using hj
    · cases hj
theorem run_appV (T e y : TypeId) (z : Value) (ht : Try.prog.underlying T = some (.slice e)) (hi : (Try.prog.info? e).map (fun i => (i.zero, i.size, i.bytes)) = some (some z, 1, y)) (hy : y = 8 ∨ y = 24) (hz1 : z.cells.size = 1)
    (w : World) (base : Nat) (ty : TypeId) (v : Value) (L : List Value) (a : Option Addr) (M : List Value) (c : Nat) (hown : OwnV w base e v L) (hb : Vals w a M) (h1 : ∀ u ∈ M, u.oneCell' = true)
    (h : L.length + M.length ≤ 2000000000000) (hbase : base ≤ w.heap.size) :
    ∃ v' w', (Builtin.append_ #[T, T] ty #[v, .slice a M.length c]).run Try.prog w = .ok v' w' ∧ OwnV w' base e v' (L ++ M) ∧ w.grownBy w' v.ownBlock ∧ (v'.ownBlock = v.ownBlock ∨ v'.ownBlock = some w.heap.size) := by
  obtain ⟨i, hi, hz, hs, hby⟩ := info_parts hi
  cases a with
  | some ad =>
    have hnews : ∀ j u, M[j]? = some u → w.cell? (ad.add j) = some u := fun j u hj => by
      rcases hb with rfl | ⟨b, off, e, hc⟩
      · simp at hj
      · cases e
        rw [Addr.add_mid]
        exact hc j u hj
    obtain ⟨v', w', hr, h2, h3, h5⟩ := app_at (P := Try.prog) w base T ty e i z 1 y ht hi hz hs hby hz1 (by decide) v L.length L hown ad M.length c M (by omega) hnews h1 (by unfold maxLen; omega) (by rcases hy with rfl | rfl <;> omega) hbase
    refine ⟨v', w', hr, ?_, h3, h5⟩
    unfold OwnV
    rw [List.length_append]
    exact h2
  | none =>
    obtain rfl : M = [] := by
      rcases hb with rfl | ⟨b, off, e, _⟩
      · rfl
      · cases e
    rcases hown.2 with ⟨rfl, hn⟩ | ⟨g, cap, cur, rfl, hbg, hg, hnc, rest⟩
    · refine ⟨.slice none 0 0, w, ?_, by rw [List.append_nil]; exact hown, ⟨rfl, rfl, rfl, Nat.le_refl _, fun _ _ _ => rfl⟩, .inl rfl⟩
      simp [Builtin.append_, run_underlying ht, sizeOf, typeInfo, hi, Builtin.lenOf, Builtin.firstCells, loadCells, loadCellsFrom]
    · refine ⟨.slice (some ⟨g, 0, none⟩) L.length cap, w, ?_, by rw [List.append_nil]; exact hown, ⟨rfl, rfl, rfl, Nat.le_refl _, fun _ _ _ => rfl⟩, .inl rfl⟩
      simp [Builtin.append_, run_underlying ht, sizeOf, typeInfo, hi, Builtin.lenOf, Builtin.firstCells, hnc, storeCells]
structure RefP (B : Nat) (w : World) (d : Nat) (NL : List RN) (PL : List (List RN)) (vn vp : Value) (us : List Value) : Prop where
  cell : w.heap[d]? = some (.cells #[vn, vp] 86 (0, 0))
  nodes : OwnN w B vn NL
  past : OwnV w B 83 vp us
  len : us.length = PL.length
  lists : ∀ (i : Nat) u P, us[i]? = some u → PL[i]? = some P → OwnN w B u P
  dB : B ≤ d
  ap : ∀ (i : Nat) u j, us[i]? = some u → u.ownBlock = some j → vn.ownBlock ≠ some j
  ap2 : ∀ (i i' : Nat) u u' j, us[i]? = some u → us[i']? = some u' → i ≠ i' → u.ownBlock = some j → u'.ownBlock ≠ some j
  ok : ∀ p ∈ NL, RnOk p
  okP : ∀ P ∈ PL, ∀ p ∈ P, RnOk p
  nd : (NL.map (·.1)).Nodup
  ndP : ∀ P ∈ PL, (P.map (·.1)).Nodup
def refB (d : Nat) (vn vp : Value) (us : List Value) (j : Nat) : Prop := j = d ∨ vn.ownBlock = some j ∨ vp.ownBlock = some j ∨ ∃ (i : Nat) (u : Value), us[i]? = some u ∧ u.ownBlock = some j
section
variable {B : Nat} {w w' : World} {d : Nat} {NL : List RN} {PL : List (List RN)} {vn vp : Value} {us : List Value}
theorem RefP.ref (h : RefP B w d NL PL vn vp us) : RefAt w d NL vp := by
  obtain ⟨a, c, e, hr, _⟩ := h.nodes.open h.ok
  refine ⟨⟨a, c, by rw [← e]; exact h.cell, ?_⟩, h.ok, h.nd⟩
  rcases hr with hr | ⟨b, o, e, h1, h2⟩
  · exact Or.inl hr
  · exact Or.inr ⟨b, o, e, h1, fun i x hx => by rw [Nat.mul_comm]; exact h2 i x hx⟩
theorem RefP.keep {O : Nat → Prop} (h : RefP B w d NL PL vn vp us) (t : Tch O w w') (hO : ∀ j, refB d vn vp us j → ¬ O j) : RefP B w' d NL PL vn vp us := by
  have hb : ∀ j c T, w.heap[j]? = some (.cells c T (0, 0)) → refB d vn vp us j → w'.heap[j]? = w.heap[j]? := fun j c T hj hr => t.block j (Array.getElem?_eq_some_iff.1 hj).1 (hO j hr)
  refine ⟨(hb d _ _ h.cell (Or.inl rfl)).trans h.cell, h.nodes.keep fun j hj => ?_, h.past.keep fun j hj => ?_, h.len, fun i u P hu hP => (h.lists i u P hu hP).keep fun j hj => ?_, h.dB, h.ap, h.ap2, h.ok, h.okP, h.nd, h.ndP⟩
  · obtain ⟨_, c, hc⟩ := h.nodes.ge j hj; exact hb j _ _ hc (Or.inr (Or.inl hj))
  · obtain ⟨_, c, hc⟩ := h.past.ge j hj; exact hb j _ _ hc (Or.inr (Or.inr (Or.inl hj)))
  · obtain ⟨_, c, hc⟩ := (h.lists i u P hu hP).ge j hj; exact hb j _ _ hc (Or.inr (Or.inr (Or.inr ⟨i, u, hu, hj⟩)))
theorem RefP.ge (h : RefP B w d NL PL vn vp us) : ∀ j, refB d vn vp us j → B ≤ j ∧ j < w.heap.size := by
  rintro j (rfl | hj | hj | ⟨i, u, hu, hj⟩)
  · exact ⟨h.dB, (Array.getElem?_eq_some_iff.1 h.cell).1⟩
  · obtain ⟨g, c, hc⟩ := h.nodes.ge j hj; exact ⟨g, (Array.getElem?_eq_some_iff.1 hc).1⟩
  · obtain ⟨g, c, hc⟩ := h.past.ge j hj; exact ⟨g, (Array.getElem?_eq_some_iff.1 hc).1⟩
  · have hi : i < PL.length := by rw [← h.len]; exact (List.getElem?_eq_some_iff.1 hu).1
    obtain ⟨g, c, hc⟩ := (h.lists i u _ hu (List.getElem?_eq_getElem hi)).ge j hj
    exact ⟨g, (Array.getElem?_eq_some_iff.1 hc).1⟩
theorem RefP.below (h : RefP B w d NL PL vn vp us) (b : Below w.heap.size w w') : RefP B w' d NL PL vn vp us :=
  h.keep (O := fun _ => False) ⟨b.os, b.tape, b.output, b.size, fun k hk _ => b.block k hk⟩ fun _ _ q => q
end
theorem rnew_own (w : World) : Calls Try.prog 11 #[] w fun e w' => ∃ d, e = .returned (.pointer (some ⟨d, 0, none⟩)) ∧ RefP w.heap.size w' d [] [] (.slice none 0 0) (.slice none 0 0) [] ∧ Below w.heap.size w w' := by
  go_enter Try.func11, Try.ntmps11
  go_wp2
  go_ret
  refine ⟨_, rfl, ⟨heap_alloc_new _ _, ⟨rfl, Or.inl ⟨rfl, rfl⟩⟩, ⟨rfl, Or.inl ⟨rfl, rfl⟩⟩, rfl, by simp, Nat.le_refl _, by simp, by simp, by simp, by simp, by simp, by simp⟩, (Below.refl _ _).alloc (Nat.le_refl _) _⟩
theorem rsteps_any {B : Nat} {w : World} {d : Nat} {NL : List RN} {PL : List (List RN)} {vn vp : Value} {us : List Value} (h : RefP B w d NL PL vn vp us) :
    Calls Try.prog 33 #[.pointer (some ⟨d, 0, none⟩)] w fun e w' => e = .returned (.int .i64 (PL.length : Int)) ∧ Below w.heap.size w w' := by
  obtain ⟨a, c, e, _⟩ := h.past.open
  rw [h.len] at e
  subst e
  have hd := h.cell
  generalize PL.length = n at *
  have C1 : w.cell? ⟨d, 1, none⟩ = some (.slice a n c) := by rw [cell_of_row _ _ 1 _ _ _ hd]; rfl
  clear hd h
  go_enter Try.func33, Try.ntmps33
  go_wp2
  go_ret
  exact ⟨rfl, Below.refl _ _⟩
theorem infoNs : (Try.prog.info? 83).map (fun i => (i.zero, i.size, i.bytes)) = some (some (.slice none 0 0), 1, 24) := by kernel_rfl
theorem run_bsV (v : Value) (h1 : v.oneCell' = true) (hc : v.cells = #[v]) (w : World) : (Instr.buildSlice 84 1 #[(0, v)]).run Try.prog w = .ok (.slice (some ⟨w.heap.size, 0, none⟩) 1 1) (w.alloc (.cells #[v] 83)) := by
  obtain ⟨ie, hi, hz, hs, hby⟩ := info_parts infoNs
  refine run_buildSlice w 84 83 1 _ #[v] ie _ Try.underlying84 hi hz (by rw [hs]; decide) (by rw [hs]; decide) ?_
  rw [hs]
  have := Go.Great.fill_whole (s := 1) (by decide) [v] ((Array.range (1 * 1)).map ((Value.slice none 0 0).cells[· % (Value.slice none 0 0).cells.size]!)) (by intro u hu; simp at hu; subst hu; rw [hc]; rfl) (by simp)
  simpa [hc] using this
theorem run_bs0 (w : World) : (Instr.buildSlice 83 0 #[]).run Try.prog w = .ok (.slice (some ⟨w.heap.size, 0, none⟩) 0 0) (w.alloc (.cells #[] 114)) := by
  obtain ⟨ie, hi, hz, hs, hby⟩ := info_parts infoN
  simp [Instr.buildSlice, run_underlying Try.underlying83, sizeOf, typeInfo, zeroValue, hi, hz, hs, newRow, Instr.fill]
  rw [show Array.range 0 = #[] by simp [Array.range], Array.map_empty]
section
variable {w : World} {d : Nat} {vn vp : Value} (a : Option Addr) (n c : Nat) (h : w.heap[d]? = some (.cells #[vn, vp] 86 (0, 0)))
include h
theorem store_ref1 : (Instr.storeAt 84 (.pointer (some ⟨d, 1, none⟩)) (.slice a n c)).run Try.prog w = .ok () (w.setCell ⟨d, 1, none⟩ (.slice a n c)) := by
  have hc : w.cell? ⟨d, 1, none⟩ = some vp := by rw [cell_of_row _ _ 1 _ _ _ h]; rfl
  have hf := frozen_of_row w d 1 _ _ h
  go_simp
theorem store_ref0 : (Instr.storeAt 83 (.pointer (some ⟨d, 0, none⟩)) (.slice a n c)).run Try.prog w = .ok () (w.setCell ⟨d, 0, none⟩ (.slice a n c)) := by
  have hc : w.cell? ⟨d, 0, none⟩ = some vn := by rw [cell_of_row _ _ 0 _ _ _ h]; rfl
  have hf := frozen_of_row w d 0 _ _ h
  go_simp
theorem set_ref1 (u : Value) : (w.setCell ⟨d, 1, none⟩ u).heap[d]? = some (.cells #[vn, u] 86 (0, 0)) := by
  obtain ⟨hl, hv⟩ := Array.getElem?_eq_some_iff.1 h
  simp [World.setCell, hl, Array.getElem_modify_self, hv]
theorem set_ref0 (u : Value) : (w.setCell ⟨d, 0, none⟩ u).heap[d]? = some (.cells #[u, vp] 86 (0, 0)) := by
  obtain ⟨hl, hv⟩ := Array.getElem?_eq_some_iff.1 h
  simp [World.setCell, hl, Array.getElem_modify_self, hv]
end
theorem set_tch (w : World) (d k : Nat) (u : Value) : Tch (fun j => j = d) w (w.setCell ⟨d, k, none⟩ u) := by
  have b := (Below.refl 0 w).setCell (p := ⟨d, k, none⟩) (Nat.zero_le _) u
  exact ⟨b.os, b.tape, b.output, b.size, fun j hj hn => Below.heap_setCell _ _ _ _ hn⟩
end Go.Proofs.Ytoofljkgdjjllaa
