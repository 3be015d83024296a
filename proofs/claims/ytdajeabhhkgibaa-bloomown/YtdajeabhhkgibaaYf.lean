import Derived.Test.YtdajeabhhkgibaaYd
import Derived.Test.YtdajeabhhkgibaaYe
import Derived.Test.YtdajeabhhkgibaaVw
import Derived.Deep.RegionHeld3
namespace Go.Proofs.Ytdajeabhhkgibaa
open Go.RowKit
set_option linter.unusedVariables false
set_option linter.unusedSimpArgs false

theorem exec_load {P : Program} {w : World} {a : Act} {o : Oper} {t : TypeId} {x : Operand} {p : Addr} {v : Value} (ho : o.op = .load t x) (hp : a.eval x = .pointer (some p)) (hl : (Instr.loadAt t (.pointer (some p))).run P w = .ok v w) : (execOp a.eval o).run P w = .ok (.value v) w := by
  unfold execOp
  simp only [ho, hp, Sem.run_bind, hl, Result.andThen_ok, Sem.run_pure]
theorem put_same (a : Act) (d : Nat) (v : Value) (h : d < a.tmps.size) : (a.put (some d) v).tmps.getD d undef = v := by
  simp [Act.put, Array.getD_eq_getD_getElem?, h]
theorem put_ne (a : Act) (d e : Nat) (v : Value) (h : d ≠ e) : (a.put (some d) v).tmps.getD e undef = a.tmps.getD e undef := by
  simp [Act.put, Array.getD_eq_getD_getElem?, Array.getElem?_setIfInBounds, h]
theorem put_size (a : Act) (d : Option Nat) (v : Value) : (a.put d v).tmps.size = a.tmps.size := by
  cases d <;> simp [Act.put]
theorem tget {n : Nat} {t : Array Value} {d : Nat} {v : Value} (hs : t.size = n) (hd : d < n) (h : t.getD d undef = v) : t[d]? = some v := by
  rw [Array.getD_eq_getD_getElem?, Array.getElem?_eq_getElem (by omega)] at h
  rw [Array.getElem?_eq_getElem (by omega)]
  simpa using h
/-- A row of values, from then on. -/
def RowOn (W : World) (a : Option Addr) (l : List Value) : Prop := ∀ W2, Below W.heap.size W W2 → ∀ k v, l[k]? = some v → ∃ b, a = some ⟨b, 0, none⟩ ∧ W2.cell? ⟨b, k, none⟩ = some v
theorem RowOn.below {W W2 : World} {a : Option Addr} {l : List Value} (h : RowOn W a l) (b : Below W.heap.size W W2) : RowOn W2 a l := fun W3 h3 => h W3 (b.trans (h3.mono b.size))
def back4_ops : Array Oper := #[{ dst := some 24, op := Op.move (Operand.tmp 7), type := 23, pos := "law.go:135", after := #[], guard := none }, { dst := some 25, op := Op.binOp BinOp.eql 23 (Operand.tmp 24) (Operand.const (Value.pointer none)) 23, type := 4, pos := "law.go:135", after := #[{ on := 0, ground := Ground.data }], guard := none }, { dst := some 26, op := Op.move (Operand.tmp 25), type := 4, pos := "law.go:135", after := #[{ on := 1, ground := Ground.data }], guard := none }, { dst := some 27, op := Op.move (Operand.tmp 10), type := 36, pos := "law.go:135", after := #[{ on := 2, ground := Ground.guard }], guard := some (2, false) }, { dst := some 28, op := Op.binOp BinOp.neq 36 (Operand.tmp 27) (Operand.const (Value.int IntKind.i64 0)) 36, type := 4, pos := "law.go:135", after := #[{ on := 3, ground := Ground.data }, { on := 2, ground := Ground.guard }], guard := some (2, false) }, { dst := some 29, op := Op.pick (Operand.tmp 26) (Operand.const (Value.bool true)) (Operand.tmp 28), type := 4, pos := "law.go:135", after := #[{ on := 2, ground := Ground.data }, { on := 4, ground := Ground.data }], guard := none }, { dst := some 30, op := Op.move (Operand.tmp 29), type := 4, pos := "law.go:135", after := #[{ on := 5, ground := Ground.data }, { on := 2, ground := Ground.chain }], guard := none }, { dst := some 31, op := Op.move (Operand.tmp 11), type := 3, pos := "law.go:135", after := #[{ on := 6, ground := Ground.guard }], guard := some (6, false) }, { dst := some 32, op := Op.binOp BinOp.neq 3 (Operand.tmp 31) (Operand.const (Value.int IntKind.i64 0)) 3, type := 4, pos := "law.go:135", after := #[{ on := 7, ground := Ground.data }, { on := 6, ground := Ground.guard }], guard := some (6, false) }, { dst := some 33, op := Op.pick (Operand.tmp 30) (Operand.const (Value.bool true)) (Operand.tmp 32), type := 4, pos := "law.go:135", after := #[{ on := 6, ground := Ground.data }, { on := 8, ground := Ground.data }], guard := none }, { dst := some 34, op := Op.move (Operand.tmp 33), type := 4, pos := "law.go:135", after := #[{ on := 9, ground := Ground.data }, { on := 6, ground := Ground.chain }], guard := none }, { dst := some 35, op := Op.move (Operand.tmp 9), type := 23, pos := "law.go:135", after := #[{ on := 10, ground := Ground.guard }], guard := some (10, false) }, { dst := some 36, op := Op.call { callee := Callee.value (Operand.func 34), args := #[Operand.tmp 35], argTypes := #[23] }, type := 53, pos := "law.go:135", after := #[{ on := 11, ground := Ground.data }, { on := 10, ground := Ground.chain }, { on := 10, ground := Ground.guard }], guard := some (10, false) }, { dst := some 37, op := Op.move (Operand.tmp 8), type := 53, pos := "law.go:135", after := #[{ on := 10, ground := Ground.guard }], guard := some (10, false) }, { dst := some 38, op := Op.call { callee := Callee.value (Operand.func 35), args := #[Operand.tmp 36, Operand.tmp 37], argTypes := #[53, 53] }, type := 4, pos := "law.go:135", after := #[{ on := 12, ground := Ground.data }, { on := 13, ground := Ground.data }, { on := 12, ground := Ground.chain }, { on := 10, ground := Ground.guard }], guard := some (10, false) }, { dst := some 39, op := Op.unOp UnOp.not 4 (Operand.tmp 38), type := 4, pos := "law.go:135", after := #[{ on := 14, ground := Ground.data }, { on := 10, ground := Ground.guard }], guard := some (10, false) }, { dst := some 40, op := Op.pick (Operand.tmp 34) (Operand.const (Value.bool true)) (Operand.tmp 39), type := 4, pos := "law.go:135", after := #[{ on := 10, ground := Ground.data }, { on := 15, ground := Ground.data }], guard := none }, { dst := some 41, op := Op.move (Operand.tmp 40), type := 4, pos := "law.go:135", after := #[{ on := 16, ground := Ground.data }, { on := 14, ground := Ground.chain }], guard := none }, { dst := some 42, op := Op.move (Operand.tmp 9), type := 23, pos := "law.go:135", after := #[{ on := 17, ground := Ground.guard }], guard := some (17, false) }, { dst := some 43, op := Op.call { callee := Callee.value (Operand.func 32), args := #[Operand.tmp 42], argTypes := #[23] }, type := 3, pos := "law.go:135", after := #[{ on := 18, ground := Ground.data }, { on := 17, ground := Ground.chain }, { on := 17, ground := Ground.guard }], guard := some (17, false) }, { dst := some 44, op := Op.move (Operand.tmp 7), type := 23, pos := "law.go:135", after := #[{ on := 17, ground := Ground.guard }], guard := some (17, false) }, { dst := some 45, op := Op.call { callee := Callee.value (Operand.func 32), args := #[Operand.tmp 44], argTypes := #[23] }, type := 3, pos := "law.go:135", after := #[{ on := 20, ground := Ground.data }, { on := 19, ground := Ground.chain }, { on := 17, ground := Ground.guard }], guard := some (17, false) }, { dst := some 46, op := Op.binOp BinOp.neq 3 (Operand.tmp 43) (Operand.tmp 45) 3, type := 4, pos := "law.go:135", after := #[{ on := 19, ground := Ground.data }, { on := 21, ground := Ground.data }, { on := 17, ground := Ground.guard }], guard := some (17, false) }, { dst := some 47, op := Op.pick (Operand.tmp 41) (Operand.const (Value.bool true)) (Operand.tmp 46), type := 4, pos := "law.go:135", after := #[{ on := 17, ground := Ground.data }, { on := 22, ground := Ground.data }], guard := none }, { dst := some 48, op := Op.move (Operand.tmp 47), type := 4, pos := "law.go:135", after := #[{ on := 23, ground := Ground.data }, { on := 21, ground := Ground.chain }], guard := none }, { dst := some 49, op := Op.move (Operand.tmp 9), type := 23, pos := "law.go:135", after := #[{ on := 24, ground := Ground.guard }], guard := some (24, false) }, { dst := some 50, op := Op.load 30 (Operand.tmp 5), type := 30, pos := "law.go:135", after := #[{ on := 24, ground := Ground.guard }], guard := some (24, false) }, { dst := some 51, op := Op.call { callee := Callee.value (Operand.func 22), args := #[Operand.tmp 49, Operand.tmp 50], argTypes := #[23, 30] }, type := 4, pos := "law.go:135", after := #[{ on := 25, ground := Ground.data }, { on := 26, ground := Ground.data }, { on := 24, ground := Ground.chain }, { on := 24, ground := Ground.guard }], guard := some (24, false) }, { dst := some 52, op := Op.move (Operand.tmp 7), type := 23, pos := "law.go:135", after := #[{ on := 24, ground := Ground.guard }], guard := some (24, false) }, { dst := some 53, op := Op.load 30 (Operand.tmp 5), type := 30, pos := "law.go:135", after := #[{ on := 24, ground := Ground.guard }], guard := some (24, false) }, { dst := some 54, op := Op.call { callee := Callee.value (Operand.func 22), args := #[Operand.tmp 52, Operand.tmp 53], argTypes := #[23, 30] }, type := 4, pos := "law.go:135", after := #[{ on := 28, ground := Ground.data }, { on := 29, ground := Ground.data }, { on := 27, ground := Ground.chain }, { on := 24, ground := Ground.guard }], guard := some (24, false) }, { dst := some 55, op := Op.binOp BinOp.neq 4 (Operand.tmp 51) (Operand.tmp 54) 4, type := 4, pos := "law.go:135", after := #[{ on := 27, ground := Ground.data }, { on := 30, ground := Ground.data }, { on := 24, ground := Ground.guard }], guard := some (24, false) }, { dst := some 56, op := Op.pick (Operand.tmp 48) (Operand.const (Value.bool true)) (Operand.tmp 55), type := 4, pos := "law.go:135", after := #[{ on := 24, ground := Ground.data }, { on := 31, ground := Ground.data }], guard := none }, { dst := some 57, op := Op.move (Operand.tmp 56), type := 4, pos := "law.go:135", after := #[{ on := 32, ground := Ground.data }, { on := 30, ground := Ground.chain }], guard := none }, { dst := some 58, op := Op.move (Operand.tmp 9), type := 23, pos := "law.go:135", after := #[{ on := 33, ground := Ground.guard }], guard := some (33, false) }, { dst := some 59, op := Op.load 30 (Operand.tmp 5), type := 30, pos := "law.go:135", after := #[{ on := 33, ground := Ground.guard }], guard := some (33, false) }, { dst := some 60, op := Op.call { callee := Callee.value (Operand.func 25), args := #[Operand.tmp 58, Operand.tmp 59], argTypes := #[23, 30] }, type := 49, pos := "law.go:135", after := #[{ on := 34, ground := Ground.data }, { on := 35, ground := Ground.data }, { on := 33, ground := Ground.chain }, { on := 33, ground := Ground.guard }], guard := some (33, false) }, { dst := some 61, op := Op.move (Operand.tmp 7), type := 23, pos := "law.go:135", after := #[{ on := 33, ground := Ground.guard }], guard := some (33, false) }, { dst := some 62, op := Op.load 30 (Operand.tmp 5), type := 30, pos := "law.go:135", after := #[{ on := 33, ground := Ground.guard }], guard := some (33, false) }, { dst := some 63, op := Op.call { callee := Callee.value (Operand.func 25), args := #[Operand.tmp 61, Operand.tmp 62], argTypes := #[23, 30] }, type := 49, pos := "law.go:135", after := #[{ on := 37, ground := Ground.data }, { on := 38, ground := Ground.data }, { on := 36, ground := Ground.chain }, { on := 33, ground := Ground.guard }], guard := some (33, false) }, { dst := some 64, op := Op.call { callee := Callee.value (Operand.func 24), args := #[Operand.tmp 60, Operand.tmp 63], argTypes := #[49, 49] }, type := 4, pos := "law.go:135", after := #[{ on := 36, ground := Ground.data }, { on := 39, ground := Ground.data }, { on := 39, ground := Ground.chain }, { on := 33, ground := Ground.guard }], guard := some (33, false) }, { dst := some 65, op := Op.unOp UnOp.not 4 (Operand.tmp 64), type := 4, pos := "law.go:135", after := #[{ on := 40, ground := Ground.data }, { on := 33, ground := Ground.guard }], guard := some (33, false) }, { dst := some 66, op := Op.pick (Operand.tmp 57) (Operand.const (Value.bool true)) (Operand.tmp 65), type := 4, pos := "law.go:135", after := #[{ on := 33, ground := Ground.data }, { on := 41, ground := Ground.data }], guard := none }]
set_option maxRecDepth 100000 in
set_option maxHeartbeats 4000000 in
theorem back4 (N : Nat) (w0 : World) (qf qg pb pc nE bx nS : Nat) (bi : Int) (z : Bool) (hh : List UInt8) (lS : List Value) (YB : World → Nat → Prop) (a : Act) (w : World) (Q : Exit → Act → World → Prop) (hsz : a.tmps.size = 81)
    (t5 : a.tmps.getD 5 undef = .pointer (some ⟨bx, 0, none⟩))
    (t7 : a.tmps.getD 7 undef = .pointer (some ⟨qf, 0, none⟩))
    (t8 : a.tmps.getD 8 undef = .slice (some ⟨pb, 0, none⟩) nE pc)
    (t9 : a.tmps.getD 9 undef = .pointer (some ⟨qg, 0, none⟩))
    (t10 : a.tmps.getD 10 undef = .int .i64 0)
    (t11 : a.tmps.getD 11 undef = .int .i64 0)
    (h0 : Below N w0 w.drew)
    (HLD : ∀ W, Below N w0 W → (Instr.loadAt 30 (.pointer (some ⟨bx, 0, none⟩))).run Try.prog W = .ok (.agg (bs hh)) W)
    (C12 : ∀ W, Below N w0 W → Calls Try.prog 34 #[.pointer (some ⟨qg, 0, none⟩)] W fun e w' => ∃ b c, e = .returned (.slice (some ⟨b, 0, none⟩) nE c) ∧ YB w' b ∧ Below W.heap.size W w')
    (C14 : ∀ W b c, Below N w0 W → YB W b → Calls Try.prog 35 #[.slice (some ⟨b, 0, none⟩) nE c, .slice (some ⟨pb, 0, none⟩) nE pc] W fun e w' => e = .returned (.bool true) ∧ Below W.heap.size W w')
    (C19 : ∀ W, Below N w0 W → Calls Try.prog 32 #[.pointer (some ⟨qg, 0, none⟩)] W fun e w' => e = .returned (.int .i64 bi) ∧ Below W.heap.size W w')
    (C21 : ∀ W, Below N w0 W → Calls Try.prog 32 #[.pointer (some ⟨qf, 0, none⟩)] W fun e w' => e = .returned (.int .i64 bi) ∧ Below W.heap.size W w')
    (C27 : ∀ W, Below N w0 W → Calls Try.prog 22 #[.pointer (some ⟨qg, 0, none⟩), .agg (bs hh)] W fun e w' => e = .returned (.bool z) ∧ Below W.heap.size W w')
    (C30 : ∀ W, Below N w0 W → Calls Try.prog 22 #[.pointer (some ⟨qf, 0, none⟩), .agg (bs hh)] W fun e w' => e = .returned (.bool z) ∧ Below W.heap.size W w')
    (C36 : ∀ W, Below N w0 W → Calls Try.prog 25 #[.pointer (some ⟨qg, 0, none⟩), .agg (bs hh)] W fun e w' => ∃ s c, e = .returned (.slice s nS c) ∧ RowOn w' s lS ∧ Below W.heap.size W w')
    (C39 : ∀ W, Below N w0 W → Calls Try.prog 25 #[.pointer (some ⟨qf, 0, none⟩), .agg (bs hh)] W fun e w' => ∃ s c, e = .returned (.slice s nS c) ∧ RowOn w' s lS ∧ Below W.heap.size W w')
    (C40 : ∀ W s1 c1 s2 c2, Below N w0 W → RowOn W s1 lS → RowOn W s2 lS → Calls Try.prog 24 #[.slice s1 nS c1, .slice s2 nS c2] W fun e w' => e = .returned (.bool true) ∧ Below W.heap.size W w')
    (hN : ∀ W, Below N w0 W → N ≤ W.heap.size)
    (h : ∀ (b4 c4 : Nat) (s1 : Option Addr) (c1 : Nat) (s2 : Option Addr) (c2 : Nat) (a' : Act) (w' : World), Below N w0 w' → a' = (((((((((((((((((((((((((((((((((((((((((((a).put (some 24) (.pointer (some ⟨qf, 0, none⟩))).put (some 25) (.bool false)).put (some 26) (.bool false)).put (some 27) (.int .i64 0)).put (some 28) (.bool false)).put (some 29) (.bool false)).put (some 30) (.bool false)).put (some 31) (.int .i64 0)).put (some 32) (.bool false)).put (some 33) (.bool false)).put (some 34) (.bool false)).put (some 35) (.pointer (some ⟨qg, 0, none⟩))).put (some 37) (.slice (some ⟨pb, 0, none⟩) nE pc)).put (some 36) (.slice (some ⟨b4, 0, none⟩) nE c4)).put (some 38) (.bool true)).put (some 39) (.bool false)).put (some 40) (.bool false)).put (some 41) (.bool false)).put (some 42) (.pointer (some ⟨qg, 0, none⟩))).put (some 44) (.pointer (some ⟨qf, 0, none⟩))).put (some 43) (.int .i64 bi)).put (some 45) (.int .i64 bi)).put (some 46) (.bool false)).put (some 47) (.bool false)).put (some 48) (.bool false)).put (some 49) (.pointer (some ⟨qg, 0, none⟩))).put (some 50) (.agg (bs hh))).put (some 52) (.pointer (some ⟨qf, 0, none⟩))).put (some 53) (.agg (bs hh))).put (some 51) (.bool z)).put (some 54) (.bool z)).put (some 55) (.bool false)).put (some 56) (.bool false)).put (some 57) (.bool false)).put (some 58) (.pointer (some ⟨qg, 0, none⟩))).put (some 59) (.agg (bs hh))).put (some 61) (.pointer (some ⟨qf, 0, none⟩))).put (some 62) (.agg (bs hh))).put (some 60) (.slice s1 nS c1)).put (some 63) (.slice s2 nS c2)).put (some 64) (.bool true)).put (some 65) (.bool false)).put (some 66) (.bool false) → Q .normal a' w') :
    (Code.region 4 back4_ops true).wp Try.prog Q a w := by
  refine wp_region_noPanic ?_
  refine wp_region_held_drew (S := fun w' => Below N w0 w') (by kernel_rfl) (h0) (fun hHeld => ?_)
  refine wpAnyH_take (i := 0) (oi := { dst := some 24, op := Op.move (Operand.tmp 7), type := 23, pos := "law.go:135", after := #[], guard := none }) (v := .pointer (some ⟨qf, 0, none⟩)) rfl (by kernel_rfl) (by kernel_rfl) (by kernel_rfl) (fun _ _ _ h => h) (Or.inl ⟨by rfl, fun w1 hw => by go_simp⟩) hHeld ?_
  change wpAnyH _ _ _ _ _ _ _ (a.put (some 24) (.pointer (some ⟨qf, 0, none⟩))) _
  obtain ⟨a1, e1⟩ : ∃ act, act = a.put (some 24) (.pointer (some ⟨qf, 0, none⟩)) := ⟨_, rfl⟩
  rw [← e1] at h ⊢
  have z1 : a1.tmps.size = 81 := by rw [e1, put_size]; exact hsz
  replace t5 : a1.tmps.getD 5 undef = .pointer (some ⟨bx, 0, none⟩) := by rw [e1, put_ne _ _ _ _ (by decide)]; exact t5
  replace t7 : a1.tmps.getD 7 undef = .pointer (some ⟨qf, 0, none⟩) := by rw [e1, put_ne _ _ _ _ (by decide)]; exact t7
  replace t8 : a1.tmps.getD 8 undef = .slice (some ⟨pb, 0, none⟩) nE pc := by rw [e1, put_ne _ _ _ _ (by decide)]; exact t8
  replace t9 : a1.tmps.getD 9 undef = .pointer (some ⟨qg, 0, none⟩) := by rw [e1, put_ne _ _ _ _ (by decide)]; exact t9
  replace t10 : a1.tmps.getD 10 undef = .int .i64 0 := by rw [e1, put_ne _ _ _ _ (by decide)]; exact t10
  replace t11 : a1.tmps.getD 11 undef = .int .i64 0 := by rw [e1, put_ne _ _ _ _ (by decide)]; exact t11
  have t24 : a1.tmps.getD 24 undef = .pointer (some ⟨qf, 0, none⟩) := by rw [e1]; exact put_same _ _ _ (by omega)
  clear e1 hsz
  refine wpAnyH_take (i := 1) (oi := { dst := some 25, op := Op.binOp BinOp.eql 23 (Operand.tmp 24) (Operand.const (Value.pointer none)) 23, type := 4, pos := "law.go:135", after := #[{ on := 0, ground := Ground.data }], guard := none }) (v := .bool false) rfl (by kernel_rfl) (by kernel_rfl) (by kernel_rfl) (fun _ _ _ h => h) (Or.inl ⟨by rfl, fun w1 hw => by go_simp⟩) hHeld ?_
  change wpAnyH _ _ _ _ _ _ _ (a1.put (some 25) (.bool false)) _
  obtain ⟨a2, e2⟩ : ∃ act, act = a1.put (some 25) (.bool false) := ⟨_, rfl⟩
  rw [← e2] at h ⊢
  have z2 : a2.tmps.size = 81 := by rw [e2, put_size]; exact z1
  replace t5 : a2.tmps.getD 5 undef = .pointer (some ⟨bx, 0, none⟩) := by rw [e2, put_ne _ _ _ _ (by decide)]; exact t5
  replace t7 : a2.tmps.getD 7 undef = .pointer (some ⟨qf, 0, none⟩) := by rw [e2, put_ne _ _ _ _ (by decide)]; exact t7
  replace t8 : a2.tmps.getD 8 undef = .slice (some ⟨pb, 0, none⟩) nE pc := by rw [e2, put_ne _ _ _ _ (by decide)]; exact t8
  replace t9 : a2.tmps.getD 9 undef = .pointer (some ⟨qg, 0, none⟩) := by rw [e2, put_ne _ _ _ _ (by decide)]; exact t9
  replace t10 : a2.tmps.getD 10 undef = .int .i64 0 := by rw [e2, put_ne _ _ _ _ (by decide)]; exact t10
  replace t11 : a2.tmps.getD 11 undef = .int .i64 0 := by rw [e2, put_ne _ _ _ _ (by decide)]; exact t11
  clear t24
  have t25 : a2.tmps.getD 25 undef = .bool false := by rw [e2]; exact put_same _ _ _ (by omega)
  clear e2 z1
  refine wpAnyH_take (i := 2) (oi := { dst := some 26, op := Op.move (Operand.tmp 25), type := 4, pos := "law.go:135", after := #[{ on := 1, ground := Ground.data }], guard := none }) (v := .bool false) rfl (by kernel_rfl) (by kernel_rfl) (by kernel_rfl) (fun _ _ _ h => h) (Or.inl ⟨by rfl, fun w1 hw => by go_simp⟩) hHeld ?_
  change wpAnyH _ _ _ _ _ _ _ (a2.put (some 26) (.bool false)) _
  obtain ⟨a3, e3⟩ : ∃ act, act = a2.put (some 26) (.bool false) := ⟨_, rfl⟩
  rw [← e3] at h ⊢
  have z3 : a3.tmps.size = 81 := by rw [e3, put_size]; exact z2
  replace t5 : a3.tmps.getD 5 undef = .pointer (some ⟨bx, 0, none⟩) := by rw [e3, put_ne _ _ _ _ (by decide)]; exact t5
  replace t7 : a3.tmps.getD 7 undef = .pointer (some ⟨qf, 0, none⟩) := by rw [e3, put_ne _ _ _ _ (by decide)]; exact t7
  replace t8 : a3.tmps.getD 8 undef = .slice (some ⟨pb, 0, none⟩) nE pc := by rw [e3, put_ne _ _ _ _ (by decide)]; exact t8
  replace t9 : a3.tmps.getD 9 undef = .pointer (some ⟨qg, 0, none⟩) := by rw [e3, put_ne _ _ _ _ (by decide)]; exact t9
  replace t10 : a3.tmps.getD 10 undef = .int .i64 0 := by rw [e3, put_ne _ _ _ _ (by decide)]; exact t10
  replace t11 : a3.tmps.getD 11 undef = .int .i64 0 := by rw [e3, put_ne _ _ _ _ (by decide)]; exact t11
  clear t25
  have t26 : a3.tmps.getD 26 undef = .bool false := by rw [e3]; exact put_same _ _ _ (by omega)
  clear e3 z2
  refine wpAnyH_take (i := 3) (oi := { dst := some 27, op := Op.move (Operand.tmp 10), type := 36, pos := "law.go:135", after := #[{ on := 2, ground := Ground.guard }], guard := some (2, false) }) (v := .int .i64 0) rfl (by kernel_rfl) (by kernel_rfl) (by kernel_rfl) (fun _ _ _ h => h) (Or.inl ⟨by simp [Region.wanted, yielded, back4_ops, tget z3 (by decide) t26], fun w1 hw => by go_simp⟩) hHeld ?_
  change wpAnyH _ _ _ _ _ _ _ (a3.put (some 27) (.int .i64 0)) _
  obtain ⟨a4, e4⟩ : ∃ act, act = a3.put (some 27) (.int .i64 0) := ⟨_, rfl⟩
  rw [← e4] at h ⊢
  have z4 : a4.tmps.size = 81 := by rw [e4, put_size]; exact z3
  replace t5 : a4.tmps.getD 5 undef = .pointer (some ⟨bx, 0, none⟩) := by rw [e4, put_ne _ _ _ _ (by decide)]; exact t5
  replace t7 : a4.tmps.getD 7 undef = .pointer (some ⟨qf, 0, none⟩) := by rw [e4, put_ne _ _ _ _ (by decide)]; exact t7
  replace t8 : a4.tmps.getD 8 undef = .slice (some ⟨pb, 0, none⟩) nE pc := by rw [e4, put_ne _ _ _ _ (by decide)]; exact t8
  replace t9 : a4.tmps.getD 9 undef = .pointer (some ⟨qg, 0, none⟩) := by rw [e4, put_ne _ _ _ _ (by decide)]; exact t9
  clear t10
  replace t11 : a4.tmps.getD 11 undef = .int .i64 0 := by rw [e4, put_ne _ _ _ _ (by decide)]; exact t11
  replace t26 : a4.tmps.getD 26 undef = .bool false := by rw [e4, put_ne _ _ _ _ (by decide)]; exact t26
  have t27 : a4.tmps.getD 27 undef = .int .i64 0 := by rw [e4]; exact put_same _ _ _ (by omega)
  clear e4 z3
  refine wpAnyH_take (i := 4) (oi := { dst := some 28, op := Op.binOp BinOp.neq 36 (Operand.tmp 27) (Operand.const (Value.int IntKind.i64 0)) 36, type := 4, pos := "law.go:135", after := #[{ on := 3, ground := Ground.data }, { on := 2, ground := Ground.guard }], guard := some (2, false) }) (v := .bool false) rfl (by kernel_rfl) (by kernel_rfl) (by kernel_rfl) (fun _ _ _ h => h) (Or.inl ⟨by simp [Region.wanted, yielded, back4_ops, tget z4 (by decide) t26], fun w1 hw => by go_simp⟩) hHeld ?_
  change wpAnyH _ _ _ _ _ _ _ (a4.put (some 28) (.bool false)) _
  obtain ⟨a5, e5⟩ : ∃ act, act = a4.put (some 28) (.bool false) := ⟨_, rfl⟩
  rw [← e5] at h ⊢
  have z5 : a5.tmps.size = 81 := by rw [e5, put_size]; exact z4
  replace t5 : a5.tmps.getD 5 undef = .pointer (some ⟨bx, 0, none⟩) := by rw [e5, put_ne _ _ _ _ (by decide)]; exact t5
  replace t7 : a5.tmps.getD 7 undef = .pointer (some ⟨qf, 0, none⟩) := by rw [e5, put_ne _ _ _ _ (by decide)]; exact t7
  replace t8 : a5.tmps.getD 8 undef = .slice (some ⟨pb, 0, none⟩) nE pc := by rw [e5, put_ne _ _ _ _ (by decide)]; exact t8
  replace t9 : a5.tmps.getD 9 undef = .pointer (some ⟨qg, 0, none⟩) := by rw [e5, put_ne _ _ _ _ (by decide)]; exact t9
  replace t11 : a5.tmps.getD 11 undef = .int .i64 0 := by rw [e5, put_ne _ _ _ _ (by decide)]; exact t11
  replace t26 : a5.tmps.getD 26 undef = .bool false := by rw [e5, put_ne _ _ _ _ (by decide)]; exact t26
  clear t27
  have t28 : a5.tmps.getD 28 undef = .bool false := by rw [e5]; exact put_same _ _ _ (by omega)
  clear e5 z4
  refine wpAnyH_take (i := 5) (oi := { dst := some 29, op := Op.pick (Operand.tmp 26) (Operand.const (Value.bool true)) (Operand.tmp 28), type := 4, pos := "law.go:135", after := #[{ on := 2, ground := Ground.data }, { on := 4, ground := Ground.data }], guard := none }) (v := .bool false) rfl (by kernel_rfl) (by kernel_rfl) (by kernel_rfl) (fun _ _ _ h => h) (Or.inl ⟨by rfl, fun w1 hw => by go_simp⟩) hHeld ?_
  change wpAnyH _ _ _ _ _ _ _ (a5.put (some 29) (.bool false)) _
  obtain ⟨a6, e6⟩ : ∃ act, act = a5.put (some 29) (.bool false) := ⟨_, rfl⟩
  rw [← e6] at h ⊢
  have z6 : a6.tmps.size = 81 := by rw [e6, put_size]; exact z5
  replace t5 : a6.tmps.getD 5 undef = .pointer (some ⟨bx, 0, none⟩) := by rw [e6, put_ne _ _ _ _ (by decide)]; exact t5
  replace t7 : a6.tmps.getD 7 undef = .pointer (some ⟨qf, 0, none⟩) := by rw [e6, put_ne _ _ _ _ (by decide)]; exact t7
  replace t8 : a6.tmps.getD 8 undef = .slice (some ⟨pb, 0, none⟩) nE pc := by rw [e6, put_ne _ _ _ _ (by decide)]; exact t8
  replace t9 : a6.tmps.getD 9 undef = .pointer (some ⟨qg, 0, none⟩) := by rw [e6, put_ne _ _ _ _ (by decide)]; exact t9
  replace t11 : a6.tmps.getD 11 undef = .int .i64 0 := by rw [e6, put_ne _ _ _ _ (by decide)]; exact t11
  clear t26
  clear t28
  have t29 : a6.tmps.getD 29 undef = .bool false := by rw [e6]; exact put_same _ _ _ (by omega)
  clear e6 z5
  refine wpAnyH_take (i := 6) (oi := { dst := some 30, op := Op.move (Operand.tmp 29), type := 4, pos := "law.go:135", after := #[{ on := 5, ground := Ground.data }, { on := 2, ground := Ground.chain }], guard := none }) (v := .bool false) rfl (by kernel_rfl) (by kernel_rfl) (by kernel_rfl) (fun _ _ _ h => h) (Or.inl ⟨by rfl, fun w1 hw => by go_simp⟩) hHeld ?_
  change wpAnyH _ _ _ _ _ _ _ (a6.put (some 30) (.bool false)) _
  obtain ⟨a7, e7⟩ : ∃ act, act = a6.put (some 30) (.bool false) := ⟨_, rfl⟩
  rw [← e7] at h ⊢
  have z7 : a7.tmps.size = 81 := by rw [e7, put_size]; exact z6
  replace t5 : a7.tmps.getD 5 undef = .pointer (some ⟨bx, 0, none⟩) := by rw [e7, put_ne _ _ _ _ (by decide)]; exact t5
  replace t7 : a7.tmps.getD 7 undef = .pointer (some ⟨qf, 0, none⟩) := by rw [e7, put_ne _ _ _ _ (by decide)]; exact t7
  replace t8 : a7.tmps.getD 8 undef = .slice (some ⟨pb, 0, none⟩) nE pc := by rw [e7, put_ne _ _ _ _ (by decide)]; exact t8
  replace t9 : a7.tmps.getD 9 undef = .pointer (some ⟨qg, 0, none⟩) := by rw [e7, put_ne _ _ _ _ (by decide)]; exact t9
  replace t11 : a7.tmps.getD 11 undef = .int .i64 0 := by rw [e7, put_ne _ _ _ _ (by decide)]; exact t11
  clear t29
  have t30 : a7.tmps.getD 30 undef = .bool false := by rw [e7]; exact put_same _ _ _ (by omega)
  clear e7 z6
  refine wpAnyH_take (i := 7) (oi := { dst := some 31, op := Op.move (Operand.tmp 11), type := 3, pos := "law.go:135", after := #[{ on := 6, ground := Ground.guard }], guard := some (6, false) }) (v := .int .i64 0) rfl (by kernel_rfl) (by kernel_rfl) (by kernel_rfl) (fun _ _ _ h => h) (Or.inl ⟨by simp [Region.wanted, yielded, back4_ops, tget z7 (by decide) t30], fun w1 hw => by go_simp⟩) hHeld ?_
  change wpAnyH _ _ _ _ _ _ _ (a7.put (some 31) (.int .i64 0)) _
  obtain ⟨a8, e8⟩ : ∃ act, act = a7.put (some 31) (.int .i64 0) := ⟨_, rfl⟩
  rw [← e8] at h ⊢
  have z8 : a8.tmps.size = 81 := by rw [e8, put_size]; exact z7
  replace t5 : a8.tmps.getD 5 undef = .pointer (some ⟨bx, 0, none⟩) := by rw [e8, put_ne _ _ _ _ (by decide)]; exact t5
  replace t7 : a8.tmps.getD 7 undef = .pointer (some ⟨qf, 0, none⟩) := by rw [e8, put_ne _ _ _ _ (by decide)]; exact t7
  replace t8 : a8.tmps.getD 8 undef = .slice (some ⟨pb, 0, none⟩) nE pc := by rw [e8, put_ne _ _ _ _ (by decide)]; exact t8
  replace t9 : a8.tmps.getD 9 undef = .pointer (some ⟨qg, 0, none⟩) := by rw [e8, put_ne _ _ _ _ (by decide)]; exact t9
  clear t11
  replace t30 : a8.tmps.getD 30 undef = .bool false := by rw [e8, put_ne _ _ _ _ (by decide)]; exact t30
  have t31 : a8.tmps.getD 31 undef = .int .i64 0 := by rw [e8]; exact put_same _ _ _ (by omega)
  clear e8 z7
  refine wpAnyH_take (i := 8) (oi := { dst := some 32, op := Op.binOp BinOp.neq 3 (Operand.tmp 31) (Operand.const (Value.int IntKind.i64 0)) 3, type := 4, pos := "law.go:135", after := #[{ on := 7, ground := Ground.data }, { on := 6, ground := Ground.guard }], guard := some (6, false) }) (v := .bool false) rfl (by kernel_rfl) (by kernel_rfl) (by kernel_rfl) (fun _ _ _ h => h) (Or.inl ⟨by simp [Region.wanted, yielded, back4_ops, tget z8 (by decide) t30], fun w1 hw => by go_simp⟩) hHeld ?_
  change wpAnyH _ _ _ _ _ _ _ (a8.put (some 32) (.bool false)) _
  obtain ⟨a9, e9⟩ : ∃ act, act = a8.put (some 32) (.bool false) := ⟨_, rfl⟩
  rw [← e9] at h ⊢
  have z9 : a9.tmps.size = 81 := by rw [e9, put_size]; exact z8
  replace t5 : a9.tmps.getD 5 undef = .pointer (some ⟨bx, 0, none⟩) := by rw [e9, put_ne _ _ _ _ (by decide)]; exact t5
  replace t7 : a9.tmps.getD 7 undef = .pointer (some ⟨qf, 0, none⟩) := by rw [e9, put_ne _ _ _ _ (by decide)]; exact t7
  replace t8 : a9.tmps.getD 8 undef = .slice (some ⟨pb, 0, none⟩) nE pc := by rw [e9, put_ne _ _ _ _ (by decide)]; exact t8
  replace t9 : a9.tmps.getD 9 undef = .pointer (some ⟨qg, 0, none⟩) := by rw [e9, put_ne _ _ _ _ (by decide)]; exact t9
  replace t30 : a9.tmps.getD 30 undef = .bool false := by rw [e9, put_ne _ _ _ _ (by decide)]; exact t30
  clear t31
  have t32 : a9.tmps.getD 32 undef = .bool false := by rw [e9]; exact put_same _ _ _ (by omega)
  clear e9 z8
  refine wpAnyH_take (i := 9) (oi := { dst := some 33, op := Op.pick (Operand.tmp 30) (Operand.const (Value.bool true)) (Operand.tmp 32), type := 4, pos := "law.go:135", after := #[{ on := 6, ground := Ground.data }, { on := 8, ground := Ground.data }], guard := none }) (v := .bool false) rfl (by kernel_rfl) (by kernel_rfl) (by kernel_rfl) (fun _ _ _ h => h) (Or.inl ⟨by rfl, fun w1 hw => by go_simp⟩) hHeld ?_
  change wpAnyH _ _ _ _ _ _ _ (a9.put (some 33) (.bool false)) _
  obtain ⟨a10, e10⟩ : ∃ act, act = a9.put (some 33) (.bool false) := ⟨_, rfl⟩
  rw [← e10] at h ⊢
  have z10 : a10.tmps.size = 81 := by rw [e10, put_size]; exact z9
  replace t5 : a10.tmps.getD 5 undef = .pointer (some ⟨bx, 0, none⟩) := by rw [e10, put_ne _ _ _ _ (by decide)]; exact t5
  replace t7 : a10.tmps.getD 7 undef = .pointer (some ⟨qf, 0, none⟩) := by rw [e10, put_ne _ _ _ _ (by decide)]; exact t7
  replace t8 : a10.tmps.getD 8 undef = .slice (some ⟨pb, 0, none⟩) nE pc := by rw [e10, put_ne _ _ _ _ (by decide)]; exact t8
  replace t9 : a10.tmps.getD 9 undef = .pointer (some ⟨qg, 0, none⟩) := by rw [e10, put_ne _ _ _ _ (by decide)]; exact t9
  clear t30
  clear t32
  have t33 : a10.tmps.getD 33 undef = .bool false := by rw [e10]; exact put_same _ _ _ (by omega)
  clear e10 z9
  refine wpAnyH_take (i := 10) (oi := { dst := some 34, op := Op.move (Operand.tmp 33), type := 4, pos := "law.go:135", after := #[{ on := 9, ground := Ground.data }, { on := 6, ground := Ground.chain }], guard := none }) (v := .bool false) rfl (by kernel_rfl) (by kernel_rfl) (by kernel_rfl) (fun _ _ _ h => h) (Or.inl ⟨by rfl, fun w1 hw => by go_simp⟩) hHeld ?_
  change wpAnyH _ _ _ _ _ _ _ (a10.put (some 34) (.bool false)) _
  obtain ⟨a11, e11⟩ : ∃ act, act = a10.put (some 34) (.bool false) := ⟨_, rfl⟩
  rw [← e11] at h ⊢
  have z11 : a11.tmps.size = 81 := by rw [e11, put_size]; exact z10
  replace t5 : a11.tmps.getD 5 undef = .pointer (some ⟨bx, 0, none⟩) := by rw [e11, put_ne _ _ _ _ (by decide)]; exact t5
  replace t7 : a11.tmps.getD 7 undef = .pointer (some ⟨qf, 0, none⟩) := by rw [e11, put_ne _ _ _ _ (by decide)]; exact t7
  replace t8 : a11.tmps.getD 8 undef = .slice (some ⟨pb, 0, none⟩) nE pc := by rw [e11, put_ne _ _ _ _ (by decide)]; exact t8
  replace t9 : a11.tmps.getD 9 undef = .pointer (some ⟨qg, 0, none⟩) := by rw [e11, put_ne _ _ _ _ (by decide)]; exact t9
  clear t33
  have t34 : a11.tmps.getD 34 undef = .bool false := by rw [e11]; exact put_same _ _ _ (by omega)
  clear e11 z10
  refine wpAnyH_take (i := 11) (oi := { dst := some 35, op := Op.move (Operand.tmp 9), type := 23, pos := "law.go:135", after := #[{ on := 10, ground := Ground.guard }], guard := some (10, false) }) (v := .pointer (some ⟨qg, 0, none⟩)) rfl (by kernel_rfl) (by kernel_rfl) (by kernel_rfl) (fun _ _ _ h => h) (Or.inl ⟨by simp [Region.wanted, yielded, back4_ops, tget z11 (by decide) t34], fun w1 hw => by go_simp⟩) hHeld ?_
  change wpAnyH _ _ _ _ _ _ _ (a11.put (some 35) (.pointer (some ⟨qg, 0, none⟩))) _
  obtain ⟨a12, e12⟩ : ∃ act, act = a11.put (some 35) (.pointer (some ⟨qg, 0, none⟩)) := ⟨_, rfl⟩
  rw [← e12] at h ⊢
  have z12 : a12.tmps.size = 81 := by rw [e12, put_size]; exact z11
  replace t5 : a12.tmps.getD 5 undef = .pointer (some ⟨bx, 0, none⟩) := by rw [e12, put_ne _ _ _ _ (by decide)]; exact t5
  replace t7 : a12.tmps.getD 7 undef = .pointer (some ⟨qf, 0, none⟩) := by rw [e12, put_ne _ _ _ _ (by decide)]; exact t7
  replace t8 : a12.tmps.getD 8 undef = .slice (some ⟨pb, 0, none⟩) nE pc := by rw [e12, put_ne _ _ _ _ (by decide)]; exact t8
  replace t9 : a12.tmps.getD 9 undef = .pointer (some ⟨qg, 0, none⟩) := by rw [e12, put_ne _ _ _ _ (by decide)]; exact t9
  replace t34 : a12.tmps.getD 34 undef = .bool false := by rw [e12, put_ne _ _ _ _ (by decide)]; exact t34
  have t35 : a12.tmps.getD 35 undef = .pointer (some ⟨qg, 0, none⟩) := by rw [e12]; exact put_same _ _ _ (by omega)
  clear e12 z11
  refine wpAnyH_take (i := 13) (oi := { dst := some 37, op := Op.move (Operand.tmp 8), type := 53, pos := "law.go:135", after := #[{ on := 10, ground := Ground.guard }], guard := some (10, false) }) (v := .slice (some ⟨pb, 0, none⟩) nE pc) rfl (by kernel_rfl) (by kernel_rfl) (by kernel_rfl) (fun _ _ _ h => h) (Or.inl ⟨by simp [Region.wanted, yielded, back4_ops, tget z12 (by decide) t34], fun w1 hw => by go_simp⟩) hHeld ?_
  change wpAnyH _ _ _ _ _ _ _ (a12.put (some 37) (.slice (some ⟨pb, 0, none⟩) nE pc)) _
  obtain ⟨a13, e13⟩ : ∃ act, act = a12.put (some 37) (.slice (some ⟨pb, 0, none⟩) nE pc) := ⟨_, rfl⟩
  rw [← e13] at h ⊢
  have z13 : a13.tmps.size = 81 := by rw [e13, put_size]; exact z12
  replace t5 : a13.tmps.getD 5 undef = .pointer (some ⟨bx, 0, none⟩) := by rw [e13, put_ne _ _ _ _ (by decide)]; exact t5
  replace t7 : a13.tmps.getD 7 undef = .pointer (some ⟨qf, 0, none⟩) := by rw [e13, put_ne _ _ _ _ (by decide)]; exact t7
  clear t8
  replace t9 : a13.tmps.getD 9 undef = .pointer (some ⟨qg, 0, none⟩) := by rw [e13, put_ne _ _ _ _ (by decide)]; exact t9
  replace t34 : a13.tmps.getD 34 undef = .bool false := by rw [e13, put_ne _ _ _ _ (by decide)]; exact t34
  replace t35 : a13.tmps.getD 35 undef = .pointer (some ⟨qg, 0, none⟩) := by rw [e13, put_ne _ _ _ _ (by decide)]; exact t35
  have t37 : a13.tmps.getD 37 undef = .slice (some ⟨pb, 0, none⟩) nE pc := by rw [e13]; exact put_same _ _ _ (by omega)
  clear e13 z12
  refine wpAnyH_ready (rs := [12]) (by kernel_rfl) (by simp) ?_
  refine AllReadyH.cons (o := { dst := some 36, op := Op.call { callee := Callee.value (Operand.func 34), args := #[Operand.tmp 35], argTypes := #[23] }, type := 53, pos := "law.go:135", after := #[{ on := 11, ground := Ground.data }, { on := 10, ground := Ground.chain }, { on := 10, ground := Ground.guard }], guard := some (10, false) }) rfl (fun K hK => ?_) AllReadyH.nil
  rw [if_pos (by simp [Region.wanted, yielded, back4_ops, tget z13 (by decide) t34])]
  go_simp
  refine (C12 _ hHeld).mono ?_
  rintro e x14 ⟨b4, c4, rfl, y4, l4⟩
  try go_wp2_with fail
  replace h := h b4 c4
  refine hK.out _ _ (hHeld.trans (l4.mono (hN _ hHeld))) (fun hHeld => ?_)
  clear hK K
  change wpAnyH _ _ _ _ _ _ _ (a13.put (some 36) (.slice (some ⟨b4, 0, none⟩) nE c4)) _
  obtain ⟨a14, e14⟩ : ∃ act, act = a13.put (some 36) (.slice (some ⟨b4, 0, none⟩) nE c4) := ⟨_, rfl⟩
  rw [← e14] at h ⊢
  have z14 : a14.tmps.size = 81 := by rw [e14, put_size]; exact z13
  replace t5 : a14.tmps.getD 5 undef = .pointer (some ⟨bx, 0, none⟩) := by rw [e14, put_ne _ _ _ _ (by decide)]; exact t5
  replace t7 : a14.tmps.getD 7 undef = .pointer (some ⟨qf, 0, none⟩) := by rw [e14, put_ne _ _ _ _ (by decide)]; exact t7
  replace t9 : a14.tmps.getD 9 undef = .pointer (some ⟨qg, 0, none⟩) := by rw [e14, put_ne _ _ _ _ (by decide)]; exact t9
  replace t34 : a14.tmps.getD 34 undef = .bool false := by rw [e14, put_ne _ _ _ _ (by decide)]; exact t34
  clear t35
  replace t37 : a14.tmps.getD 37 undef = .slice (some ⟨pb, 0, none⟩) nE pc := by rw [e14, put_ne _ _ _ _ (by decide)]; exact t37
  have t36 : a14.tmps.getD 36 undef = .slice (some ⟨b4, 0, none⟩) nE c4 := by rw [e14]; exact put_same _ _ _ (by omega)
  clear e14 z13
  refine wpAnyH_ready (rs := [14]) (by kernel_rfl) (by simp) ?_
  refine AllReadyH.cons (o := { dst := some 38, op := Op.call { callee := Callee.value (Operand.func 35), args := #[Operand.tmp 36, Operand.tmp 37], argTypes := #[53, 53] }, type := 4, pos := "law.go:135", after := #[{ on := 12, ground := Ground.data }, { on := 13, ground := Ground.data }, { on := 12, ground := Ground.chain }, { on := 10, ground := Ground.guard }], guard := some (10, false) }) rfl (fun K hK => ?_) AllReadyH.nil
  rw [if_pos (by simp [Region.wanted, yielded, back4_ops, tget z14 (by decide) t34])]
  go_simp
  refine (C14 _ b4 c4 hHeld y4).mono ?_
  rintro e x15 ⟨rfl, l4b⟩
  try go_wp2_with fail
  skip
  refine hK.out _ _ (hHeld.trans (l4b.mono (hN _ hHeld))) (fun hHeld => ?_)
  clear hK K
  change wpAnyH _ _ _ _ _ _ _ (a14.put (some 38) (.bool true)) _
  obtain ⟨a15, e15⟩ : ∃ act, act = a14.put (some 38) (.bool true) := ⟨_, rfl⟩
  rw [← e15] at h ⊢
  have z15 : a15.tmps.size = 81 := by rw [e15, put_size]; exact z14
  replace t5 : a15.tmps.getD 5 undef = .pointer (some ⟨bx, 0, none⟩) := by rw [e15, put_ne _ _ _ _ (by decide)]; exact t5
  replace t7 : a15.tmps.getD 7 undef = .pointer (some ⟨qf, 0, none⟩) := by rw [e15, put_ne _ _ _ _ (by decide)]; exact t7
  replace t9 : a15.tmps.getD 9 undef = .pointer (some ⟨qg, 0, none⟩) := by rw [e15, put_ne _ _ _ _ (by decide)]; exact t9
  replace t34 : a15.tmps.getD 34 undef = .bool false := by rw [e15, put_ne _ _ _ _ (by decide)]; exact t34
  clear t37
  clear t36
  have t38 : a15.tmps.getD 38 undef = .bool true := by rw [e15]; exact put_same _ _ _ (by omega)
  clear e15 z14
  refine wpAnyH_take (i := 15) (oi := { dst := some 39, op := Op.unOp UnOp.not 4 (Operand.tmp 38), type := 4, pos := "law.go:135", after := #[{ on := 14, ground := Ground.data }, { on := 10, ground := Ground.guard }], guard := some (10, false) }) (v := .bool false) rfl (by kernel_rfl) (by kernel_rfl) (by kernel_rfl) (fun _ _ _ h => h) (Or.inl ⟨by simp [Region.wanted, yielded, back4_ops, tget z15 (by decide) t34], fun w1 hw => by go_simp⟩) hHeld ?_
  change wpAnyH _ _ _ _ _ _ _ (a15.put (some 39) (.bool false)) _
  obtain ⟨a16, e16⟩ : ∃ act, act = a15.put (some 39) (.bool false) := ⟨_, rfl⟩
  rw [← e16] at h ⊢
  have z16 : a16.tmps.size = 81 := by rw [e16, put_size]; exact z15
  replace t5 : a16.tmps.getD 5 undef = .pointer (some ⟨bx, 0, none⟩) := by rw [e16, put_ne _ _ _ _ (by decide)]; exact t5
  replace t7 : a16.tmps.getD 7 undef = .pointer (some ⟨qf, 0, none⟩) := by rw [e16, put_ne _ _ _ _ (by decide)]; exact t7
  replace t9 : a16.tmps.getD 9 undef = .pointer (some ⟨qg, 0, none⟩) := by rw [e16, put_ne _ _ _ _ (by decide)]; exact t9
  replace t34 : a16.tmps.getD 34 undef = .bool false := by rw [e16, put_ne _ _ _ _ (by decide)]; exact t34
  clear t38
  have t39 : a16.tmps.getD 39 undef = .bool false := by rw [e16]; exact put_same _ _ _ (by omega)
  clear e16 z15
  refine wpAnyH_take (i := 16) (oi := { dst := some 40, op := Op.pick (Operand.tmp 34) (Operand.const (Value.bool true)) (Operand.tmp 39), type := 4, pos := "law.go:135", after := #[{ on := 10, ground := Ground.data }, { on := 15, ground := Ground.data }], guard := none }) (v := .bool false) rfl (by kernel_rfl) (by kernel_rfl) (by kernel_rfl) (fun _ _ _ h => h) (Or.inl ⟨by rfl, fun w1 hw => by go_simp⟩) hHeld ?_
  change wpAnyH _ _ _ _ _ _ _ (a16.put (some 40) (.bool false)) _
  obtain ⟨a17, e17⟩ : ∃ act, act = a16.put (some 40) (.bool false) := ⟨_, rfl⟩
  rw [← e17] at h ⊢
  have z17 : a17.tmps.size = 81 := by rw [e17, put_size]; exact z16
  replace t5 : a17.tmps.getD 5 undef = .pointer (some ⟨bx, 0, none⟩) := by rw [e17, put_ne _ _ _ _ (by decide)]; exact t5
  replace t7 : a17.tmps.getD 7 undef = .pointer (some ⟨qf, 0, none⟩) := by rw [e17, put_ne _ _ _ _ (by decide)]; exact t7
  replace t9 : a17.tmps.getD 9 undef = .pointer (some ⟨qg, 0, none⟩) := by rw [e17, put_ne _ _ _ _ (by decide)]; exact t9
  clear t34
  clear t39
  have t40 : a17.tmps.getD 40 undef = .bool false := by rw [e17]; exact put_same _ _ _ (by omega)
  clear e17 z16
  refine wpAnyH_take (i := 17) (oi := { dst := some 41, op := Op.move (Operand.tmp 40), type := 4, pos := "law.go:135", after := #[{ on := 16, ground := Ground.data }, { on := 14, ground := Ground.chain }], guard := none }) (v := .bool false) rfl (by kernel_rfl) (by kernel_rfl) (by kernel_rfl) (fun _ _ _ h => h) (Or.inl ⟨by rfl, fun w1 hw => by go_simp⟩) hHeld ?_
  change wpAnyH _ _ _ _ _ _ _ (a17.put (some 41) (.bool false)) _
  obtain ⟨a18, e18⟩ : ∃ act, act = a17.put (some 41) (.bool false) := ⟨_, rfl⟩
  rw [← e18] at h ⊢
  have z18 : a18.tmps.size = 81 := by rw [e18, put_size]; exact z17
  replace t5 : a18.tmps.getD 5 undef = .pointer (some ⟨bx, 0, none⟩) := by rw [e18, put_ne _ _ _ _ (by decide)]; exact t5
  replace t7 : a18.tmps.getD 7 undef = .pointer (some ⟨qf, 0, none⟩) := by rw [e18, put_ne _ _ _ _ (by decide)]; exact t7
  replace t9 : a18.tmps.getD 9 undef = .pointer (some ⟨qg, 0, none⟩) := by rw [e18, put_ne _ _ _ _ (by decide)]; exact t9
  clear t40
  have t41 : a18.tmps.getD 41 undef = .bool false := by rw [e18]; exact put_same _ _ _ (by omega)
  clear e18 z17
  refine wpAnyH_take (i := 18) (oi := { dst := some 42, op := Op.move (Operand.tmp 9), type := 23, pos := "law.go:135", after := #[{ on := 17, ground := Ground.guard }], guard := some (17, false) }) (v := .pointer (some ⟨qg, 0, none⟩)) rfl (by kernel_rfl) (by kernel_rfl) (by kernel_rfl) (fun _ _ _ h => h) (Or.inl ⟨by simp [Region.wanted, yielded, back4_ops, tget z18 (by decide) t41], fun w1 hw => by go_simp⟩) hHeld ?_
  change wpAnyH _ _ _ _ _ _ _ (a18.put (some 42) (.pointer (some ⟨qg, 0, none⟩))) _
  obtain ⟨a19, e19⟩ : ∃ act, act = a18.put (some 42) (.pointer (some ⟨qg, 0, none⟩)) := ⟨_, rfl⟩
  rw [← e19] at h ⊢
  have z19 : a19.tmps.size = 81 := by rw [e19, put_size]; exact z18
  replace t5 : a19.tmps.getD 5 undef = .pointer (some ⟨bx, 0, none⟩) := by rw [e19, put_ne _ _ _ _ (by decide)]; exact t5
  replace t7 : a19.tmps.getD 7 undef = .pointer (some ⟨qf, 0, none⟩) := by rw [e19, put_ne _ _ _ _ (by decide)]; exact t7
  replace t9 : a19.tmps.getD 9 undef = .pointer (some ⟨qg, 0, none⟩) := by rw [e19, put_ne _ _ _ _ (by decide)]; exact t9
  replace t41 : a19.tmps.getD 41 undef = .bool false := by rw [e19, put_ne _ _ _ _ (by decide)]; exact t41
  have t42 : a19.tmps.getD 42 undef = .pointer (some ⟨qg, 0, none⟩) := by rw [e19]; exact put_same _ _ _ (by omega)
  clear e19 z18
  refine wpAnyH_take (i := 20) (oi := { dst := some 44, op := Op.move (Operand.tmp 7), type := 23, pos := "law.go:135", after := #[{ on := 17, ground := Ground.guard }], guard := some (17, false) }) (v := .pointer (some ⟨qf, 0, none⟩)) rfl (by kernel_rfl) (by kernel_rfl) (by kernel_rfl) (fun _ _ _ h => h) (Or.inl ⟨by simp [Region.wanted, yielded, back4_ops, tget z19 (by decide) t41], fun w1 hw => by go_simp⟩) hHeld ?_
  change wpAnyH _ _ _ _ _ _ _ (a19.put (some 44) (.pointer (some ⟨qf, 0, none⟩))) _
  obtain ⟨a20, e20⟩ : ∃ act, act = a19.put (some 44) (.pointer (some ⟨qf, 0, none⟩)) := ⟨_, rfl⟩
  rw [← e20] at h ⊢
  have z20 : a20.tmps.size = 81 := by rw [e20, put_size]; exact z19
  replace t5 : a20.tmps.getD 5 undef = .pointer (some ⟨bx, 0, none⟩) := by rw [e20, put_ne _ _ _ _ (by decide)]; exact t5
  replace t7 : a20.tmps.getD 7 undef = .pointer (some ⟨qf, 0, none⟩) := by rw [e20, put_ne _ _ _ _ (by decide)]; exact t7
  replace t9 : a20.tmps.getD 9 undef = .pointer (some ⟨qg, 0, none⟩) := by rw [e20, put_ne _ _ _ _ (by decide)]; exact t9
  replace t41 : a20.tmps.getD 41 undef = .bool false := by rw [e20, put_ne _ _ _ _ (by decide)]; exact t41
  replace t42 : a20.tmps.getD 42 undef = .pointer (some ⟨qg, 0, none⟩) := by rw [e20, put_ne _ _ _ _ (by decide)]; exact t42
  have t44 : a20.tmps.getD 44 undef = .pointer (some ⟨qf, 0, none⟩) := by rw [e20]; exact put_same _ _ _ (by omega)
  clear e20 z19
  refine wpAnyH_ready (rs := [19]) (by kernel_rfl) (by simp) ?_
  refine AllReadyH.cons (o := { dst := some 43, op := Op.call { callee := Callee.value (Operand.func 32), args := #[Operand.tmp 42], argTypes := #[23] }, type := 3, pos := "law.go:135", after := #[{ on := 18, ground := Ground.data }, { on := 17, ground := Ground.chain }, { on := 17, ground := Ground.guard }], guard := some (17, false) }) rfl (fun K hK => ?_) AllReadyH.nil
  rw [if_pos (by simp [Region.wanted, yielded, back4_ops, tget z20 (by decide) t41])]
  go_simp
  refine (C19 _ hHeld).mono ?_
  rintro e x21 ⟨rfl, l5⟩
  try go_wp2_with fail
  skip
  refine hK.out _ _ (hHeld.trans (l5.mono (hN _ hHeld))) (fun hHeld => ?_)
  clear hK K
  change wpAnyH _ _ _ _ _ _ _ (a20.put (some 43) (.int .i64 bi)) _
  obtain ⟨a21, e21⟩ : ∃ act, act = a20.put (some 43) (.int .i64 bi) := ⟨_, rfl⟩
  rw [← e21] at h ⊢
  have z21 : a21.tmps.size = 81 := by rw [e21, put_size]; exact z20
  replace t5 : a21.tmps.getD 5 undef = .pointer (some ⟨bx, 0, none⟩) := by rw [e21, put_ne _ _ _ _ (by decide)]; exact t5
  replace t7 : a21.tmps.getD 7 undef = .pointer (some ⟨qf, 0, none⟩) := by rw [e21, put_ne _ _ _ _ (by decide)]; exact t7
  replace t9 : a21.tmps.getD 9 undef = .pointer (some ⟨qg, 0, none⟩) := by rw [e21, put_ne _ _ _ _ (by decide)]; exact t9
  replace t41 : a21.tmps.getD 41 undef = .bool false := by rw [e21, put_ne _ _ _ _ (by decide)]; exact t41
  clear t42
  replace t44 : a21.tmps.getD 44 undef = .pointer (some ⟨qf, 0, none⟩) := by rw [e21, put_ne _ _ _ _ (by decide)]; exact t44
  have t43 : a21.tmps.getD 43 undef = .int .i64 bi := by rw [e21]; exact put_same _ _ _ (by omega)
  clear e21 z20
  refine wpAnyH_ready (rs := [21]) (by kernel_rfl) (by simp) ?_
  refine AllReadyH.cons (o := { dst := some 45, op := Op.call { callee := Callee.value (Operand.func 32), args := #[Operand.tmp 44], argTypes := #[23] }, type := 3, pos := "law.go:135", after := #[{ on := 20, ground := Ground.data }, { on := 19, ground := Ground.chain }, { on := 17, ground := Ground.guard }], guard := some (17, false) }) rfl (fun K hK => ?_) AllReadyH.nil
  rw [if_pos (by simp [Region.wanted, yielded, back4_ops, tget z21 (by decide) t41])]
  go_simp
  refine (C21 _ hHeld).mono ?_
  rintro e x22 ⟨rfl, l6⟩
  try go_wp2_with fail
  skip
  refine hK.out _ _ (hHeld.trans (l6.mono (hN _ hHeld))) (fun hHeld => ?_)
  clear hK K
  change wpAnyH _ _ _ _ _ _ _ (a21.put (some 45) (.int .i64 bi)) _
  obtain ⟨a22, e22⟩ : ∃ act, act = a21.put (some 45) (.int .i64 bi) := ⟨_, rfl⟩
  rw [← e22] at h ⊢
  have z22 : a22.tmps.size = 81 := by rw [e22, put_size]; exact z21
  replace t5 : a22.tmps.getD 5 undef = .pointer (some ⟨bx, 0, none⟩) := by rw [e22, put_ne _ _ _ _ (by decide)]; exact t5
  replace t7 : a22.tmps.getD 7 undef = .pointer (some ⟨qf, 0, none⟩) := by rw [e22, put_ne _ _ _ _ (by decide)]; exact t7
  replace t9 : a22.tmps.getD 9 undef = .pointer (some ⟨qg, 0, none⟩) := by rw [e22, put_ne _ _ _ _ (by decide)]; exact t9
  replace t41 : a22.tmps.getD 41 undef = .bool false := by rw [e22, put_ne _ _ _ _ (by decide)]; exact t41
  clear t44
  replace t43 : a22.tmps.getD 43 undef = .int .i64 bi := by rw [e22, put_ne _ _ _ _ (by decide)]; exact t43
  have t45 : a22.tmps.getD 45 undef = .int .i64 bi := by rw [e22]; exact put_same _ _ _ (by omega)
  clear e22 z21
  refine wpAnyH_take (i := 22) (oi := { dst := some 46, op := Op.binOp BinOp.neq 3 (Operand.tmp 43) (Operand.tmp 45) 3, type := 4, pos := "law.go:135", after := #[{ on := 19, ground := Ground.data }, { on := 21, ground := Ground.data }, { on := 17, ground := Ground.guard }], guard := some (17, false) }) (v := .bool false) rfl (by kernel_rfl) (by kernel_rfl) (by kernel_rfl) (fun _ _ _ h => h) (Or.inl ⟨by simp [Region.wanted, yielded, back4_ops, tget z22 (by decide) t41], fun w1 hw => by go_simp⟩) hHeld ?_
  change wpAnyH _ _ _ _ _ _ _ (a22.put (some 46) (.bool false)) _
  obtain ⟨a23, e23⟩ : ∃ act, act = a22.put (some 46) (.bool false) := ⟨_, rfl⟩
  rw [← e23] at h ⊢
  have z23 : a23.tmps.size = 81 := by rw [e23, put_size]; exact z22
  replace t5 : a23.tmps.getD 5 undef = .pointer (some ⟨bx, 0, none⟩) := by rw [e23, put_ne _ _ _ _ (by decide)]; exact t5
  replace t7 : a23.tmps.getD 7 undef = .pointer (some ⟨qf, 0, none⟩) := by rw [e23, put_ne _ _ _ _ (by decide)]; exact t7
  replace t9 : a23.tmps.getD 9 undef = .pointer (some ⟨qg, 0, none⟩) := by rw [e23, put_ne _ _ _ _ (by decide)]; exact t9
  replace t41 : a23.tmps.getD 41 undef = .bool false := by rw [e23, put_ne _ _ _ _ (by decide)]; exact t41
  clear t43
  clear t45
  have t46 : a23.tmps.getD 46 undef = .bool false := by rw [e23]; exact put_same _ _ _ (by omega)
  clear e23 z22
  refine wpAnyH_take (i := 23) (oi := { dst := some 47, op := Op.pick (Operand.tmp 41) (Operand.const (Value.bool true)) (Operand.tmp 46), type := 4, pos := "law.go:135", after := #[{ on := 17, ground := Ground.data }, { on := 22, ground := Ground.data }], guard := none }) (v := .bool false) rfl (by kernel_rfl) (by kernel_rfl) (by kernel_rfl) (fun _ _ _ h => h) (Or.inl ⟨by rfl, fun w1 hw => by go_simp⟩) hHeld ?_
  change wpAnyH _ _ _ _ _ _ _ (a23.put (some 47) (.bool false)) _
  obtain ⟨a24, e24⟩ : ∃ act, act = a23.put (some 47) (.bool false) := ⟨_, rfl⟩
  rw [← e24] at h ⊢
  have z24 : a24.tmps.size = 81 := by rw [e24, put_size]; exact z23
  replace t5 : a24.tmps.getD 5 undef = .pointer (some ⟨bx, 0, none⟩) := by rw [e24, put_ne _ _ _ _ (by decide)]; exact t5
  replace t7 : a24.tmps.getD 7 undef = .pointer (some ⟨qf, 0, none⟩) := by rw [e24, put_ne _ _ _ _ (by decide)]; exact t7
  replace t9 : a24.tmps.getD 9 undef = .pointer (some ⟨qg, 0, none⟩) := by rw [e24, put_ne _ _ _ _ (by decide)]; exact t9
  clear t41
  clear t46
  have t47 : a24.tmps.getD 47 undef = .bool false := by rw [e24]; exact put_same _ _ _ (by omega)
  clear e24 z23
  refine wpAnyH_take (i := 24) (oi := { dst := some 48, op := Op.move (Operand.tmp 47), type := 4, pos := "law.go:135", after := #[{ on := 23, ground := Ground.data }, { on := 21, ground := Ground.chain }], guard := none }) (v := .bool false) rfl (by kernel_rfl) (by kernel_rfl) (by kernel_rfl) (fun _ _ _ h => h) (Or.inl ⟨by rfl, fun w1 hw => by go_simp⟩) hHeld ?_
  change wpAnyH _ _ _ _ _ _ _ (a24.put (some 48) (.bool false)) _
  obtain ⟨a25, e25⟩ : ∃ act, act = a24.put (some 48) (.bool false) := ⟨_, rfl⟩
  rw [← e25] at h ⊢
  have z25 : a25.tmps.size = 81 := by rw [e25, put_size]; exact z24
  replace t5 : a25.tmps.getD 5 undef = .pointer (some ⟨bx, 0, none⟩) := by rw [e25, put_ne _ _ _ _ (by decide)]; exact t5
  replace t7 : a25.tmps.getD 7 undef = .pointer (some ⟨qf, 0, none⟩) := by rw [e25, put_ne _ _ _ _ (by decide)]; exact t7
  replace t9 : a25.tmps.getD 9 undef = .pointer (some ⟨qg, 0, none⟩) := by rw [e25, put_ne _ _ _ _ (by decide)]; exact t9
  clear t47
  have t48 : a25.tmps.getD 48 undef = .bool false := by rw [e25]; exact put_same _ _ _ (by omega)
  clear e25 z24
  refine wpAnyH_take (i := 25) (oi := { dst := some 49, op := Op.move (Operand.tmp 9), type := 23, pos := "law.go:135", after := #[{ on := 24, ground := Ground.guard }], guard := some (24, false) }) (v := .pointer (some ⟨qg, 0, none⟩)) rfl (by kernel_rfl) (by kernel_rfl) (by kernel_rfl) (fun _ _ _ h => h) (Or.inl ⟨by simp [Region.wanted, yielded, back4_ops, tget z25 (by decide) t48], fun w1 hw => by go_simp⟩) hHeld ?_
  change wpAnyH _ _ _ _ _ _ _ (a25.put (some 49) (.pointer (some ⟨qg, 0, none⟩))) _
  obtain ⟨a26, e26⟩ : ∃ act, act = a25.put (some 49) (.pointer (some ⟨qg, 0, none⟩)) := ⟨_, rfl⟩
  rw [← e26] at h ⊢
  have z26 : a26.tmps.size = 81 := by rw [e26, put_size]; exact z25
  replace t5 : a26.tmps.getD 5 undef = .pointer (some ⟨bx, 0, none⟩) := by rw [e26, put_ne _ _ _ _ (by decide)]; exact t5
  replace t7 : a26.tmps.getD 7 undef = .pointer (some ⟨qf, 0, none⟩) := by rw [e26, put_ne _ _ _ _ (by decide)]; exact t7
  replace t9 : a26.tmps.getD 9 undef = .pointer (some ⟨qg, 0, none⟩) := by rw [e26, put_ne _ _ _ _ (by decide)]; exact t9
  replace t48 : a26.tmps.getD 48 undef = .bool false := by rw [e26, put_ne _ _ _ _ (by decide)]; exact t48
  have t49 : a26.tmps.getD 49 undef = .pointer (some ⟨qg, 0, none⟩) := by rw [e26]; exact put_same _ _ _ (by omega)
  clear e26 z25
  refine wpAnyH_take (i := 26) (oi := { dst := some 50, op := Op.load 30 (Operand.tmp 5), type := 30, pos := "law.go:135", after := #[{ on := 24, ground := Ground.guard }], guard := some (24, false) }) (v := .agg (bs hh)) rfl (by kernel_rfl) (by kernel_rfl) (by kernel_rfl) (fun _ _ _ h => h) (Or.inl ⟨by simp [Region.wanted, yielded, back4_ops, tget z26 (by decide) t48], fun w1 hw => exec_load rfl t5 (HLD _ hw)⟩) hHeld ?_
  change wpAnyH _ _ _ _ _ _ _ (a26.put (some 50) (.agg (bs hh))) _
  obtain ⟨a27, e27⟩ : ∃ act, act = a26.put (some 50) (.agg (bs hh)) := ⟨_, rfl⟩
  rw [← e27] at h ⊢
  have z27 : a27.tmps.size = 81 := by rw [e27, put_size]; exact z26
  replace t5 : a27.tmps.getD 5 undef = .pointer (some ⟨bx, 0, none⟩) := by rw [e27, put_ne _ _ _ _ (by decide)]; exact t5
  replace t7 : a27.tmps.getD 7 undef = .pointer (some ⟨qf, 0, none⟩) := by rw [e27, put_ne _ _ _ _ (by decide)]; exact t7
  replace t9 : a27.tmps.getD 9 undef = .pointer (some ⟨qg, 0, none⟩) := by rw [e27, put_ne _ _ _ _ (by decide)]; exact t9
  replace t48 : a27.tmps.getD 48 undef = .bool false := by rw [e27, put_ne _ _ _ _ (by decide)]; exact t48
  replace t49 : a27.tmps.getD 49 undef = .pointer (some ⟨qg, 0, none⟩) := by rw [e27, put_ne _ _ _ _ (by decide)]; exact t49
  have t50 : a27.tmps.getD 50 undef = .agg (bs hh) := by rw [e27]; exact put_same _ _ _ (by omega)
  clear e27 z26
  refine wpAnyH_take (i := 28) (oi := { dst := some 52, op := Op.move (Operand.tmp 7), type := 23, pos := "law.go:135", after := #[{ on := 24, ground := Ground.guard }], guard := some (24, false) }) (v := .pointer (some ⟨qf, 0, none⟩)) rfl (by kernel_rfl) (by kernel_rfl) (by kernel_rfl) (fun _ _ _ h => h) (Or.inl ⟨by simp [Region.wanted, yielded, back4_ops, tget z27 (by decide) t48], fun w1 hw => by go_simp⟩) hHeld ?_
  change wpAnyH _ _ _ _ _ _ _ (a27.put (some 52) (.pointer (some ⟨qf, 0, none⟩))) _
  obtain ⟨a28, e28⟩ : ∃ act, act = a27.put (some 52) (.pointer (some ⟨qf, 0, none⟩)) := ⟨_, rfl⟩
  rw [← e28] at h ⊢
  have z28 : a28.tmps.size = 81 := by rw [e28, put_size]; exact z27
  replace t5 : a28.tmps.getD 5 undef = .pointer (some ⟨bx, 0, none⟩) := by rw [e28, put_ne _ _ _ _ (by decide)]; exact t5
  replace t7 : a28.tmps.getD 7 undef = .pointer (some ⟨qf, 0, none⟩) := by rw [e28, put_ne _ _ _ _ (by decide)]; exact t7
  replace t9 : a28.tmps.getD 9 undef = .pointer (some ⟨qg, 0, none⟩) := by rw [e28, put_ne _ _ _ _ (by decide)]; exact t9
  replace t48 : a28.tmps.getD 48 undef = .bool false := by rw [e28, put_ne _ _ _ _ (by decide)]; exact t48
  replace t49 : a28.tmps.getD 49 undef = .pointer (some ⟨qg, 0, none⟩) := by rw [e28, put_ne _ _ _ _ (by decide)]; exact t49
  replace t50 : a28.tmps.getD 50 undef = .agg (bs hh) := by rw [e28, put_ne _ _ _ _ (by decide)]; exact t50
  have t52 : a28.tmps.getD 52 undef = .pointer (some ⟨qf, 0, none⟩) := by rw [e28]; exact put_same _ _ _ (by omega)
  clear e28 z27
  refine wpAnyH_take (i := 29) (oi := { dst := some 53, op := Op.load 30 (Operand.tmp 5), type := 30, pos := "law.go:135", after := #[{ on := 24, ground := Ground.guard }], guard := some (24, false) }) (v := .agg (bs hh)) rfl (by kernel_rfl) (by kernel_rfl) (by kernel_rfl) (fun _ _ _ h => h) (Or.inl ⟨by simp [Region.wanted, yielded, back4_ops, tget z28 (by decide) t48], fun w1 hw => exec_load rfl t5 (HLD _ hw)⟩) hHeld ?_
  change wpAnyH _ _ _ _ _ _ _ (a28.put (some 53) (.agg (bs hh))) _
  obtain ⟨a29, e29⟩ : ∃ act, act = a28.put (some 53) (.agg (bs hh)) := ⟨_, rfl⟩
  rw [← e29] at h ⊢
  have z29 : a29.tmps.size = 81 := by rw [e29, put_size]; exact z28
  replace t5 : a29.tmps.getD 5 undef = .pointer (some ⟨bx, 0, none⟩) := by rw [e29, put_ne _ _ _ _ (by decide)]; exact t5
  replace t7 : a29.tmps.getD 7 undef = .pointer (some ⟨qf, 0, none⟩) := by rw [e29, put_ne _ _ _ _ (by decide)]; exact t7
  replace t9 : a29.tmps.getD 9 undef = .pointer (some ⟨qg, 0, none⟩) := by rw [e29, put_ne _ _ _ _ (by decide)]; exact t9
  replace t48 : a29.tmps.getD 48 undef = .bool false := by rw [e29, put_ne _ _ _ _ (by decide)]; exact t48
  replace t49 : a29.tmps.getD 49 undef = .pointer (some ⟨qg, 0, none⟩) := by rw [e29, put_ne _ _ _ _ (by decide)]; exact t49
  replace t50 : a29.tmps.getD 50 undef = .agg (bs hh) := by rw [e29, put_ne _ _ _ _ (by decide)]; exact t50
  replace t52 : a29.tmps.getD 52 undef = .pointer (some ⟨qf, 0, none⟩) := by rw [e29, put_ne _ _ _ _ (by decide)]; exact t52
  have t53 : a29.tmps.getD 53 undef = .agg (bs hh) := by rw [e29]; exact put_same _ _ _ (by omega)
  clear e29 z28
  refine wpAnyH_ready (rs := [27]) (by kernel_rfl) (by simp) ?_
  refine AllReadyH.cons (o := { dst := some 51, op := Op.call { callee := Callee.value (Operand.func 22), args := #[Operand.tmp 49, Operand.tmp 50], argTypes := #[23, 30] }, type := 4, pos := "law.go:135", after := #[{ on := 25, ground := Ground.data }, { on := 26, ground := Ground.data }, { on := 24, ground := Ground.chain }, { on := 24, ground := Ground.guard }], guard := some (24, false) }) rfl (fun K hK => ?_) AllReadyH.nil
  rw [if_pos (by simp [Region.wanted, yielded, back4_ops, tget z29 (by decide) t48])]
  go_simp
  refine (C27 _ hHeld).mono ?_
  rintro e x30 ⟨rfl, l7⟩
  try go_wp2_with fail
  skip
  refine hK.out _ _ (hHeld.trans (l7.mono (hN _ hHeld))) (fun hHeld => ?_)
  clear hK K
  change wpAnyH _ _ _ _ _ _ _ (a29.put (some 51) (.bool z)) _
  obtain ⟨a30, e30⟩ : ∃ act, act = a29.put (some 51) (.bool z) := ⟨_, rfl⟩
  rw [← e30] at h ⊢
  have z30 : a30.tmps.size = 81 := by rw [e30, put_size]; exact z29
  replace t5 : a30.tmps.getD 5 undef = .pointer (some ⟨bx, 0, none⟩) := by rw [e30, put_ne _ _ _ _ (by decide)]; exact t5
  replace t7 : a30.tmps.getD 7 undef = .pointer (some ⟨qf, 0, none⟩) := by rw [e30, put_ne _ _ _ _ (by decide)]; exact t7
  replace t9 : a30.tmps.getD 9 undef = .pointer (some ⟨qg, 0, none⟩) := by rw [e30, put_ne _ _ _ _ (by decide)]; exact t9
  replace t48 : a30.tmps.getD 48 undef = .bool false := by rw [e30, put_ne _ _ _ _ (by decide)]; exact t48
  clear t49
  clear t50
  replace t52 : a30.tmps.getD 52 undef = .pointer (some ⟨qf, 0, none⟩) := by rw [e30, put_ne _ _ _ _ (by decide)]; exact t52
  replace t53 : a30.tmps.getD 53 undef = .agg (bs hh) := by rw [e30, put_ne _ _ _ _ (by decide)]; exact t53
  have t51 : a30.tmps.getD 51 undef = .bool z := by rw [e30]; exact put_same _ _ _ (by omega)
  clear e30 z29
  refine wpAnyH_ready (rs := [30]) (by kernel_rfl) (by simp) ?_
  refine AllReadyH.cons (o := { dst := some 54, op := Op.call { callee := Callee.value (Operand.func 22), args := #[Operand.tmp 52, Operand.tmp 53], argTypes := #[23, 30] }, type := 4, pos := "law.go:135", after := #[{ on := 28, ground := Ground.data }, { on := 29, ground := Ground.data }, { on := 27, ground := Ground.chain }, { on := 24, ground := Ground.guard }], guard := some (24, false) }) rfl (fun K hK => ?_) AllReadyH.nil
  rw [if_pos (by simp [Region.wanted, yielded, back4_ops, tget z30 (by decide) t48])]
  go_simp
  refine (C30 _ hHeld).mono ?_
  rintro e x31 ⟨rfl, l8⟩
  try go_wp2_with fail
  skip
  refine hK.out _ _ (hHeld.trans (l8.mono (hN _ hHeld))) (fun hHeld => ?_)
  clear hK K
  change wpAnyH _ _ _ _ _ _ _ (a30.put (some 54) (.bool z)) _
  obtain ⟨a31, e31⟩ : ∃ act, act = a30.put (some 54) (.bool z) := ⟨_, rfl⟩
  rw [← e31] at h ⊢
  have z31 : a31.tmps.size = 81 := by rw [e31, put_size]; exact z30
  replace t5 : a31.tmps.getD 5 undef = .pointer (some ⟨bx, 0, none⟩) := by rw [e31, put_ne _ _ _ _ (by decide)]; exact t5
  replace t7 : a31.tmps.getD 7 undef = .pointer (some ⟨qf, 0, none⟩) := by rw [e31, put_ne _ _ _ _ (by decide)]; exact t7
  replace t9 : a31.tmps.getD 9 undef = .pointer (some ⟨qg, 0, none⟩) := by rw [e31, put_ne _ _ _ _ (by decide)]; exact t9
  replace t48 : a31.tmps.getD 48 undef = .bool false := by rw [e31, put_ne _ _ _ _ (by decide)]; exact t48
  clear t52
  clear t53
  replace t51 : a31.tmps.getD 51 undef = .bool z := by rw [e31, put_ne _ _ _ _ (by decide)]; exact t51
  have t54 : a31.tmps.getD 54 undef = .bool z := by rw [e31]; exact put_same _ _ _ (by omega)
  clear e31 z30
  refine wpAnyH_take (i := 31) (oi := { dst := some 55, op := Op.binOp BinOp.neq 4 (Operand.tmp 51) (Operand.tmp 54) 4, type := 4, pos := "law.go:135", after := #[{ on := 27, ground := Ground.data }, { on := 30, ground := Ground.data }, { on := 24, ground := Ground.guard }], guard := some (24, false) }) (v := .bool false) rfl (by kernel_rfl) (by kernel_rfl) (by kernel_rfl) (fun _ _ _ h => h) (Or.inl ⟨by simp [Region.wanted, yielded, back4_ops, tget z31 (by decide) t48], fun w1 hw => by cases z <;> go_simp⟩) hHeld ?_
  change wpAnyH _ _ _ _ _ _ _ (a31.put (some 55) (.bool false)) _
  obtain ⟨a32, e32⟩ : ∃ act, act = a31.put (some 55) (.bool false) := ⟨_, rfl⟩
  rw [← e32] at h ⊢
  have z32 : a32.tmps.size = 81 := by rw [e32, put_size]; exact z31
  replace t5 : a32.tmps.getD 5 undef = .pointer (some ⟨bx, 0, none⟩) := by rw [e32, put_ne _ _ _ _ (by decide)]; exact t5
  replace t7 : a32.tmps.getD 7 undef = .pointer (some ⟨qf, 0, none⟩) := by rw [e32, put_ne _ _ _ _ (by decide)]; exact t7
  replace t9 : a32.tmps.getD 9 undef = .pointer (some ⟨qg, 0, none⟩) := by rw [e32, put_ne _ _ _ _ (by decide)]; exact t9
  replace t48 : a32.tmps.getD 48 undef = .bool false := by rw [e32, put_ne _ _ _ _ (by decide)]; exact t48
  clear t51
  clear t54
  have t55 : a32.tmps.getD 55 undef = .bool false := by rw [e32]; exact put_same _ _ _ (by omega)
  clear e32 z31
  refine wpAnyH_take (i := 32) (oi := { dst := some 56, op := Op.pick (Operand.tmp 48) (Operand.const (Value.bool true)) (Operand.tmp 55), type := 4, pos := "law.go:135", after := #[{ on := 24, ground := Ground.data }, { on := 31, ground := Ground.data }], guard := none }) (v := .bool false) rfl (by kernel_rfl) (by kernel_rfl) (by kernel_rfl) (fun _ _ _ h => h) (Or.inl ⟨by rfl, fun w1 hw => by go_simp⟩) hHeld ?_
  change wpAnyH _ _ _ _ _ _ _ (a32.put (some 56) (.bool false)) _
  obtain ⟨a33, e33⟩ : ∃ act, act = a32.put (some 56) (.bool false) := ⟨_, rfl⟩
  rw [← e33] at h ⊢
  have z33 : a33.tmps.size = 81 := by rw [e33, put_size]; exact z32
  replace t5 : a33.tmps.getD 5 undef = .pointer (some ⟨bx, 0, none⟩) := by rw [e33, put_ne _ _ _ _ (by decide)]; exact t5
  replace t7 : a33.tmps.getD 7 undef = .pointer (some ⟨qf, 0, none⟩) := by rw [e33, put_ne _ _ _ _ (by decide)]; exact t7
  replace t9 : a33.tmps.getD 9 undef = .pointer (some ⟨qg, 0, none⟩) := by rw [e33, put_ne _ _ _ _ (by decide)]; exact t9
  clear t48
  clear t55
  have t56 : a33.tmps.getD 56 undef = .bool false := by rw [e33]; exact put_same _ _ _ (by omega)
  clear e33 z32
  refine wpAnyH_take (i := 33) (oi := { dst := some 57, op := Op.move (Operand.tmp 56), type := 4, pos := "law.go:135", after := #[{ on := 32, ground := Ground.data }, { on := 30, ground := Ground.chain }], guard := none }) (v := .bool false) rfl (by kernel_rfl) (by kernel_rfl) (by kernel_rfl) (fun _ _ _ h => h) (Or.inl ⟨by rfl, fun w1 hw => by go_simp⟩) hHeld ?_
  change wpAnyH _ _ _ _ _ _ _ (a33.put (some 57) (.bool false)) _
  obtain ⟨a34, e34⟩ : ∃ act, act = a33.put (some 57) (.bool false) := ⟨_, rfl⟩
  rw [← e34] at h ⊢
  have z34 : a34.tmps.size = 81 := by rw [e34, put_size]; exact z33
  replace t5 : a34.tmps.getD 5 undef = .pointer (some ⟨bx, 0, none⟩) := by rw [e34, put_ne _ _ _ _ (by decide)]; exact t5
  replace t7 : a34.tmps.getD 7 undef = .pointer (some ⟨qf, 0, none⟩) := by rw [e34, put_ne _ _ _ _ (by decide)]; exact t7
  replace t9 : a34.tmps.getD 9 undef = .pointer (some ⟨qg, 0, none⟩) := by rw [e34, put_ne _ _ _ _ (by decide)]; exact t9
  clear t56
  have t57 : a34.tmps.getD 57 undef = .bool false := by rw [e34]; exact put_same _ _ _ (by omega)
  clear e34 z33
  refine wpAnyH_take (i := 34) (oi := { dst := some 58, op := Op.move (Operand.tmp 9), type := 23, pos := "law.go:135", after := #[{ on := 33, ground := Ground.guard }], guard := some (33, false) }) (v := .pointer (some ⟨qg, 0, none⟩)) rfl (by kernel_rfl) (by kernel_rfl) (by kernel_rfl) (fun _ _ _ h => h) (Or.inl ⟨by simp [Region.wanted, yielded, back4_ops, tget z34 (by decide) t57], fun w1 hw => by go_simp⟩) hHeld ?_
  change wpAnyH _ _ _ _ _ _ _ (a34.put (some 58) (.pointer (some ⟨qg, 0, none⟩))) _
  obtain ⟨a35, e35⟩ : ∃ act, act = a34.put (some 58) (.pointer (some ⟨qg, 0, none⟩)) := ⟨_, rfl⟩
  rw [← e35] at h ⊢
  have z35 : a35.tmps.size = 81 := by rw [e35, put_size]; exact z34
  replace t5 : a35.tmps.getD 5 undef = .pointer (some ⟨bx, 0, none⟩) := by rw [e35, put_ne _ _ _ _ (by decide)]; exact t5
  replace t7 : a35.tmps.getD 7 undef = .pointer (some ⟨qf, 0, none⟩) := by rw [e35, put_ne _ _ _ _ (by decide)]; exact t7
  clear t9
  replace t57 : a35.tmps.getD 57 undef = .bool false := by rw [e35, put_ne _ _ _ _ (by decide)]; exact t57
  have t58 : a35.tmps.getD 58 undef = .pointer (some ⟨qg, 0, none⟩) := by rw [e35]; exact put_same _ _ _ (by omega)
  clear e35 z34
  refine wpAnyH_take (i := 35) (oi := { dst := some 59, op := Op.load 30 (Operand.tmp 5), type := 30, pos := "law.go:135", after := #[{ on := 33, ground := Ground.guard }], guard := some (33, false) }) (v := .agg (bs hh)) rfl (by kernel_rfl) (by kernel_rfl) (by kernel_rfl) (fun _ _ _ h => h) (Or.inl ⟨by simp [Region.wanted, yielded, back4_ops, tget z35 (by decide) t57], fun w1 hw => exec_load rfl t5 (HLD _ hw)⟩) hHeld ?_
  change wpAnyH _ _ _ _ _ _ _ (a35.put (some 59) (.agg (bs hh))) _
  obtain ⟨a36, e36⟩ : ∃ act, act = a35.put (some 59) (.agg (bs hh)) := ⟨_, rfl⟩
  rw [← e36] at h ⊢
  have z36 : a36.tmps.size = 81 := by rw [e36, put_size]; exact z35
  replace t5 : a36.tmps.getD 5 undef = .pointer (some ⟨bx, 0, none⟩) := by rw [e36, put_ne _ _ _ _ (by decide)]; exact t5
  replace t7 : a36.tmps.getD 7 undef = .pointer (some ⟨qf, 0, none⟩) := by rw [e36, put_ne _ _ _ _ (by decide)]; exact t7
  replace t57 : a36.tmps.getD 57 undef = .bool false := by rw [e36, put_ne _ _ _ _ (by decide)]; exact t57
  replace t58 : a36.tmps.getD 58 undef = .pointer (some ⟨qg, 0, none⟩) := by rw [e36, put_ne _ _ _ _ (by decide)]; exact t58
  have t59 : a36.tmps.getD 59 undef = .agg (bs hh) := by rw [e36]; exact put_same _ _ _ (by omega)
  clear e36 z35
  refine wpAnyH_take (i := 37) (oi := { dst := some 61, op := Op.move (Operand.tmp 7), type := 23, pos := "law.go:135", after := #[{ on := 33, ground := Ground.guard }], guard := some (33, false) }) (v := .pointer (some ⟨qf, 0, none⟩)) rfl (by kernel_rfl) (by kernel_rfl) (by kernel_rfl) (fun _ _ _ h => h) (Or.inl ⟨by simp [Region.wanted, yielded, back4_ops, tget z36 (by decide) t57], fun w1 hw => by go_simp⟩) hHeld ?_
  change wpAnyH _ _ _ _ _ _ _ (a36.put (some 61) (.pointer (some ⟨qf, 0, none⟩))) _
  obtain ⟨a37, e37⟩ : ∃ act, act = a36.put (some 61) (.pointer (some ⟨qf, 0, none⟩)) := ⟨_, rfl⟩
  rw [← e37] at h ⊢
  have z37 : a37.tmps.size = 81 := by rw [e37, put_size]; exact z36
  replace t5 : a37.tmps.getD 5 undef = .pointer (some ⟨bx, 0, none⟩) := by rw [e37, put_ne _ _ _ _ (by decide)]; exact t5
  clear t7
  replace t57 : a37.tmps.getD 57 undef = .bool false := by rw [e37, put_ne _ _ _ _ (by decide)]; exact t57
  replace t58 : a37.tmps.getD 58 undef = .pointer (some ⟨qg, 0, none⟩) := by rw [e37, put_ne _ _ _ _ (by decide)]; exact t58
  replace t59 : a37.tmps.getD 59 undef = .agg (bs hh) := by rw [e37, put_ne _ _ _ _ (by decide)]; exact t59
  have t61 : a37.tmps.getD 61 undef = .pointer (some ⟨qf, 0, none⟩) := by rw [e37]; exact put_same _ _ _ (by omega)
  clear e37 z36
  refine wpAnyH_take (i := 38) (oi := { dst := some 62, op := Op.load 30 (Operand.tmp 5), type := 30, pos := "law.go:135", after := #[{ on := 33, ground := Ground.guard }], guard := some (33, false) }) (v := .agg (bs hh)) rfl (by kernel_rfl) (by kernel_rfl) (by kernel_rfl) (fun _ _ _ h => h) (Or.inl ⟨by simp [Region.wanted, yielded, back4_ops, tget z37 (by decide) t57], fun w1 hw => exec_load rfl t5 (HLD _ hw)⟩) hHeld ?_
  change wpAnyH _ _ _ _ _ _ _ (a37.put (some 62) (.agg (bs hh))) _
  obtain ⟨a38, e38⟩ : ∃ act, act = a37.put (some 62) (.agg (bs hh)) := ⟨_, rfl⟩
  rw [← e38] at h ⊢
  have z38 : a38.tmps.size = 81 := by rw [e38, put_size]; exact z37
  clear t5
  replace t57 : a38.tmps.getD 57 undef = .bool false := by rw [e38, put_ne _ _ _ _ (by decide)]; exact t57
  replace t58 : a38.tmps.getD 58 undef = .pointer (some ⟨qg, 0, none⟩) := by rw [e38, put_ne _ _ _ _ (by decide)]; exact t58
  replace t59 : a38.tmps.getD 59 undef = .agg (bs hh) := by rw [e38, put_ne _ _ _ _ (by decide)]; exact t59
  replace t61 : a38.tmps.getD 61 undef = .pointer (some ⟨qf, 0, none⟩) := by rw [e38, put_ne _ _ _ _ (by decide)]; exact t61
  have t62 : a38.tmps.getD 62 undef = .agg (bs hh) := by rw [e38]; exact put_same _ _ _ (by omega)
  clear e38 z37
  refine wpAnyH_ready (rs := [36]) (by kernel_rfl) (by simp) ?_
  refine AllReadyH.cons (o := { dst := some 60, op := Op.call { callee := Callee.value (Operand.func 25), args := #[Operand.tmp 58, Operand.tmp 59], argTypes := #[23, 30] }, type := 49, pos := "law.go:135", after := #[{ on := 34, ground := Ground.data }, { on := 35, ground := Ground.data }, { on := 33, ground := Ground.chain }, { on := 33, ground := Ground.guard }], guard := some (33, false) }) rfl (fun K hK => ?_) AllReadyH.nil
  rw [if_pos (by simp [Region.wanted, yielded, back4_ops, tget z38 (by decide) t57])]
  go_simp
  refine (C36 _ hHeld).mono ?_
  rintro e x39 ⟨s1, c1, rfl, y9, l9⟩
  try go_wp2_with fail
  replace h := h s1 c1
  refine hK.out _ _ (hHeld.trans (l9.mono (hN _ hHeld))) (fun hHeld => ?_)
  clear hK K
  change wpAnyH _ _ _ _ _ _ _ (a38.put (some 60) (.slice s1 nS c1)) _
  obtain ⟨a39, e39⟩ : ∃ act, act = a38.put (some 60) (.slice s1 nS c1) := ⟨_, rfl⟩
  rw [← e39] at h ⊢
  have z39 : a39.tmps.size = 81 := by rw [e39, put_size]; exact z38
  replace t57 : a39.tmps.getD 57 undef = .bool false := by rw [e39, put_ne _ _ _ _ (by decide)]; exact t57
  clear t58
  clear t59
  replace t61 : a39.tmps.getD 61 undef = .pointer (some ⟨qf, 0, none⟩) := by rw [e39, put_ne _ _ _ _ (by decide)]; exact t61
  replace t62 : a39.tmps.getD 62 undef = .agg (bs hh) := by rw [e39, put_ne _ _ _ _ (by decide)]; exact t62
  have t60 : a39.tmps.getD 60 undef = .slice s1 nS c1 := by rw [e39]; exact put_same _ _ _ (by omega)
  clear e39 z38
  refine wpAnyH_ready (rs := [39]) (by kernel_rfl) (by simp) ?_
  refine AllReadyH.cons (o := { dst := some 63, op := Op.call { callee := Callee.value (Operand.func 25), args := #[Operand.tmp 61, Operand.tmp 62], argTypes := #[23, 30] }, type := 49, pos := "law.go:135", after := #[{ on := 37, ground := Ground.data }, { on := 38, ground := Ground.data }, { on := 36, ground := Ground.chain }, { on := 33, ground := Ground.guard }], guard := some (33, false) }) rfl (fun K hK => ?_) AllReadyH.nil
  rw [if_pos (by simp [Region.wanted, yielded, back4_ops, tget z39 (by decide) t57])]
  go_simp
  refine (C39 _ hHeld).mono ?_
  rintro e x40 ⟨s2, c2, rfl, y10, l10⟩
  try go_wp2_with fail
  replace h := h s2 c2; have y9b := RowOn.below (l := lS) y9 l10
  refine hK.out _ _ (hHeld.trans (l10.mono (hN _ hHeld))) (fun hHeld => ?_)
  clear hK K
  change wpAnyH _ _ _ _ _ _ _ (a39.put (some 63) (.slice s2 nS c2)) _
  obtain ⟨a40, e40⟩ : ∃ act, act = a39.put (some 63) (.slice s2 nS c2) := ⟨_, rfl⟩
  rw [← e40] at h ⊢
  have z40 : a40.tmps.size = 81 := by rw [e40, put_size]; exact z39
  replace t57 : a40.tmps.getD 57 undef = .bool false := by rw [e40, put_ne _ _ _ _ (by decide)]; exact t57
  clear t61
  clear t62
  replace t60 : a40.tmps.getD 60 undef = .slice s1 nS c1 := by rw [e40, put_ne _ _ _ _ (by decide)]; exact t60
  have t63 : a40.tmps.getD 63 undef = .slice s2 nS c2 := by rw [e40]; exact put_same _ _ _ (by omega)
  clear e40 z39
  refine wpAnyH_ready (rs := [40]) (by kernel_rfl) (by simp) ?_
  refine AllReadyH.cons (o := { dst := some 64, op := Op.call { callee := Callee.value (Operand.func 24), args := #[Operand.tmp 60, Operand.tmp 63], argTypes := #[49, 49] }, type := 4, pos := "law.go:135", after := #[{ on := 36, ground := Ground.data }, { on := 39, ground := Ground.data }, { on := 39, ground := Ground.chain }, { on := 33, ground := Ground.guard }], guard := some (33, false) }) rfl (fun K hK => ?_) AllReadyH.nil
  rw [if_pos (by simp [Region.wanted, yielded, back4_ops, tget z40 (by decide) t57])]
  go_simp
  refine (C40 _ s1 c1 s2 c2 hHeld y9b y10).mono ?_
  rintro e x41 ⟨rfl, l11⟩
  try go_wp2_with fail
  skip
  refine hK.out _ _ (hHeld.trans (l11.mono (hN _ hHeld))) (fun hHeld => ?_)
  clear hK K
  change wpAnyH _ _ _ _ _ _ _ (a40.put (some 64) (.bool true)) _
  obtain ⟨a41, e41⟩ : ∃ act, act = a40.put (some 64) (.bool true) := ⟨_, rfl⟩
  rw [← e41] at h ⊢
  have z41 : a41.tmps.size = 81 := by rw [e41, put_size]; exact z40
  replace t57 : a41.tmps.getD 57 undef = .bool false := by rw [e41, put_ne _ _ _ _ (by decide)]; exact t57
  clear t60
  clear t63
  have t64 : a41.tmps.getD 64 undef = .bool true := by rw [e41]; exact put_same _ _ _ (by omega)
  clear e41 z40
  refine wpAnyH_take (i := 41) (oi := { dst := some 65, op := Op.unOp UnOp.not 4 (Operand.tmp 64), type := 4, pos := "law.go:135", after := #[{ on := 40, ground := Ground.data }, { on := 33, ground := Ground.guard }], guard := some (33, false) }) (v := .bool false) rfl (by kernel_rfl) (by kernel_rfl) (by kernel_rfl) (fun _ _ _ h => h) (Or.inl ⟨by simp [Region.wanted, yielded, back4_ops, tget z41 (by decide) t57], fun w1 hw => by go_simp⟩) hHeld ?_
  change wpAnyH _ _ _ _ _ _ _ (a41.put (some 65) (.bool false)) _
  obtain ⟨a42, e42⟩ : ∃ act, act = a41.put (some 65) (.bool false) := ⟨_, rfl⟩
  rw [← e42] at h ⊢
  have z42 : a42.tmps.size = 81 := by rw [e42, put_size]; exact z41
  replace t57 : a42.tmps.getD 57 undef = .bool false := by rw [e42, put_ne _ _ _ _ (by decide)]; exact t57
  clear t64
  have t65 : a42.tmps.getD 65 undef = .bool false := by rw [e42]; exact put_same _ _ _ (by omega)
  clear e42 z41
  refine wpAnyH_take (i := 42) (oi := { dst := some 66, op := Op.pick (Operand.tmp 57) (Operand.const (Value.bool true)) (Operand.tmp 65), type := 4, pos := "law.go:135", after := #[{ on := 33, ground := Ground.data }, { on := 41, ground := Ground.data }], guard := none }) (v := .bool false) rfl (by kernel_rfl) (by kernel_rfl) (by kernel_rfl) (fun _ _ _ h => h) (Or.inl ⟨by rfl, fun w1 hw => by go_simp⟩) hHeld ?_
  change wpAnyH _ _ _ _ _ _ _ (a42.put (some 66) (.bool false)) _
  obtain ⟨a43, e43⟩ : ∃ act, act = a42.put (some 66) (.bool false) := ⟨_, rfl⟩
  rw [← e43] at h ⊢
  have z43 : a43.tmps.size = 81 := by rw [e43, put_size]; exact z42
  clear t57
  clear t65
  clear e43 z42
  exact wpAnyH_done (by kernel_rfl) (NoPanic.normal (h _ _ hHeld rfl)) _
end Go.Proofs.Ytdajeabhhkgibaa
