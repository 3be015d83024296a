import Derived.Test.YtpmdlhlojifoeaaDoorHs2
import Derived.Deep.RegionHeld3
namespace Go.Proofs.YtpmdlhlojifoeaaDoor
open Go.RowKit
set_option linter.unusedVariables false
set_option linter.unusedSimpArgs false

theorem put_same (a : Act) (d : Nat) (v : Value) (h : d < a.tmps.size) : (a.put (some d) v).tmps.getD d undef = v := by
  simp [Act.put, Array.getD_eq_getD_getElem?, h]
theorem put_ne (a : Act) (d e : Nat) (v : Value) (h : d ≠ e) : (a.put (some d) v).tmps.getD e undef = a.tmps.getD e undef := by
  simp [Act.put, Array.getD_eq_getD_getElem?, Array.getElem?_setIfInBounds, h]
theorem put_size (a : Act) (d : Option Nat) (v : Value) : (a.put d v).tmps.size = a.tmps.size := by
  cases d <;> simp [Act.put]
theorem tget {t : Array Value} {d : Nat} {v : Value} (hs : t.size = 178) (hd : d < 178) (h : t.getD d undef = v) : t[d]? = some v := by
  rw [Array.getD_eq_getD_getElem?, Array.getElem?_eq_getElem (by omega)] at h
  rw [Array.getElem?_eq_getElem (by omega)]
  simpa using h
def ops32 : Array Oper := #[{ dst := some 117, op := Op.fieldAddr 42 (Operand.tmp 6) 0, type := 0, pos := "law.go:82", after := #[], guard := none }, { dst := some 118, op := Op.load 3 (Operand.tmp 117), type := 3, pos := "law.go:82", after := #[{ on := 0, ground := Ground.data }], guard := none }, { dst := some 119, op := Op.binOp BinOp.eql 3 (Operand.tmp 118) (Operand.const (Value.int IntKind.i64 2)) 3, type := 4, pos := "law.go:82", after := #[{ on := 1, ground := Ground.data }], guard := none }, { dst := some 120, op := Op.move (Operand.tmp 119), type := 4, pos := "law.go:82", after := #[{ on := 2, ground := Ground.data }], guard := none }, { dst := some 121, op := Op.move (Operand.tmp 3), type := 37, pos := "law.go:82", after := #[{ on := 3, ground := Ground.guard }], guard := some (3, true) }, { dst := some 122, op := Op.move (Operand.tmp 7), type := 3, pos := "law.go:82", after := #[{ on := 3, ground := Ground.guard }], guard := some (3, true) }, { dst := some 123, op := Op.indexAddr 37 (Operand.tmp 121) (Operand.tmp 122), type := 0, pos := "law.go:82", after := #[{ on := 4, ground := Ground.data }, { on := 5, ground := Ground.data }, { on := 3, ground := Ground.guard }], guard := some (3, true) }, { dst := some 124, op := Op.load 35 (Operand.tmp 123), type := 35, pos := "law.go:82", after := #[{ on := 6, ground := Ground.data }, { on := 3, ground := Ground.guard }], guard := some (3, true) }, { dst := some 125, op := Op.call { callee := Callee.value (Operand.func 27), args := #[Operand.tmp 124], argTypes := #[35] }, type := 24, pos := "law.go:82", after := #[{ on := 7, ground := Ground.data }, { on := 3, ground := Ground.chain }, { on := 3, ground := Ground.guard }], guard := some (3, true) }, { dst := some 126, op := Op.move (Operand.tmp 4), type := 40, pos := "law.go:82", after := #[{ on := 3, ground := Ground.guard }], guard := some (3, true) }, { dst := some 127, op := Op.move (Operand.tmp 7), type := 3, pos := "law.go:82", after := #[{ on := 3, ground := Ground.guard }], guard := some (3, true) }, { dst := some 128, op := Op.indexAddr 40 (Operand.tmp 126) (Operand.tmp 127), type := 0, pos := "law.go:82", after := #[{ on := 9, ground := Ground.data }, { on := 10, ground := Ground.data }, { on := 3, ground := Ground.guard }], guard := some (3, true) }, { dst := some 129, op := Op.load 38 (Operand.tmp 128), type := 38, pos := "law.go:82", after := #[{ on := 11, ground := Ground.data }, { on := 3, ground := Ground.guard }], guard := some (3, true) }, { dst := some 130, op := Op.call { callee := Callee.value (Operand.func 28), args := #[Operand.tmp 129], argTypes := #[38] }, type := 24, pos := "law.go:82", after := #[{ on := 12, ground := Ground.data }, { on := 8, ground := Ground.chain }, { on := 3, ground := Ground.guard }], guard := some (3, true) }, { dst := some 131, op := Op.binOp BinOp.neq 24 (Operand.tmp 125) (Operand.tmp 130) 24, type := 4, pos := "law.go:82", after := #[{ on := 8, ground := Ground.data }, { on := 13, ground := Ground.data }, { on := 3, ground := Ground.guard }], guard := some (3, true) }, { dst := some 132, op := Op.pick (Operand.tmp 120) (Operand.tmp 131) (Operand.const (Value.bool false)), type := 4, pos := "law.go:82", after := #[{ on := 3, ground := Ground.data }, { on := 14, ground := Ground.data }], guard := none }]
theorem skip32 (a : Act) (w : World) (g : Nat) (kd : Int) (Q : Exit → Act → World → Prop) (hsz : a.tmps.size = 178) (h6 : a.tmps.getD 6 undef = .pointer (some ⟨g, 0, none⟩)) (hc : w.cell? ⟨g, 0, none⟩ = some (.int .i64 kd)) (hk : ¬ kd = 2)
    (h : ∀ a' : Act, a' = ((((((((((((((((a.put (some 117) (.pointer (some ⟨g, 0, none⟩))).put (some 118) (.int .i64 kd)).put (some 119) (.bool false)).put (some 120) (.bool false)).put (some 121) undef).put (some 122) undef).put (some 123) undef).put (some 124) undef).put (some 125) undef).put (some 126) undef).put (some 127) undef).put (some 128) undef).put (some 129) undef).put (some 130) undef).put (some 131) undef).put (some 132) (.bool false)) → Q .normal a' w.drew) :
    (Code.region 32 ops32 true).wp Tryd.prog Q a w := by
  refine wp_region_noPanic ?_
  refine wp_region_held_drew (S := fun w' => w'.cell? ⟨g, 0, none⟩ = some (.int .i64 kd)) (by kernel_rfl) hc (fun hHeld => ?_)
  generalize h0 : w.drew = W at *
  clear h0
  refine wpAnyH_take (i := 0) (oi := { dst := some 117, op := Op.fieldAddr 42 (Operand.tmp 6) 0, type := 0, pos := "law.go:82", after := #[], guard := none }) (v := .pointer (some ⟨g, 0, none⟩)) rfl (by kernel_rfl) (by kernel_rfl) (by kernel_rfl) (fun _ _ _ h => h) (Or.inl ⟨by rfl, fun w hw => by go_simp⟩) hHeld ?_
  obtain ⟨a1, e1⟩ : ∃ x, x = a.put (some 117) (.pointer (some ⟨g, 0, none⟩)) := ⟨_, rfl⟩
  rw [← e1] at h ⊢
  have z1 : a1.tmps.size = 178 := by rw [e1, put_size]; exact hsz
  have t117 : a1.tmps.getD 117 undef = .pointer (some ⟨g, 0, none⟩) := by rw [e1]; exact put_same _ _ _ (by omega)
  clear e1 hsz h6
  refine wpAnyH_take (i := 1) (oi := { dst := some 118, op := Op.load 3 (Operand.tmp 117), type := 3, pos := "law.go:82", after := #[{ on := 0, ground := Ground.data }], guard := none }) (v := .int .i64 kd) rfl (by kernel_rfl) (by kernel_rfl) (by kernel_rfl) (fun _ _ _ h => h) (Or.inl ⟨by rfl, fun w hw => by go_simp⟩) hHeld ?_
  obtain ⟨a2, e2⟩ : ∃ x, x = a1.put (some 118) (.int .i64 kd) := ⟨_, rfl⟩
  rw [← e2] at h ⊢
  have z2 : a2.tmps.size = 178 := by rw [e2, put_size]; exact z1
  have t118 : a2.tmps.getD 118 undef = .int .i64 kd := by rw [e2]; exact put_same _ _ _ (by omega)
  clear e2 z1 t117
  refine wpAnyH_take (i := 2) (oi := { dst := some 119, op := Op.binOp BinOp.eql 3 (Operand.tmp 118) (Operand.const (Value.int IntKind.i64 2)) 3, type := 4, pos := "law.go:82", after := #[{ on := 1, ground := Ground.data }], guard := none }) (v := .bool false) rfl (by kernel_rfl) (by kernel_rfl) (by kernel_rfl) (fun _ _ _ h => h) (Or.inl ⟨by rfl, fun w hw => by go_simp⟩) hHeld ?_
  obtain ⟨a3, e3⟩ : ∃ x, x = a2.put (some 119) (.bool false) := ⟨_, rfl⟩
  rw [← e3] at h ⊢
  have z3 : a3.tmps.size = 178 := by rw [e3, put_size]; exact z2
  have t119 : a3.tmps.getD 119 undef = .bool false := by rw [e3]; exact put_same _ _ _ (by omega)
  clear e3 z2 t118
  refine wpAnyH_take (i := 3) (oi := { dst := some 120, op := Op.move (Operand.tmp 119), type := 4, pos := "law.go:82", after := #[{ on := 2, ground := Ground.data }], guard := none }) (v := .bool false) rfl (by kernel_rfl) (by kernel_rfl) (by kernel_rfl) (fun _ _ _ h => h) (Or.inl ⟨by rfl, fun w hw => by go_simp⟩) hHeld ?_
  obtain ⟨a4, e4⟩ : ∃ x, x = a3.put (some 120) (.bool false) := ⟨_, rfl⟩
  rw [← e4] at h ⊢
  have z4 : a4.tmps.size = 178 := by rw [e4, put_size]; exact z3
  have t120 : a4.tmps.getD 120 undef = .bool false := by rw [e4]; exact put_same _ _ _ (by omega)
  clear e4 z3 t119
  refine wpAnyH_take (i := 4) (oi := { dst := some 121, op := Op.move (Operand.tmp 3), type := 37, pos := "law.go:82", after := #[{ on := 3, ground := Ground.guard }], guard := some (3, true) }) (v := undef) rfl (by kernel_rfl) (by kernel_rfl) (by kernel_rfl) (fun _ _ _ h => h) (Or.inr ⟨by simp [Region.wanted, yielded, ops32, tget z4 (by decide) t120], rfl⟩) hHeld ?_
  obtain ⟨a5, e5⟩ : ∃ x, x = a4.put (some 121) (undef) := ⟨_, rfl⟩
  rw [← e5] at h ⊢
  have z5 : a5.tmps.size = 178 := by rw [e5, put_size]; exact z4
  replace t120 : a5.tmps.getD 120 undef = .bool false := by rw [e5, put_ne _ _ _ _ (by decide)]; exact t120
  clear e5 z4
  refine wpAnyH_take (i := 5) (oi := { dst := some 122, op := Op.move (Operand.tmp 7), type := 3, pos := "law.go:82", after := #[{ on := 3, ground := Ground.guard }], guard := some (3, true) }) (v := undef) rfl (by kernel_rfl) (by kernel_rfl) (by kernel_rfl) (fun _ _ _ h => h) (Or.inr ⟨by simp [Region.wanted, yielded, ops32, tget z5 (by decide) t120], rfl⟩) hHeld ?_
  obtain ⟨a6, e6⟩ : ∃ x, x = a5.put (some 122) (undef) := ⟨_, rfl⟩
  rw [← e6] at h ⊢
  have z6 : a6.tmps.size = 178 := by rw [e6, put_size]; exact z5
  replace t120 : a6.tmps.getD 120 undef = .bool false := by rw [e6, put_ne _ _ _ _ (by decide)]; exact t120
  clear e6 z5
  refine wpAnyH_take (i := 6) (oi := { dst := some 123, op := Op.indexAddr 37 (Operand.tmp 121) (Operand.tmp 122), type := 0, pos := "law.go:82", after := #[{ on := 4, ground := Ground.data }, { on := 5, ground := Ground.data }, { on := 3, ground := Ground.guard }], guard := some (3, true) }) (v := undef) rfl (by kernel_rfl) (by kernel_rfl) (by kernel_rfl) (fun _ _ _ h => h) (Or.inr ⟨by simp [Region.wanted, yielded, ops32, tget z6 (by decide) t120], rfl⟩) hHeld ?_
  obtain ⟨a7, e7⟩ : ∃ x, x = a6.put (some 123) (undef) := ⟨_, rfl⟩
  rw [← e7] at h ⊢
  have z7 : a7.tmps.size = 178 := by rw [e7, put_size]; exact z6
  replace t120 : a7.tmps.getD 120 undef = .bool false := by rw [e7, put_ne _ _ _ _ (by decide)]; exact t120
  clear e7 z6
  refine wpAnyH_take (i := 7) (oi := { dst := some 124, op := Op.load 35 (Operand.tmp 123), type := 35, pos := "law.go:82", after := #[{ on := 6, ground := Ground.data }, { on := 3, ground := Ground.guard }], guard := some (3, true) }) (v := undef) rfl (by kernel_rfl) (by kernel_rfl) (by kernel_rfl) (fun _ _ _ h => h) (Or.inr ⟨by simp [Region.wanted, yielded, ops32, tget z7 (by decide) t120], rfl⟩) hHeld ?_
  obtain ⟨a8, e8⟩ : ∃ x, x = a7.put (some 124) (undef) := ⟨_, rfl⟩
  rw [← e8] at h ⊢
  have z8 : a8.tmps.size = 178 := by rw [e8, put_size]; exact z7
  replace t120 : a8.tmps.getD 120 undef = .bool false := by rw [e8, put_ne _ _ _ _ (by decide)]; exact t120
  clear e8 z7
  refine wpAnyH_take (i := 8) (oi := { dst := some 125, op := Op.call { callee := Callee.value (Operand.func 27), args := #[Operand.tmp 124], argTypes := #[35] }, type := 24, pos := "law.go:82", after := #[{ on := 7, ground := Ground.data }, { on := 3, ground := Ground.chain }, { on := 3, ground := Ground.guard }], guard := some (3, true) }) (v := undef) rfl (by kernel_rfl) (by kernel_rfl) (by kernel_rfl) (fun _ _ _ h => h) (Or.inr ⟨by simp [Region.wanted, yielded, ops32, tget z8 (by decide) t120], rfl⟩) hHeld ?_
  obtain ⟨a9, e9⟩ : ∃ x, x = a8.put (some 125) (undef) := ⟨_, rfl⟩
  rw [← e9] at h ⊢
  have z9 : a9.tmps.size = 178 := by rw [e9, put_size]; exact z8
  replace t120 : a9.tmps.getD 120 undef = .bool false := by rw [e9, put_ne _ _ _ _ (by decide)]; exact t120
  clear e9 z8
  refine wpAnyH_take (i := 9) (oi := { dst := some 126, op := Op.move (Operand.tmp 4), type := 40, pos := "law.go:82", after := #[{ on := 3, ground := Ground.guard }], guard := some (3, true) }) (v := undef) rfl (by kernel_rfl) (by kernel_rfl) (by kernel_rfl) (fun _ _ _ h => h) (Or.inr ⟨by simp [Region.wanted, yielded, ops32, tget z9 (by decide) t120], rfl⟩) hHeld ?_
  obtain ⟨a10, e10⟩ : ∃ x, x = a9.put (some 126) (undef) := ⟨_, rfl⟩
  rw [← e10] at h ⊢
  have z10 : a10.tmps.size = 178 := by rw [e10, put_size]; exact z9
  replace t120 : a10.tmps.getD 120 undef = .bool false := by rw [e10, put_ne _ _ _ _ (by decide)]; exact t120
  clear e10 z9
  refine wpAnyH_take (i := 10) (oi := { dst := some 127, op := Op.move (Operand.tmp 7), type := 3, pos := "law.go:82", after := #[{ on := 3, ground := Ground.guard }], guard := some (3, true) }) (v := undef) rfl (by kernel_rfl) (by kernel_rfl) (by kernel_rfl) (fun _ _ _ h => h) (Or.inr ⟨by simp [Region.wanted, yielded, ops32, tget z10 (by decide) t120], rfl⟩) hHeld ?_
  obtain ⟨a11, e11⟩ : ∃ x, x = a10.put (some 127) (undef) := ⟨_, rfl⟩
  rw [← e11] at h ⊢
  have z11 : a11.tmps.size = 178 := by rw [e11, put_size]; exact z10
  replace t120 : a11.tmps.getD 120 undef = .bool false := by rw [e11, put_ne _ _ _ _ (by decide)]; exact t120
  clear e11 z10
  refine wpAnyH_take (i := 11) (oi := { dst := some 128, op := Op.indexAddr 40 (Operand.tmp 126) (Operand.tmp 127), type := 0, pos := "law.go:82", after := #[{ on := 9, ground := Ground.data }, { on := 10, ground := Ground.data }, { on := 3, ground := Ground.guard }], guard := some (3, true) }) (v := undef) rfl (by kernel_rfl) (by kernel_rfl) (by kernel_rfl) (fun _ _ _ h => h) (Or.inr ⟨by simp [Region.wanted, yielded, ops32, tget z11 (by decide) t120], rfl⟩) hHeld ?_
  obtain ⟨a12, e12⟩ : ∃ x, x = a11.put (some 128) (undef) := ⟨_, rfl⟩
  rw [← e12] at h ⊢
  have z12 : a12.tmps.size = 178 := by rw [e12, put_size]; exact z11
  replace t120 : a12.tmps.getD 120 undef = .bool false := by rw [e12, put_ne _ _ _ _ (by decide)]; exact t120
  clear e12 z11
  refine wpAnyH_take (i := 12) (oi := { dst := some 129, op := Op.load 38 (Operand.tmp 128), type := 38, pos := "law.go:82", after := #[{ on := 11, ground := Ground.data }, { on := 3, ground := Ground.guard }], guard := some (3, true) }) (v := undef) rfl (by kernel_rfl) (by kernel_rfl) (by kernel_rfl) (fun _ _ _ h => h) (Or.inr ⟨by simp [Region.wanted, yielded, ops32, tget z12 (by decide) t120], rfl⟩) hHeld ?_
  obtain ⟨a13, e13⟩ : ∃ x, x = a12.put (some 129) (undef) := ⟨_, rfl⟩
  rw [← e13] at h ⊢
  have z13 : a13.tmps.size = 178 := by rw [e13, put_size]; exact z12
  replace t120 : a13.tmps.getD 120 undef = .bool false := by rw [e13, put_ne _ _ _ _ (by decide)]; exact t120
  clear e13 z12
  refine wpAnyH_take (i := 13) (oi := { dst := some 130, op := Op.call { callee := Callee.value (Operand.func 28), args := #[Operand.tmp 129], argTypes := #[38] }, type := 24, pos := "law.go:82", after := #[{ on := 12, ground := Ground.data }, { on := 8, ground := Ground.chain }, { on := 3, ground := Ground.guard }], guard := some (3, true) }) (v := undef) rfl (by kernel_rfl) (by kernel_rfl) (by kernel_rfl) (fun _ _ _ h => h) (Or.inr ⟨by simp [Region.wanted, yielded, ops32, tget z13 (by decide) t120], rfl⟩) hHeld ?_
  obtain ⟨a14, e14⟩ : ∃ x, x = a13.put (some 130) (undef) := ⟨_, rfl⟩
  rw [← e14] at h ⊢
  have z14 : a14.tmps.size = 178 := by rw [e14, put_size]; exact z13
  replace t120 : a14.tmps.getD 120 undef = .bool false := by rw [e14, put_ne _ _ _ _ (by decide)]; exact t120
  clear e14 z13
  refine wpAnyH_take (i := 14) (oi := { dst := some 131, op := Op.binOp BinOp.neq 24 (Operand.tmp 125) (Operand.tmp 130) 24, type := 4, pos := "law.go:82", after := #[{ on := 8, ground := Ground.data }, { on := 13, ground := Ground.data }, { on := 3, ground := Ground.guard }], guard := some (3, true) }) (v := undef) rfl (by kernel_rfl) (by kernel_rfl) (by kernel_rfl) (fun _ _ _ h => h) (Or.inr ⟨by simp [Region.wanted, yielded, ops32, tget z14 (by decide) t120], rfl⟩) hHeld ?_
  obtain ⟨a15, e15⟩ : ∃ x, x = a14.put (some 131) (undef) := ⟨_, rfl⟩
  rw [← e15] at h ⊢
  have z15 : a15.tmps.size = 178 := by rw [e15, put_size]; exact z14
  replace t120 : a15.tmps.getD 120 undef = .bool false := by rw [e15, put_ne _ _ _ _ (by decide)]; exact t120
  clear e15 z14
  refine wpAnyH_take (i := 15) (oi := { dst := some 132, op := Op.pick (Operand.tmp 120) (Operand.tmp 131) (Operand.const (Value.bool false)), type := 4, pos := "law.go:82", after := #[{ on := 3, ground := Ground.data }, { on := 14, ground := Ground.data }], guard := none }) (v := .bool false) rfl (by kernel_rfl) (by kernel_rfl) (by kernel_rfl) (fun _ _ _ h => h) (Or.inl ⟨by rfl, fun w hw => by go_simp⟩) hHeld ?_
  obtain ⟨a16, e16⟩ : ∃ x, x = a15.put (some 132) (.bool false) := ⟨_, rfl⟩
  rw [← e16] at h ⊢
  have z16 : a16.tmps.size = 178 := by rw [e16, put_size]; exact z15
  exact wpAnyH_done (by kernel_rfl) (NoPanic.normal (h _ rfl)) _
end Go.Proofs.YtpmdlhlojifoeaaDoor
