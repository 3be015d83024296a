import Derived.Test.YthfbolmfkilkjaaGg
namespace Go.Proofs.Ythfbolmfkilkjaa
open Go.RowKit
set_option linter.unusedVariables false
set_option linter.unusedSimpArgs false

/-- An update. -/
structure UpV where
  pa : Option Addr
  pc : Nat
  P : List (List UInt8)
  au : Int
  sq : Int
  tm : Int
  nt : ByteArray
  ea : Option Addr
  ec : Nat
  E : List EdV
def UpV.c (u : UpV) : Array Value := #[.slice u.pa u.P.length u.pc, .int .i64 u.au, .int .i64 u.sq, .int .i64 u.tm, .string u.nt, .slice u.ea u.E.length u.ec]
/-- It lies in memory. -/
structure UpV.ok (w : World) (u : UpV) : Prop where
  p32 : All32 u.P
  pn : u.P.length ≤ 4398046511104
  pl : Hl w u.pa u.P
  eo : AllE u.E
  en : u.E.length ≤ 606627104962
  el : El w u.ea u.E
theorem UpV.ok.below {w w' : World} {u : UpV} (h : u.ok w) (hb : Below w.heap.size w w') : u.ok w' := ⟨h.p32, h.pn, h.pl.below h.p32 hb, h.eo, h.en, h.el.below h.eo hb⟩
def sameU (u v : UpV) : Bool := decide (u.P = v.P) && ((u.au == v.au) && ((u.sq == v.sq) && ((u.tm == v.tm) && ((u.nt.toList == v.nt.toList) && decide (u.E = v.E)))))
theorem cells6 {w : World} {g : Nat} {t : TypeId} {a b c d e f : Value} (h : w.heap[g]? = some (.cells #[a, b, c, d, e, f] t (0, 0))) : w.cell? ⟨g, 0, none⟩ = some a ∧ w.cell? ⟨g, 1, none⟩ = some b ∧ w.cell? ⟨g, 2, none⟩ = some c ∧ w.cell? ⟨g, 3, none⟩ = some d ∧ w.cell? ⟨g, 4, none⟩ = some e ∧ w.cell? ⟨g, 5, none⟩ = some f :=
  ⟨cell_of_row w g 0 _ _ _ h, cell_of_row w g 1 _ _ _ h, cell_of_row w g 2 _ _ _ h, cell_of_row w g 3 _ _ _ h, cell_of_row w g 4 _ _ _ h, cell_of_row w g 5 _ _ _ h⟩

def ops7 : Array Oper := #[{ dst := some 20, op := Op.fieldAddr 25 (Operand.tmp 2) 0, type := 0, pos := "ref.go:161", after := #[], guard := none }, { dst := some 21, op := Op.load 22 (Operand.tmp 20), type := 22, pos := "ref.go:161", after := #[{ on := 0, ground := Ground.data }], guard := none }, { dst := some 22, op := Op.move (Operand.tmp 5), type := 3, pos := "ref.go:161", after := #[], guard := none }, { dst := some 23, op := Op.indexAddr 22 (Operand.tmp 21) (Operand.tmp 22), type := 0, pos := "ref.go:161", after := #[{ on := 1, ground := Ground.data }, { on := 2, ground := Ground.data }], guard := none }, { dst := some 24, op := Op.load 29 (Operand.tmp 23), type := 29, pos := "ref.go:161", after := #[{ on := 3, ground := Ground.data }], guard := none }, { dst := some 25, op := Op.fieldAddr 25 (Operand.tmp 3) 0, type := 0, pos := "ref.go:161", after := #[], guard := none }, { dst := some 26, op := Op.load 22 (Operand.tmp 25), type := 22, pos := "ref.go:161", after := #[{ on := 5, ground := Ground.data }], guard := none }, { dst := some 27, op := Op.move (Operand.tmp 5), type := 3, pos := "ref.go:161", after := #[], guard := none }, { dst := some 28, op := Op.indexAddr 22 (Operand.tmp 26) (Operand.tmp 27), type := 0, pos := "ref.go:161", after := #[{ on := 6, ground := Ground.data }, { on := 7, ground := Ground.data }], guard := none }, { dst := some 29, op := Op.load 29 (Operand.tmp 28), type := 29, pos := "ref.go:161", after := #[{ on := 8, ground := Ground.data }], guard := none }, { dst := some 30, op := Op.binOp BinOp.neq 29 (Operand.tmp 24) (Operand.tmp 29) 29, type := 4, pos := "ref.go:161", after := #[{ on := 4, ground := Ground.data }, { on := 9, ground := Ground.data }], guard := none }]
theorem hashes7 (s b off c1 b2 off2 c2 n k : Nat) (x y : List UInt8) (r : Bool) (a : Act) (w : World) (Q : Exit → Act → World → Prop) (hsz : a.tmps.size = 64)
    (h2 : a.tmps.getD 2 undef = .pointer (some ⟨s, 0, none⟩))
    (h3 : a.tmps.getD 3 undef = .pointer (some ⟨s + 1, 0, none⟩))
    (h5 : a.tmps.getD 5 undef = .int .i64 (k : Int))
    (hk0 : (0 : Int) ≤ (k : Int)) (hk1 : (k : Int) < (n : Int))
    (CS : ∀ wx, Below w.heap.size w wx → wx.cell? ⟨s, 0, none⟩ = some (.slice (some ⟨b, off, none⟩) n c1) ∧ wx.cell? ⟨s + 1, 0, none⟩ = some (.slice (some ⟨b2, off2, none⟩) n c2))
    (ix1 : ∀ wx, (Instr.indexAt 22 (.slice (some ⟨b, off, none⟩) n c1) (.int .i64 (k : Int))).run Try.prog wx = .ok (.pointer (some ⟨b, off + 32 * k, none⟩)) wx) (ix2 : ∀ wx, (Instr.indexAt 22 (.slice (some ⟨b2, off2, none⟩) n c2) (.int .i64 (k : Int))).run Try.prog wx = .ok (.pointer (some ⟨b2, off2 + 32 * k, none⟩)) wx)
    (L1 : ∀ wx, Below w.heap.size w wx → (Instr.loadAt 29 (.pointer (some ⟨b, off + 32 * k, none⟩))).run Try.prog wx = .ok (.agg (bs x)) wx) (L2 : ∀ wx, Below w.heap.size w wx → (Instr.loadAt 29 (.pointer (some ⟨b2, off2 + 32 * k, none⟩))).run Try.prog wx = .ok (.agg (bs y)) wx)
    (HQ : ∀ wx, (Op.equalIn 10000 29 (.agg (bs x)) (.agg (bs y))).run Try.prog wx = .ok r wx)
    (h : ∀ (a' : Act) (w' : World), Below w.heap.size w w' → a' = (((((((((((a).put (some 20) (.pointer (some ⟨s, 0, none⟩))).put (some 21) (.slice (some ⟨b, off, none⟩) n c1)).put (some 22) (.int .i64 (k : Int))).put (some 23) (.pointer (some ⟨b, off + 32 * k, none⟩))).put (some 24) (.agg (bs x))).put (some 25) (.pointer (some ⟨s + 1, 0, none⟩))).put (some 26) (.slice (some ⟨b2, off2, none⟩) n c2)).put (some 27) (.int .i64 (k : Int))).put (some 28) (.pointer (some ⟨b2, off2 + 32 * k, none⟩))).put (some 29) (.agg (bs y))).put (some 30) (.bool (!r)) → Q .normal a' w') :
    (Code.region 6 ops7 true).wp Try.prog Q a w := by
  refine wp_region_noPanic ?_
  refine wp_region_held_drew (S := fun w' => Below w.heap.size w w') (by kernel_rfl) ((Below.refl _ _).drew) (fun hHeld => ?_)
  refine wpAnyH_take (i := 0) (oi := { dst := some 20, op := Op.fieldAddr 25 (Operand.tmp 2) 0, type := 0, pos := "ref.go:161", after := #[], guard := none }) (v := .pointer (some ⟨s, 0, none⟩)) rfl (by kernel_rfl) (by kernel_rfl) (by kernel_rfl) (fun _ _ _ h => h) (Or.inl ⟨by rfl, fun w1 hw => by go_simp⟩) hHeld ?_
  obtain ⟨a1, e1⟩ : ∃ act, act = a.put (some 20) (.pointer (some ⟨s, 0, none⟩)) := ⟨_, rfl⟩
  rw [← e1] at h ⊢
  have z1 : a1.tmps.size = 64 := by rw [e1, put_size]; exact hsz
  clear h2
  replace h3 : a1.tmps.getD 3 undef = .pointer (some ⟨s + 1, 0, none⟩) := by rw [e1, put_ne _ _ _ _ (by decide)]; exact h3
  replace h5 : a1.tmps.getD 5 undef = .int .i64 (k : Int) := by rw [e1, put_ne _ _ _ _ (by decide)]; exact h5
  have t20 : a1.tmps.getD 20 undef = .pointer (some ⟨s, 0, none⟩) := by rw [e1]; exact put_same _ _ _ (by omega)
  clear e1 hsz
  refine wpAnyH_take (i := 1) (oi := { dst := some 21, op := Op.load 22 (Operand.tmp 20), type := 22, pos := "ref.go:161", after := #[{ on := 0, ground := Ground.data }], guard := none }) (v := .slice (some ⟨b, off, none⟩) n c1) rfl (by kernel_rfl) (by kernel_rfl) (by kernel_rfl) (fun _ _ _ h => h) (Or.inl ⟨by rfl, fun w1 hw => by obtain ⟨c1, c2⟩ := CS _ hw; go_simp⟩) hHeld ?_
  obtain ⟨a2, e2⟩ : ∃ act, act = a1.put (some 21) (.slice (some ⟨b, off, none⟩) n c1) := ⟨_, rfl⟩
  rw [← e2] at h ⊢
  have z2 : a2.tmps.size = 64 := by rw [e2, put_size]; exact z1
  replace h3 : a2.tmps.getD 3 undef = .pointer (some ⟨s + 1, 0, none⟩) := by rw [e2, put_ne _ _ _ _ (by decide)]; exact h3
  replace h5 : a2.tmps.getD 5 undef = .int .i64 (k : Int) := by rw [e2, put_ne _ _ _ _ (by decide)]; exact h5
  clear t20
  have t21 : a2.tmps.getD 21 undef = .slice (some ⟨b, off, none⟩) n c1 := by rw [e2]; exact put_same _ _ _ (by omega)
  clear e2 z1
  refine wpAnyH_take (i := 2) (oi := { dst := some 22, op := Op.move (Operand.tmp 5), type := 3, pos := "ref.go:161", after := #[], guard := none }) (v := .int .i64 (k : Int)) rfl (by kernel_rfl) (by kernel_rfl) (by kernel_rfl) (fun _ _ _ h => h) (Or.inl ⟨by rfl, fun w1 hw => by go_simp⟩) hHeld ?_
  obtain ⟨a3, e3⟩ : ∃ act, act = a2.put (some 22) (.int .i64 (k : Int)) := ⟨_, rfl⟩
  rw [← e3] at h ⊢
  have z3 : a3.tmps.size = 64 := by rw [e3, put_size]; exact z2
  replace h3 : a3.tmps.getD 3 undef = .pointer (some ⟨s + 1, 0, none⟩) := by rw [e3, put_ne _ _ _ _ (by decide)]; exact h3
  replace h5 : a3.tmps.getD 5 undef = .int .i64 (k : Int) := by rw [e3, put_ne _ _ _ _ (by decide)]; exact h5
  replace t21 : a3.tmps.getD 21 undef = .slice (some ⟨b, off, none⟩) n c1 := by rw [e3, put_ne _ _ _ _ (by decide)]; exact t21
  have t22 : a3.tmps.getD 22 undef = .int .i64 (k : Int) := by rw [e3]; exact put_same _ _ _ (by omega)
  clear e3 z2
  refine wpAnyH_take (i := 3) (oi := { dst := some 23, op := Op.indexAddr 22 (Operand.tmp 21) (Operand.tmp 22), type := 0, pos := "ref.go:161", after := #[{ on := 1, ground := Ground.data }, { on := 2, ground := Ground.data }], guard := none }) (v := .pointer (some ⟨b, off + 32 * k, none⟩)) rfl (by kernel_rfl) (by kernel_rfl) (by kernel_rfl) (fun _ _ _ h => h) (Or.inl ⟨by rfl, fun w1 hw => by go_simp⟩) hHeld ?_
  obtain ⟨a4, e4⟩ : ∃ act, act = a3.put (some 23) (.pointer (some ⟨b, off + 32 * k, none⟩)) := ⟨_, rfl⟩
  rw [← e4] at h ⊢
  have z4 : a4.tmps.size = 64 := by rw [e4, put_size]; exact z3
  replace h3 : a4.tmps.getD 3 undef = .pointer (some ⟨s + 1, 0, none⟩) := by rw [e4, put_ne _ _ _ _ (by decide)]; exact h3
  replace h5 : a4.tmps.getD 5 undef = .int .i64 (k : Int) := by rw [e4, put_ne _ _ _ _ (by decide)]; exact h5
  clear t21
  clear t22
  have t23 : a4.tmps.getD 23 undef = .pointer (some ⟨b, off + 32 * k, none⟩) := by rw [e4]; exact put_same _ _ _ (by omega)
  clear e4 z3
  refine wpAnyH_take (i := 4) (oi := { dst := some 24, op := Op.load 29 (Operand.tmp 23), type := 29, pos := "ref.go:161", after := #[{ on := 3, ground := Ground.data }], guard := none }) (v := .agg (bs x)) rfl (by kernel_rfl) (by kernel_rfl) (by kernel_rfl) (fun _ _ _ h => h) (Or.inl ⟨by rfl, fun w1 hw => by exact exec_load rfl (by first | exact t23 | rfl) (L1 _ hw)⟩) hHeld ?_
  obtain ⟨a5, e5⟩ : ∃ act, act = a4.put (some 24) (.agg (bs x)) := ⟨_, rfl⟩
  rw [← e5] at h ⊢
  have z5 : a5.tmps.size = 64 := by rw [e5, put_size]; exact z4
  replace h3 : a5.tmps.getD 3 undef = .pointer (some ⟨s + 1, 0, none⟩) := by rw [e5, put_ne _ _ _ _ (by decide)]; exact h3
  replace h5 : a5.tmps.getD 5 undef = .int .i64 (k : Int) := by rw [e5, put_ne _ _ _ _ (by decide)]; exact h5
  clear t23
  have t24 : a5.tmps.getD 24 undef = .agg (bs x) := by rw [e5]; exact put_same _ _ _ (by omega)
  clear e5 z4
  refine wpAnyH_take (i := 5) (oi := { dst := some 25, op := Op.fieldAddr 25 (Operand.tmp 3) 0, type := 0, pos := "ref.go:161", after := #[], guard := none }) (v := .pointer (some ⟨s + 1, 0, none⟩)) rfl (by kernel_rfl) (by kernel_rfl) (by kernel_rfl) (fun _ _ _ h => h) (Or.inl ⟨by rfl, fun w1 hw => by go_simp⟩) hHeld ?_
  obtain ⟨a6, e6⟩ : ∃ act, act = a5.put (some 25) (.pointer (some ⟨s + 1, 0, none⟩)) := ⟨_, rfl⟩
  rw [← e6] at h ⊢
  have z6 : a6.tmps.size = 64 := by rw [e6, put_size]; exact z5
  clear h3
  replace h5 : a6.tmps.getD 5 undef = .int .i64 (k : Int) := by rw [e6, put_ne _ _ _ _ (by decide)]; exact h5
  replace t24 : a6.tmps.getD 24 undef = .agg (bs x) := by rw [e6, put_ne _ _ _ _ (by decide)]; exact t24
  have t25 : a6.tmps.getD 25 undef = .pointer (some ⟨s + 1, 0, none⟩) := by rw [e6]; exact put_same _ _ _ (by omega)
  clear e6 z5
  refine wpAnyH_take (i := 6) (oi := { dst := some 26, op := Op.load 22 (Operand.tmp 25), type := 22, pos := "ref.go:161", after := #[{ on := 5, ground := Ground.data }], guard := none }) (v := .slice (some ⟨b2, off2, none⟩) n c2) rfl (by kernel_rfl) (by kernel_rfl) (by kernel_rfl) (fun _ _ _ h => h) (Or.inl ⟨by rfl, fun w1 hw => by obtain ⟨c1, c2⟩ := CS _ hw; go_simp⟩) hHeld ?_
  obtain ⟨a7, e7⟩ : ∃ act, act = a6.put (some 26) (.slice (some ⟨b2, off2, none⟩) n c2) := ⟨_, rfl⟩
  rw [← e7] at h ⊢
  have z7 : a7.tmps.size = 64 := by rw [e7, put_size]; exact z6
  replace h5 : a7.tmps.getD 5 undef = .int .i64 (k : Int) := by rw [e7, put_ne _ _ _ _ (by decide)]; exact h5
  replace t24 : a7.tmps.getD 24 undef = .agg (bs x) := by rw [e7, put_ne _ _ _ _ (by decide)]; exact t24
  clear t25
  have t26 : a7.tmps.getD 26 undef = .slice (some ⟨b2, off2, none⟩) n c2 := by rw [e7]; exact put_same _ _ _ (by omega)
  clear e7 z6
  refine wpAnyH_take (i := 7) (oi := { dst := some 27, op := Op.move (Operand.tmp 5), type := 3, pos := "ref.go:161", after := #[], guard := none }) (v := .int .i64 (k : Int)) rfl (by kernel_rfl) (by kernel_rfl) (by kernel_rfl) (fun _ _ _ h => h) (Or.inl ⟨by rfl, fun w1 hw => by go_simp⟩) hHeld ?_
  obtain ⟨a8, e8⟩ : ∃ act, act = a7.put (some 27) (.int .i64 (k : Int)) := ⟨_, rfl⟩
  rw [← e8] at h ⊢
  have z8 : a8.tmps.size = 64 := by rw [e8, put_size]; exact z7
  clear h5
  replace t24 : a8.tmps.getD 24 undef = .agg (bs x) := by rw [e8, put_ne _ _ _ _ (by decide)]; exact t24
  replace t26 : a8.tmps.getD 26 undef = .slice (some ⟨b2, off2, none⟩) n c2 := by rw [e8, put_ne _ _ _ _ (by decide)]; exact t26
  have t27 : a8.tmps.getD 27 undef = .int .i64 (k : Int) := by rw [e8]; exact put_same _ _ _ (by omega)
  clear e8 z7
  refine wpAnyH_take (i := 8) (oi := { dst := some 28, op := Op.indexAddr 22 (Operand.tmp 26) (Operand.tmp 27), type := 0, pos := "ref.go:161", after := #[{ on := 6, ground := Ground.data }, { on := 7, ground := Ground.data }], guard := none }) (v := .pointer (some ⟨b2, off2 + 32 * k, none⟩)) rfl (by kernel_rfl) (by kernel_rfl) (by kernel_rfl) (fun _ _ _ h => h) (Or.inl ⟨by rfl, fun w1 hw => by go_simp⟩) hHeld ?_
  obtain ⟨a9, e9⟩ : ∃ act, act = a8.put (some 28) (.pointer (some ⟨b2, off2 + 32 * k, none⟩)) := ⟨_, rfl⟩
  rw [← e9] at h ⊢
  have z9 : a9.tmps.size = 64 := by rw [e9, put_size]; exact z8
  replace t24 : a9.tmps.getD 24 undef = .agg (bs x) := by rw [e9, put_ne _ _ _ _ (by decide)]; exact t24
  clear t26
  clear t27
  have t28 : a9.tmps.getD 28 undef = .pointer (some ⟨b2, off2 + 32 * k, none⟩) := by rw [e9]; exact put_same _ _ _ (by omega)
  clear e9 z8
  refine wpAnyH_take (i := 9) (oi := { dst := some 29, op := Op.load 29 (Operand.tmp 28), type := 29, pos := "ref.go:161", after := #[{ on := 8, ground := Ground.data }], guard := none }) (v := .agg (bs y)) rfl (by kernel_rfl) (by kernel_rfl) (by kernel_rfl) (fun _ _ _ h => h) (Or.inl ⟨by rfl, fun w1 hw => by exact exec_load rfl (by first | exact t28 | rfl) (L2 _ hw)⟩) hHeld ?_
  obtain ⟨a10, e10⟩ : ∃ act, act = a9.put (some 29) (.agg (bs y)) := ⟨_, rfl⟩
  rw [← e10] at h ⊢
  have z10 : a10.tmps.size = 64 := by rw [e10, put_size]; exact z9
  replace t24 : a10.tmps.getD 24 undef = .agg (bs x) := by rw [e10, put_ne _ _ _ _ (by decide)]; exact t24
  clear t28
  have t29 : a10.tmps.getD 29 undef = .agg (bs y) := by rw [e10]; exact put_same _ _ _ (by omega)
  clear e10 z9
  refine wpAnyH_take (i := 10) (oi := { dst := some 30, op := Op.binOp BinOp.neq 29 (Operand.tmp 24) (Operand.tmp 29) 29, type := 4, pos := "ref.go:161", after := #[{ on := 4, ground := Ground.data }, { on := 9, ground := Ground.data }], guard := none }) (v := .bool (!r)) rfl (by kernel_rfl) (by kernel_rfl) (by kernel_rfl) (fun _ _ _ h => h) (Or.inl ⟨by rfl, fun w1 hw => by go_simp⟩) hHeld ?_
  obtain ⟨a11, e11⟩ : ∃ act, act = a10.put (some 30) (.bool (!r)) := ⟨_, rfl⟩
  rw [← e11] at h ⊢
  have z11 : a11.tmps.size = 64 := by rw [e11, put_size]; exact z10
  clear t24
  clear t29
  clear e11 z10
  exact wpAnyH_done (by kernel_rfl) (NoPanic.normal (h _ _ (hHeld) rfl)) _

set_option maxRecDepth 100000 in
set_option maxHeartbeats 2000000 in
theorem usame_any (u v : UpV) (w : World) (hu : u.ok w) (hv : v.ok w) : Calls Try.prog 6 #[.agg u.c, .agg v.c] w fun e w' => e = .returned (.bool (sameU u v)) ∧ Below w.heap.size w w' := by
  have bx := bel_box2 w u.c v.c 25 25
  have g1 : ((w.alloc (.cells u.c 25)).alloc (.cells v.c 25)).heap[w.heap.size]? = some (.cells u.c 25 (0, 0)) := heap_alloc2_old _ _ _
  have g2 : ((w.alloc (.cells u.c 25)).alloc (.cells v.c 25)).heap[w.heap.size + 1]? = some (.cells v.c 25 (0, 0)) := heap_alloc2_new _ _ _
  have hz : ((w.alloc (.cells u.c 25)).alloc (.cells v.c 25)).heap.size = w.heap.size + 2 := by simp
  obtain ⟨pa, pc, P, au, sq, tm, nt, ea, ec, E⟩ := u
  obtain ⟨pa', pc', P', au', sq', tm', nt', ea', ec', E'⟩ := v
  simp only [UpV.c] at *
  have hu2 := hu.below bx
  have hv2 := hv.below bx
  clear hu hv
  go_enter Try.func6, Try.ntmps6
  go_upto_region 1 with fail
  generalize ((w.alloc (.cells #[.slice pa P.length pc, .int .i64 au, .int .i64 sq, .int .i64 tm, .string nt, .slice ea E.length ec] 25)).alloc (.cells #[.slice pa' P'.length pc', .int .i64 au', .int .i64 sq', .int .i64 tm', .string nt', .slice ea' E'.length ec'] 25)) = W2 at *
  obtain ⟨a0, a1, a2, a3, a4, a5⟩ := cells6 g1
  obtain ⟨d0, d1, d2, d3, d4, d5⟩ := cells6 g2
  go_wp2_with fail
  refine (equalH_any pa pa' P P' pc pc' W2 hu2.p32 hv2.p32 (by have := hu2.pn; simp only at this; omega) hu2.pl hv2.pl).mono ?_
  rintro e w3 ⟨rfl, b3'⟩
  have g13 := (b3'.block _ (by omega : w.heap.size < W2.heap.size)).trans g1
  have g23 := (b3'.block _ (by omega : w.heap.size + 1 < W2.heap.size)).trans g2
  have hu3 := hu2.below b3'
  have hv3 := hv2.below b3'
  have BW : Hid (Below w.heap.size w w3) := bx.trans (b3'.mono (by omega))
  clear g1 g2 a0 a1 a2 a3 a4 a5 d0 d1 d2 d3 d4 d5 hu2 hv2 b3' bx hz
  obtain ⟨a0, a1, a2, a3, a4, a5⟩ := cells6 g13
  obtain ⟨d0, d1, d2, d3, d4, d5⟩ := cells6 g23
  clear g13 g23
  cases b1 : decide (P = P') with
  | false =>
    go_wp2
    go_ret
    exact ⟨by simp [sameU, *], BW.out⟩
  | true =>
    cases b2 : (au == au') with
    | false =>
      go_wp2
      go_ret
      exact ⟨by simp [sameU, *], BW.out⟩
    | true =>
      cases b3 : (sq == sq') with
      | false =>
        go_wp2
        go_ret
        exact ⟨by simp [sameU, *], BW.out⟩
      | true =>
        cases b4 : (tm == tm') with
        | false =>
          go_wp2
          go_ret
          exact ⟨by simp [sameU, *], BW.out⟩
        | true =>
          cases b5 : (nt.toList == nt'.toList) with
          | false =>
            go_wp2
            go_ret
            exact ⟨by simp [sameU, *], BW.out⟩
          | true =>
            go_wp2_with fail
            refine (equalF_any ea ea' E E' ec ec' w3 hu3.eo hv3.eo hu3.en hu3.el hv3.el).mono ?_
            rintro e w9 ⟨rfl, b9⟩
            have BG : Hid (Below w.heap.size w w9) := BW.out.trans (b9.mono BW.out.size)
            clear b9 BW
            go_wp2
            go_ret
            exact ⟨by simp [sameU, *], BG.out⟩

set_option maxRecDepth 100000 in
set_option maxHeartbeats 2000000 in
theorem rusame_any (u v : UpV) (w : World) (hu : u.ok w) (hv : v.ok w) : Calls Try.prog 7 #[.agg u.c, .agg v.c] w fun e w' => e = .returned (.bool (sameU u v)) ∧ Below w.heap.size w w' := by
  have bx := bel_box2 w u.c v.c 25 25
  have g1 : ((w.alloc (.cells u.c 25)).alloc (.cells v.c 25)).heap[w.heap.size]? = some (.cells u.c 25 (0, 0)) := heap_alloc2_old _ _ _
  have g2 : ((w.alloc (.cells u.c 25)).alloc (.cells v.c 25)).heap[w.heap.size + 1]? = some (.cells v.c 25 (0, 0)) := heap_alloc2_new _ _ _
  have hz : ((w.alloc (.cells u.c 25)).alloc (.cells v.c 25)).heap.size = w.heap.size + 2 := by simp
  obtain ⟨pa, pc, P, au, sq, tm, nt, ea, ec, E⟩ := u
  obtain ⟨pa', pc', P', au', sq', tm', nt', ea', ec', E'⟩ := v
  simp only [UpV.c] at *
  have hu2 := hu.below bx
  have hv2 := hv.below bx
  clear hu hv
  by_cases hlen : P.length = P'.length
  · obtain ⟨n, hn⟩ : ∃ n, n = P.length := ⟨_, rfl⟩
    have hn2 : P'.length = n := by omega
    have HN : Hid (n = P.length) := hn
    have HN2 : Hid (P'.length = n) := hn2
    have hnb : n ≤ 4398046511104 := by rw [hn]; exact hu2.pn
    rw [← hn, hn2] at g1 g2 bx hz ⊢
    rw [← hn, hn2] at hu2 hv2
    clear hn hn2 hlen
    go_enter Try.func7, Try.ntmps7
    go_upto_region 1 with fail
    generalize ((w.alloc (.cells #[.slice pa n pc, .int .i64 au, .int .i64 sq, .int .i64 tm, .string nt, .slice ea E.length ec] 25)).alloc (.cells #[.slice pa' n pc', .int .i64 au', .int .i64 sq', .int .i64 tm', .string nt', .slice ea' E'.length ec'] 25)) = W2 at *
    obtain ⟨a0, a1, a2, a3, a4, a5⟩ := cells6 g1
    obtain ⟨d0, d1, d2, d3, d4, d5⟩ := cells6 g2
    have BX : Hid (Below w.heap.size w W2) := bx
    have G1 : Hid (W2.heap[w.heap.size]? = some (.cells #[.slice pa n pc, .int .i64 au, .int .i64 sq, .int .i64 tm, .string nt, .slice ea E.length ec] 25 (0, 0))) := g1
    have G2 : Hid (W2.heap[w.heap.size + 1]? = some (.cells #[.slice pa' n pc', .int .i64 au', .int .i64 sq', .int .i64 tm', .string nt', .slice ea' E'.length ec'] 25 (0, 0))) := g2
    have HZ : Hid (W2.heap.size = w.heap.size + 2) := hz
    clear g1 g2 bx hz
    go_wp2
    clear a0 a1 a2 a3 a4 a5 d0 d1 d2 d3 d4 d5
    go_loopw [5] (fun i wr => ∃ k : Nat, k ≤ n ∧ i = .int .i64 k ∧ Hid (∀ j, j < k → P[j]? = P'[j]?) ∧ Hid (Below W2.heap.size W2 wr)) (fun i _ => n - (intOf i).toNat)
    case atStart => exact ⟨0, by omega, rfl, (fun j hj => by omega : ∀ j, j < 0 → P[j]? = P'[j]?), (Below.refl _ _ : Below W2.heap.size W2 W2)⟩
    case round =>
      obtain ⟨k, hk, rfl, hs, hw⟩ := hrel
      have hz2 := HZ.out
      have g13 := (hw.out.block _ (by omega : w.heap.size < W2.heap.size)).trans G1.out
      have g23 := (hw.out.block _ (by omega : w.heap.size + 1 < W2.heap.size)).trans G2.out
      have lw : W2.heap.size ≤ wr.heap.size := hw.out.size
      obtain ⟨a0, a1, a2, a3, a4, a5⟩ := cells6 g13
      obtain ⟨d0, d1, d2, d3, d4, d5⟩ := cells6 g23
      by_cases hkn : k < n
      · have hkL : k < P.length := by rw [← HN.out]; exact hkn
        have hkM : k < P'.length := by rw [HN2.out]; exact hkn
        obtain ⟨b, off, hpa, hsA⟩ := Hl.at (show Hl W2 pa P from hu2.pl) hkL
        obtain ⟨b2, off2, hpa', hsB⟩ := Hl.at (show Hl W2 pa' P' from hv2.pl) hkM
        obtain ⟨x, hx⟩ : ∃ x, P[k]? = some x := ⟨_, List.getElem?_eq_getElem hkL⟩
        obtain ⟨y, hy⟩ : ∃ y, P'[k]? = some y := ⟨_, List.getElem?_eq_getElem hkM⟩
        have hL : All32 P := hu2.p32
        have hM : All32 P' := hv2.p32
        have hxo := hL.get hx
        have hyo := hM.get hy
        have lb : b < W2.heap.size := hsA.lt hL (by omega)
        have lb2 : b2 < W2.heap.size := hsB.lt hM (by omega)
        have ix1 := fun wx => indexH b off n pc k wx hkn
        have ix2 := fun wx => indexH b2 off2 n pc' k wx hkn
        have hkn' : (k : Int) < (n : Int) := by omega
        have hk0 : (0 : Int) ≤ (k : Int) := by omega
        have L1 : ∀ wx, Below wr.heap.size wr wx → (Instr.loadAt 29 (.pointer (some ⟨b, off + 32 * k, none⟩))).run Try.prog wx = .ok (.agg (bs x)) wx := fun wx hx' => loadH wx b (off + 32 * k) x hxo (rangeAt_below (rangeAt_below (hsA k x hx) hw.out lb) hx' (Nat.lt_of_lt_of_le lb hw.out.size))
        have L2 : ∀ wx, Below wr.heap.size wr wx → (Instr.loadAt 29 (.pointer (some ⟨b2, off2 + 32 * k, none⟩))).run Try.prog wx = .ok (.agg (bs y)) wx := fun wx hx' => loadH wx b2 (off2 + 32 * k) y hyo (rangeAt_below (rangeAt_below (hsB k y hy) hw.out lb2) hx' (Nat.lt_of_lt_of_le lb2 hw.out.size))
        have HQ : ∀ wx, (Op.equalIn 10000 29 (.agg (bs x)) (.agg (bs y))).run Try.prog wx = .ok (decide (x = y)) wx := fun wx => eq23 x y hxo hyo wx
        rw [hpa] at a0
        rw [hpa'] at d0
        have CS : ∀ wx, Below wr.heap.size wr wx → wx.cell? ⟨w.heap.size, 0, none⟩ = some (.slice (some ⟨b, off, none⟩) n pc) ∧ wx.cell? ⟨w.heap.size + 1, 0, none⟩ = some (.slice (some ⟨b2, off2, none⟩) n pc') := fun wx hx' => ⟨(hx'.cell (p := ⟨w.heap.size, 0, none⟩) (by show w.heap.size < wr.heap.size; omega)).trans a0, (hx'.cell (p := ⟨w.heap.size + 1, 0, none⟩) (by show w.heap.size + 1 < wr.heap.size; omega)).trans d0⟩
        have HK : Hid (decide (x = y) = true → ∀ j, j < k + 1 → P[j]? = P'[j]?) := (fun hxy j hj => by
          by_cases e : j = k
          · subst e; rw [hx, hy, of_decide_eq_true hxy]
          · exact hs.out j (by omega) : decide (x = y) = true → ∀ j, j < k + 1 → P[j]? = P'[j]?)
        have HF : Hid (decide (x = y) = false → decide (P = P') = false) := (fun hxy => by
          rw [decide_eq_false_iff_not]
          intro e
          subst e
          rw [hx] at hy
          exact of_decide_eq_false hxy (Option.some.inj hy) : decide (x = y) = false → decide (P = P') = false)
        clear hsA hsB hx hy hs hkL hkM
        go_upto_region 6 with fail
        refine hashes7 w.heap.size b off pc b2 off2 pc' n k x y (decide (x = y)) _ _ _ rfl rfl rfl rfl hk0 hkn' CS ix1 ix2 L1 L2 HQ ?_
        intro a' w' hb' ha'
        subst ha'
        simp only [Act.put, List.setIfInBounds_toArray, List.set_cons_zero, List.set_cons_succ]
        have BG : Hid (Below W2.heap.size W2 w') := hw.out.trans (hb'.mono hw.out.size)
        clear hb' L1 L2 CS
        cases hd : decide (x = y) with
        | true =>
          have HK2 : Hid (∀ j, j < k + 1 → P[j]? = P'[j]?) := HK.out hd
          clear hd HK HF
          go_wp2
          go_roundw
          case rel => exact ⟨k + 1, by omega, by go_num, HK2, BG⟩
          case measure => simp [intOf]; omega
        | false =>
          have HF2 : Hid (decide (P = P') = false) := HF.out hd
          clear hd HK HF
          go_wp2
          go_ret
          exact ⟨by have := HF2.out; simp [sameU, this], BX.out.trans (BG.out.mono (by omega))⟩
      · obtain rfl : k = n := by omega
        have b1 : decide (P = P') = true := by
          rw [decide_eq_true_eq]
          apply List.ext_getElem?
          intro j
          by_cases hj : j < k
          · exact hs.out j hj
          · rw [List.getElem?_eq_none (by rw [← HN.out]; omega), List.getElem?_eq_none (by rw [HN2.out]; omega)]
        have B1 : Hid (decide (P = P') = true) := b1
        have BW : Hid (Below w.heap.size w wr) := BX.out.trans (hw.out.mono (by omega))
        have hu3 : AllE E ∧ E.length ≤ 606627104962 ∧ El wr ea E := ⟨hu2.eo, hu2.en, hu2.el.below hu2.eo hw.out⟩
        have hv3 : AllE E' ∧ El wr ea' E' := ⟨hv2.eo, hv2.el.below hv2.eo hw.out⟩
        clear hu2 hv2 g13 g23 b1 hs hw lw hz2
        cases b2 : (au == au') with
        | false =>
          go_wp2
          go_ret
          exact ⟨by have := B1.out; simp [sameU, *], BW.out⟩
        | true =>
          cases b3 : (sq == sq') with
          | false =>
            go_wp2
            go_ret
            exact ⟨by have := B1.out; simp [sameU, *], BW.out⟩
          | true =>
            cases b4 : (tm == tm') with
            | false =>
              go_wp2
              go_ret
              exact ⟨by have := B1.out; simp [sameU, *], BW.out⟩
            | true =>
              cases b5 : (nt.toList == nt'.toList) with
              | false =>
                go_wp2
                go_ret
                exact ⟨by have := B1.out; simp [sameU, *], BW.out⟩
              | true =>
                go_wp2_with fail
                refine (sameEs_any ea ea' E E' ec ec' wr hu3.1 hv3.1 hu3.2.1 hu3.2.2 hv3.2).mono ?_
                rintro e w9 ⟨rfl, b9⟩
                have BG : Hid (Below w.heap.size w w9) := BW.out.trans (b9.mono BW.out.size)
                clear b9 BW
                go_wp2
                go_ret
                exact ⟨by have := B1.out; simp [sameU, *], BG.out⟩
  · have hd : decide (P = P') = false := by rw [decide_eq_false_iff_not]; intro e; rw [e] at hlen; exact hlen rfl
    have hne : ¬ (P.length : Int) = (P'.length : Int) := by omega
    have BW : Hid (Below w.heap.size w ((w.alloc (.cells #[.slice pa P.length pc, .int .i64 au, .int .i64 sq, .int .i64 tm, .string nt, .slice ea E.length ec] 25)).alloc (.cells #[.slice pa' P'.length pc', .int .i64 au', .int .i64 sq', .int .i64 tm', .string nt', .slice ea' E'.length ec'] 25))) := bx
    clear g1 g2 hz bx hu2 hv2
    go_enter Try.func7, Try.ntmps7
    go_wp2
    go_ret
    exact ⟨by simp [sameU, hd], BW.out⟩
end Go.Proofs.Ythfbolmfkilkjaa
