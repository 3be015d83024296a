import Derived.Test.YtldlljobofnmmabDoorZr
import Derived.Test.YtldlljobofnmmabDoorRgf
import Derived.Test.YtldlljobofnmmabDoorGs
namespace Go.Proofs.YtldlljobofnmmabDoor
open Go.RowKit
set_option linter.unusedVariables false
set_option linter.unusedSimpArgs false

set_option maxRecDepth 100000 in
theorem build_sd0 (w : World) (z : Int) (a0 a1 a2 a3 a4 a5 a6 a7 a8 a9 a10 a11 a12 a13 a14 a15 a16 a17 a18 a19 a20 a21 a22 a23 a24 a25 a26 a27 a28 a29 a30 a31 a32 a33 a34 a35 a36 : Value) : (Instr.build 100 #[(0, .int .i64 z), (1, .agg [a0, a1, a2, a3, a4, a5, a6, a7, a8, a9, a10, a11, a12, a13, a14, a15, a16, a17, a18, a19, a20, a21, a22, a23, a24, a25, a26, a27, a28, a29, a30, a31, a32, a33, a34, a35, a36].toArray)]).run Tryd.prog w = .ok (.agg (Value.int .i64 z :: [a0, a1, a2, a3, a4, a5, a6, a7, a8, a9, a10, a11, a12, a13, a14, a15, a16, a17, a18, a19, a20, a21, a22, a23, a24, a25, a26, a27, a28, a29, a30, a31, a32, a33, a34, a35, a36]).toArray) w := by kernel_rfl
set_option maxRecDepth 100000 in
theorem build_sd (w : World) (n : Nat) {x : EnV} (hx : x.ok) : (Instr.build 100 #[(0, .int .i64 (n : Int)), (1, x.a)]).run Tryd.prog w = .ok (.agg (sdC (n, x)).toArray) w := by
  have h := EnV.len hx
  unfold sdC EnV.a
  simp only
  generalize x.c = l at *
  match l, h with
  | a0 :: a1 :: a2 :: a3 :: a4 :: a5 :: a6 :: a7 :: a8 :: a9 :: a10 :: a11 :: a12 :: a13 :: a14 :: a15 :: a16 :: a17 :: a18 :: a19 :: a20 :: a21 :: a22 :: a23 :: a24 :: a25 :: a26 :: a27 :: a28 :: a29 :: a30 :: a31 :: a32 :: a33 :: a34 :: a35 :: a36 :: [], _ => exact build_sd0 w n a0 a1 a2 a3 a4 a5 a6 a7 a8 a9 a10 a11 a12 a13 a14 a15 a16 a17 a18 a19 a20 a21 a22 a23 a24 a25 a26 a27 a28 a29 a30 a31 a32 a33 a34 a35 a36
theorem exec_bsd {w : World} {a : Act} {o : Oper} {x y : Operand} {n : Nat} {e : EnV} (he : e.ok) (ho : o.op = .build 100 #[(0, x), (1, y)]) (hx : a.eval x = .int .i64 (n : Int)) (hy : a.eval y = e.a) : (execOp a.eval o).run Tryd.prog w = .ok (.value (.agg (sdC (n, e)).toArray)) w :=
  exec_build ho (by simp [hx, hy]) (build_sd w n he)
section
variable {w : World} {a : Act} {o : Oper}
theorem exec_sl0 {t : TypeId} {x hi : Operand} {xv hv v : Value} (ho : o.op = .slice t x none (some hi) none) (hx : a.eval x = xv) (h2 : a.eval hi = hv) (hl : (Instr.sliceAt t xv none (some hv) none).run Tryd.prog w = .ok v w) : (execOp a.eval o).run Tryd.prog w = .ok (.value v) w := exec_slice ho hx rfl (congrArg some h2) rfl hl
theorem exec_sl1 {t : TypeId} {x lo : Operand} {xv lv v : Value} (ho : o.op = .slice t x (some lo) none none) (hx : a.eval x = xv) (h2 : a.eval lo = lv) (hl : (Instr.sliceAt t xv (some lv) none none).run Tryd.prog w = .ok v w) : (execOp a.eval o).run Tryd.prog w = .ok (.value v) w := exec_slice ho hx (congrArg some h2) rfl rfl hl
theorem exec_sl2 {t : TypeId} {x lo hi : Operand} {xv lv hv v : Value} (ho : o.op = .slice t x (some lo) (some hi) none) (hx : a.eval x = xv) (h1 : a.eval lo = lv) (h2 : a.eval hi = hv) (hl : (Instr.sliceAt t xv (some lv) (some hv) none).run Tryd.prog w = .ok v w) : (execOp a.eval o).run Tryd.prog w = .ok (.value v) w := exec_slice ho hx (congrArg some h1) (congrArg some h2) rfl hl
theorem exec_addi {x y : Operand} {n g : Nat} (ho : o.op = .binOp .add 3 x y 3) (hx : a.eval x = .int .i64 (n : Int)) (hy : a.eval y = .int .i64 1) (hg : n + 1 = g) (hs : n ≤ 9223372036854775800) : (execOp a.eval o).run Tryd.prog w = .ok (.value (.int .i64 (g : Int))) w := by
  refine exec_binOp ho hx hy ?_ ?_
  · kernel_rfl
  · subst hg
    have e : IntKind.i64.wrap ((n : Int) + 1) = ((n + 1 : Nat) : Int) := by rw [IntKind.wrap_i64]; omega
    have h : (binOp .add 3 (.int .i64 (n : Int)) (.int .i64 1)).run Tryd.prog w = .ok (.int .i64 (IntKind.i64.wrap ((n : Int) + 1))) w := by kernel_rfl
    rw [h, e]
theorem exec_addn {x y : Operand} {n m g : Nat} (ho : o.op = .binOp .add 3 x y 3) (hx : a.eval x = .int .i64 (n : Int)) (hy : a.eval y = .int .i64 (m : Int)) (hg : n + m = g) (hs : g ≤ 9223372036854775800) : (execOp a.eval o).run Tryd.prog w = .ok (.value (.int .i64 (g : Int))) w := by
  refine exec_binOp ho hx hy ?_ ?_
  · kernel_rfl
  · subst hg
    have e : IntKind.i64.wrap ((n : Int) + (m : Int)) = ((n + m : Nat) : Int) := by rw [IntKind.wrap_i64]; omega
    have h : (binOp .add 3 (.int .i64 (n : Int)) (.int .i64 (m : Int))).run Tryd.prog w = .ok (.int .i64 (IntKind.i64.wrap ((n : Int) + (m : Int)))) w := by kernel_rfl
    rw [h, e]
theorem exec_subi {x y : Operand} {n m d : Nat} (ho : o.op = .binOp .sub 3 x y 3) (hx : a.eval x = .int .i64 (n : Int)) (hy : a.eval y = .int .i64 (m : Int)) (hd : m + d = n) (hs : n ≤ 9223372036854775800) : (execOp a.eval o).run Tryd.prog w = .ok (.value (.int .i64 (d : Int))) w := by
  refine exec_binOp ho hx hy ?_ ?_
  · kernel_rfl
  · have e : IntKind.i64.wrap ((n : Int) - (m : Int)) = (d : Int) := by rw [IntKind.wrap_i64]; omega
    have h : (binOp .sub 3 (.int .i64 (n : Int)) (.int .i64 (m : Int))).run Tryd.prog w = .ok (.int .i64 (IntKind.i64.wrap ((n : Int) - (m : Int)))) w := by kernel_rfl
    rw [h, e]
end
def had6_o0 : Oper := { dst := some 14, op := Op.move (Operand.tmp 12), type := 3, pos := "stood.go:21", after := #[], guard := none }
def had6_o1 : Oper := { dst := some 15, op := Op.indexAddr 44 (Operand.tmp 10) (Operand.tmp 12), type := 0, pos := "stood.go:21", after := #[], guard := none }
def had6_o2 : Oper := { dst := some 16, op := Op.load 65 (Operand.tmp 15), type := 65, pos := "stood.go:21", after := #[{ on := 1, ground := Ground.data }], guard := none }
def had6_o3 : Oper := { dst := some 7, op := Op.alloc 65, type := 0, pos := "stood.go:21", after := #[], guard := none }
def had6_o4 : Oper := { dst := some 6, op := Op.assign (Operand.tmp 14), type := 3, pos := "stood.go:21", after := #[{ on := 0, ground := Ground.data }, { on := 0, ground := Ground.phase }, { on := 1, ground := Ground.phase }, { on := 2, ground := Ground.phase }, { on := 3, ground := Ground.phase }], guard := none }
def had6_o5 : Oper := { dst := none, op := Op.store 65 (Operand.tmp 7) (Operand.tmp 16), type := 0, pos := "stood.go:21", after := #[{ on := 3, ground := Ground.data }, { on := 2, ground := Ground.data }, { on := 4, ground := Ground.chain }, { on := 0, ground := Ground.phase }, { on := 1, ground := Ground.phase }, { on := 2, ground := Ground.phase }, { on := 3, ground := Ground.phase }, { on := 4, ground := Ground.phase }], guard := none }
def had6_ops : Array Oper := #[had6_o0, had6_o1, had6_o2, had6_o3, had6_o4, had6_o5]
set_option maxRecDepth 100000 in
set_option maxHeartbeats 4000000 in
theorem had6 {eb eo n c i : Nat} {x : EnV} (a : Act) (w : World) (Q : Exit → Act → World → Prop) (zz : a.tmps.size = 29)
    (t10 : a.tmps.getD 10 undef = .slice (some ⟨eb, eo, none⟩) n c)
    (t12 : a.tmps.getD 12 undef = .int .i64 (i : Int))
    (hx : x.ok) (hi : i < n) (hm : n ≤ 9223372036854775807) (h0 : w.rangeAt eb (eo + 37 * i) x.c)
    (h : ∀ (a' : Act) (w' : World), w' = w.alloc (.cells x.c.toArray 65) → a' = (((((a).put (some 14) (.int .i64 (i : Int))).put (some 15) (.pointer (some ⟨eb, eo + 37 * i, none⟩))).put (some 16) (x.a)).put (some 7) (.pointer (some ⟨w.heap.size, 0, none⟩))).put (some 6) (.int .i64 (i : Int)) → Q .normal a' w') :
    (Code.region 6 had6_ops false).wp Tryd.prog Q a w := by
  refine z0 rfl ?_
  refine zv rfl (exec_move rfl (zi t12 rfl)) ?_
  refine zv rfl (exec_indexAt rfl (zi t10 rfl) (zi t12 rfl) (ix_en hi hm _)) ?_
  refine zv rfl (exec_load rfl (zg zz rfl) (ld_en hx h0)) ?_
  refine zv (v := .pointer (some ⟨w.heap.size, 0, none⟩)) rfl (exec_alloc rfl (RowT.bx_zero RN_is w)) ?_
  refine zv rfl (exec_assign rfl (zg zz rfl)) ?_
  refine zs rfl (exec_store rfl (zg zz rfl) (zg zz rfl) (RowT.bx_new RN_is w hx)) ?_
  exact ze rfl (h _ _ (rfl) rfl)
def had7_o0 : Oper := { dst := some 17, op := Op.move (Operand.tmp 1), type := 63, pos := "stood.go:22", after := #[], guard := none }
def had7_o1 : Oper := { dst := some 18, op := Op.fieldAddr 65 (Operand.tmp 7) 0, type := 0, pos := "stood.go:22", after := #[], guard := none }
def had7_o2 : Oper := { dst := some 19, op := Op.load 32 (Operand.tmp 18), type := 32, pos := "stood.go:22", after := #[{ on := 1, ground := Ground.data }], guard := none }
def had7_o3 : Oper := { dst := some 20, op := Op.call { callee := Callee.value (Operand.tmp 17), args := #[Operand.tmp 19], argTypes := #[32] }, type := 4, pos := "stood.go:22", after := #[{ on := 0, ground := Ground.data }, { on := 2, ground := Ground.data }], guard := none }
def had7_ops : Array Oper := #[had7_o0, had7_o1, had7_o2, had7_o3]
set_option maxRecDepth 100000 in
set_option maxHeartbeats 4000000 in
theorem had7 {bx F : Nat} {caps : Array Value} {x : EnV} {r : Bool} (Fin : World → Prop) (a : Act) (w : World) (Q : Exit → Act → World → Prop) (zz : a.tmps.size = 29)
    (t1 : a.tmps.getD 1 undef = .func (.func F) #[] caps)
    (t7 : a.tmps.getD 7 undef = .pointer (some ⟨bx, 0, none⟩))
    (hx : x.ok) (h0 : w.rangeAt bx 0 x.c) (EN : ∀ vs (W : World), (callFunc F vs).run Tryd.prog W = .ok (.enter F vs) W) (CF : Calls Tryd.prog F (#[x.id.v] ++ caps) w fun e w' => e = .returned (.bool r) ∧ Fin w')
    (h : ∀ (a' : Act) (w' : World), Fin w' → a' = ((((a).put (some 17) (.func (.func F) #[] caps)).put (some 18) (.pointer (some ⟨bx, 0 + 0, none⟩))).put (some 19) (x.id.v)).put (some 20) (.bool r) → Q .normal a' w') :
    (Code.region 7 had7_ops false).wp Tryd.prog Q a w := by
  refine z0 rfl ?_
  refine zv rfl (exec_move rfl (zi t1 rfl)) ?_
  refine zv rfl (exec_fieldAt rfl (zi t7 rfl) (fg_65_0 _ _ _)) ?_
  refine zv rfl (exec_load rfl (zg zz rfl) (en_id hx h0)) ?_
  refine zc rfl (exec_cv1 rfl (zg zz rfl) (zg zz rfl) EN) (CF) (fun e x3 hx => ?_)
  obtain ⟨rfl, HF⟩ := hx
  refine ⟨_, rfl, ?_⟩
  exact ze rfl (h _ _ (HF) rfl)
def had8_o0 : Oper := { dst := some 21, op := Op.move (Operand.tmp 5), type := 83, pos := "stood.go:23", after := #[], guard := none }
def had8_o1 : Oper := { dst := some 22, op := Op.move (Operand.tmp 6), type := 3, pos := "stood.go:23", after := #[], guard := none }
def had8_o2 : Oper := { dst := some 23, op := Op.load 65 (Operand.tmp 7), type := 65, pos := "stood.go:23", after := #[], guard := none }
def had8_o3 : Oper := { dst := some 24, op := Op.build 100 #[(0, Operand.tmp 22), (1, Operand.tmp 23)], type := 100, pos := "stood.go:23", after := #[{ on := 1, ground := Ground.data }, { on := 2, ground := Ground.data }], guard := none }
def had8_o4 : Oper := { dst := some 25, op := Op.buildSlice 83 1 #[(0, Operand.tmp 24)], type := 83, pos := "stood.go:23", after := #[{ on := 3, ground := Ground.data }], guard := none }
def had8_o5 : Oper := { dst := some 26, op := Op.call { callee := Callee.builtin Builtin.append, args := #[Operand.tmp 21, Operand.tmp 25], argTypes := #[83, 83] }, type := 83, pos := "stood.go:23", after := #[{ on := 0, ground := Ground.data }, { on := 4, ground := Ground.data }], guard := none }
def had8_o6 : Oper := { dst := some 5, op := Op.assign (Operand.tmp 26), type := 83, pos := "stood.go:23", after := #[{ on := 5, ground := Ground.data }, { on := 5, ground := Ground.chain }, { on := 0, ground := Ground.phase }, { on := 1, ground := Ground.phase }, { on := 2, ground := Ground.phase }, { on := 3, ground := Ground.phase }, { on := 4, ground := Ground.phase }, { on := 5, ground := Ground.phase }], guard := none }
def had8_ops : Array Oper := #[had8_o0, had8_o1, had8_o2, had8_o3, had8_o4, had8_o5, had8_o6]
set_option maxRecDepth 100000 in
set_option maxHeartbeats 4000000 in
theorem had8 {bx i : Nat} {x : EnV} {u sv u2 : Value} {w1 w2 : World} (a : Act) (w : World) (Q : Exit → Act → World → Prop) (zz : a.tmps.size = 29)
    (t5 : a.tmps.getD 5 undef = u)
    (t6 : a.tmps.getD 6 undef = .int .i64 (i : Int))
    (t7 : a.tmps.getD 7 undef = .pointer (some ⟨bx, 0, none⟩))
    (hx : x.ok) (h0 : w.rangeAt bx 0 x.c) (EB : (Instr.buildSlice 83 1 #[(0, .agg (sdC (i, x)).toArray)]).run Tryd.prog w = .ok sv w1) (EA : (Builtin.append_ #[83, 83] 83 #[u, sv]).run Tryd.prog w1 = .ok u2 w2)
    (h : ∀ (a' : Act) (w' : World), w' = w2 → a' = (((((((a).put (some 21) (u)).put (some 22) (.int .i64 (i : Int))).put (some 23) (x.a)).put (some 24) (.agg (sdC (i, x)).toArray)).put (some 25) (sv)).put (some 26) (u2)).put (some 5) (u2) → Q .normal a' w') :
    (Code.region 8 had8_ops false).wp Tryd.prog Q a w := by
  refine z0 rfl ?_
  refine zv rfl (exec_move rfl (zi t5 rfl)) ?_
  refine zv rfl (exec_move rfl (zi t6 rfl)) ?_
  refine zv rfl (exec_load rfl (zi t7 rfl) (ld_en hx h0)) ?_
  refine zv (v := .agg (sdC (i, x)).toArray) rfl (exec_bsd hx rfl (zg zz rfl) (zg zz rfl)) ?_
  refine zv (v := sv) rfl (exec_buildSlice rfl (zg zz rfl) EB) ?_
  refine zv (v := u2) rfl (exec_append rfl (zg zz rfl) (zg zz rfl) EA) ?_
  refine zv rfl (exec_assign rfl (zg zz rfl)) ?_
  exact ze rfl (h _ _ (rfl) rfl)
def wo7_o0 : Oper := { dst := some 23, op := Op.indexAddr 83 (Operand.tmp 19) (Operand.tmp 21), type := 0, pos := "stood.go:41", after := #[], guard := none }
def wo7_o1 : Oper := { dst := some 24, op := Op.load 100 (Operand.tmp 23), type := 100, pos := "stood.go:41", after := #[{ on := 0, ground := Ground.data }], guard := none }
def wo7_o2 : Oper := { dst := some 8, op := Op.alloc 100, type := 0, pos := "stood.go:41", after := #[], guard := none }
def wo7_o3 : Oper := { dst := none, op := Op.store 100 (Operand.tmp 8) (Operand.tmp 24), type := 0, pos := "stood.go:41", after := #[{ on := 2, ground := Ground.data }, { on := 1, ground := Ground.data }, { on := 0, ground := Ground.phase }, { on := 1, ground := Ground.phase }, { on := 2, ground := Ground.phase }], guard := none }
def wo7_ops : Array Oper := #[wo7_o0, wo7_o1, wo7_o2, wo7_o3]
set_option maxRecDepth 100000 in
set_option maxHeartbeats 4000000 in
theorem wo7 {tb to m tc j : Nat} {t : Nat × EnV} (a : Act) (w : World) (Q : Exit → Act → World → Prop) (zz : a.tmps.size = 41)
    (t19 : a.tmps.getD 19 undef = .slice (some ⟨tb, to, none⟩) m tc)
    (t21 : a.tmps.getD 21 undef = .int .i64 (j : Int))
    (hx : RD.ok t) (hi : j < m) (hm : m ≤ 9223372036854775807) (h0 : w.rangeAt tb (to + 38 * j) (sdC t))
    (h : ∀ (a' : Act) (w' : World), w' = w.alloc (.cells (sdC t).toArray 100) → a' = (((a).put (some 23) (.pointer (some ⟨tb, to + 38 * j, none⟩))).put (some 24) (.agg (sdC t).toArray)).put (some 8) (.pointer (some ⟨w.heap.size, 0, none⟩)) → Q .normal a' w') :
    (Code.region 7 wo7_ops false).wp Tryd.prog Q a w := by
  refine z0 rfl ?_
  refine zv rfl (exec_indexAt rfl (zi t19 rfl) (zi t21 rfl) (ix_sd hi hm _)) ?_
  refine zv rfl (exec_load rfl (zg zz rfl) (ld_sd hx h0)) ?_
  refine zv (v := .pointer (some ⟨w.heap.size, 0, none⟩)) rfl (exec_alloc rfl (RowT.bx_zero RD_is w)) ?_
  refine zs rfl (exec_store rfl (zg zz rfl) (zg zz rfl) (RowT.bx_new RD_is w hx)) ?_
  exact ze rfl (h _ _ (rfl) rfl)
def wo3_o0 : Oper := { dst := some 13, op := Op.move (Operand.tmp 0), type := 44, pos := "stood.go:39", after := #[], guard := none }
def wo3_o1 : Oper := { dst := some 14, op := Op.call { callee := Callee.builtin Builtin.len, args := #[Operand.tmp 13], argTypes := #[44] }, type := 3, pos := "stood.go:39", after := #[{ on := 0, ground := Ground.data }], guard := none }
def wo3_o2 : Oper := { dst := some 15, op := Op.move (Operand.tmp 1), type := 83, pos := "stood.go:39", after := #[], guard := none }
def wo3_o3 : Oper := { dst := some 16, op := Op.call { callee := Callee.builtin Builtin.len, args := #[Operand.tmp 15], argTypes := #[83] }, type := 3, pos := "stood.go:39", after := #[{ on := 2, ground := Ground.data }], guard := none }
def wo3_o4 : Oper := { dst := some 17, op := Op.binOp BinOp.sub 3 (Operand.tmp 14) (Operand.tmp 16) 3, type := 3, pos := "stood.go:39", after := #[{ on := 1, ground := Ground.data }, { on := 3, ground := Ground.data }], guard := none }
def wo3_o5 : Oper := { dst := some 18, op := Op.makeSlice 44 (Operand.const (Value.int IntKind.i64 0)) (Operand.tmp 17), type := 44, pos := "stood.go:39", after := #[{ on := 4, ground := Ground.data }], guard := none }
def wo3_o6 : Oper := { dst := some 5, op := Op.assign (Operand.tmp 18), type := 44, pos := "stood.go:39", after := #[{ on := 5, ground := Ground.data }, { on := 0, ground := Ground.phase }, { on := 1, ground := Ground.phase }, { on := 2, ground := Ground.phase }, { on := 3, ground := Ground.phase }, { on := 4, ground := Ground.phase }, { on := 5, ground := Ground.phase }], guard := none }
def wo3_ops : Array Oper := #[wo3_o0, wo3_o1, wo3_o2, wo3_o3, wo3_o4, wo3_o5, wo3_o6]
set_option maxRecDepth 100000 in
set_option maxHeartbeats 4000000 in
theorem wo3 {n lc m tc d : Nat} {la ta : Option Addr} {mv : Value} {w2 : World} (a : Act) (w : World) (Q : Exit → Act → World → Prop) (zz : a.tmps.size = 41)
    (t0 : a.tmps.getD 0 undef = .slice la n lc)
    (t1 : a.tmps.getD 1 undef = .slice ta m tc)
    (hd : m + d = n) (hs : n ≤ 9223372036854775800) (EM : (Instr.makeSlice 44 (.int .i64 0) (.int .i64 (d : Int))).run Tryd.prog w = .ok mv w2)
    (h : ∀ (a' : Act) (w' : World), w' = w2 → a' = (((((((a).put (some 13) (.slice la n lc)).put (some 14) (.int .i64 (n : Int))).put (some 15) (.slice ta m tc)).put (some 16) (.int .i64 (m : Int))).put (some 17) (.int .i64 (d : Int))).put (some 18) (mv)).put (some 5) (mv) → Q .normal a' w') :
    (Code.region 3 wo3_ops false).wp Tryd.prog Q a w := by
  refine z0 rfl ?_
  refine zv rfl (exec_move rfl (zi t0 rfl)) ?_
  refine zv rfl (exec_len rfl (zg zz rfl) (len_en _ _ _ _ _)) ?_
  refine zv rfl (exec_move rfl (zi t1 rfl)) ?_
  refine zv rfl (exec_len rfl (zg zz rfl) (len_sd _ _ _ _ _)) ?_
  refine zv (v := .int .i64 (d : Int)) rfl (exec_subi rfl (zg zz rfl) (zg zz rfl) hd hs) ?_
  refine zv (v := mv) rfl (exec_makeSlice rfl rfl (zg zz rfl) EM) ?_
  refine zv rfl (exec_assign rfl (zg zz rfl)) ?_
  exact ze rfl (h _ _ (rfl) rfl)
def wo8_o0 : Oper := { dst := some 25, op := Op.move (Operand.tmp 5), type := 44, pos := "stood.go:42", after := #[], guard := none }
def wo8_o1 : Oper := { dst := some 26, op := Op.move (Operand.tmp 0), type := 44, pos := "stood.go:42", after := #[], guard := none }
def wo8_o2 : Oper := { dst := some 27, op := Op.move (Operand.tmp 6), type := 3, pos := "stood.go:42", after := #[], guard := none }
def wo8_o3 : Oper := { dst := some 28, op := Op.fieldAddr 100 (Operand.tmp 8) 0, type := 0, pos := "stood.go:42", after := #[], guard := none }
def wo8_o4 : Oper := { dst := some 29, op := Op.load 3 (Operand.tmp 28), type := 3, pos := "stood.go:42", after := #[{ on := 3, ground := Ground.data }], guard := none }
def wo8_o5 : Oper := { dst := some 30, op := Op.slice 44 (Operand.tmp 26) (some (Operand.tmp 27)) (some (Operand.tmp 29)) none, type := 44, pos := "stood.go:42", after := #[{ on := 1, ground := Ground.data }, { on := 2, ground := Ground.data }, { on := 4, ground := Ground.data }], guard := none }
def wo8_o6 : Oper := { dst := some 31, op := Op.call { callee := Callee.builtin Builtin.append, args := #[Operand.tmp 25, Operand.tmp 30], argTypes := #[44, 44] }, type := 44, pos := "stood.go:42", after := #[{ on := 0, ground := Ground.data }, { on := 5, ground := Ground.data }], guard := none }
def wo8_o7 : Oper := { dst := some 5, op := Op.assign (Operand.tmp 31), type := 44, pos := "stood.go:42", after := #[{ on := 6, ground := Ground.data }, { on := 6, ground := Ground.chain }, { on := 0, ground := Ground.phase }, { on := 1, ground := Ground.phase }, { on := 2, ground := Ground.phase }, { on := 3, ground := Ground.phase }, { on := 4, ground := Ground.phase }, { on := 5, ground := Ground.phase }, { on := 6, ground := Ground.phase }], guard := none }
def wo8_ops : Array Oper := #[wo8_o0, wo8_o1, wo8_o2, wo8_o3, wo8_o4, wo8_o5, wo8_o6, wo8_o7]
set_option maxRecDepth 100000 in
set_option maxHeartbeats 4000000 in
theorem wo8 {bx f : Nat} {t : Nat × EnV} {lv u pv u2 : Value} {w2 : World} (a : Act) (w : World) (Q : Exit → Act → World → Prop) (zz : a.tmps.size = 41)
    (t0 : a.tmps.getD 0 undef = lv)
    (t5 : a.tmps.getD 5 undef = u)
    (t6 : a.tmps.getD 6 undef = .int .i64 (f : Int))
    (t8 : a.tmps.getD 8 undef = .pointer (some ⟨bx, 0, none⟩))
    (h0 : w.rangeAt bx 0 (sdC t)) (ES : (Instr.sliceAt 44 lv (some (.int .i64 (f : Int))) (some (.int .i64 (t.1 : Int))) none).run Tryd.prog w = .ok pv w) (EA : (Builtin.append_ #[44, 44] 44 #[u, pv]).run Tryd.prog w = .ok u2 w2)
    (h : ∀ (a' : Act) (w' : World), w' = w2 → a' = ((((((((a).put (some 25) (u)).put (some 26) (lv)).put (some 27) (.int .i64 (f : Int))).put (some 28) (.pointer (some ⟨bx, 0 + 0, none⟩))).put (some 29) (.int .i64 (t.1 : Int))).put (some 30) (pv)).put (some 31) (u2)).put (some 5) (u2) → Q .normal a' w') :
    (Code.region 8 wo8_ops false).wp Tryd.prog Q a w := by
  refine z0 rfl ?_
  refine zv rfl (exec_move rfl (zi t5 rfl)) ?_
  refine zv rfl (exec_move rfl (zi t0 rfl)) ?_
  refine zv rfl (exec_move rfl (zi t6 rfl)) ?_
  refine zv rfl (exec_fieldAt rfl (zi t8 rfl) (fg_100_0 _ _ _)) ?_
  refine zv rfl (exec_load rfl (zg zz rfl) (sd_at h0)) ?_
  refine zv (v := pv) rfl (exec_sl2 rfl (zg zz rfl) (zg zz rfl) (zg zz rfl) ES) ?_
  refine zv (v := u2) rfl (exec_append rfl (zg zz rfl) (zg zz rfl) EA) ?_
  refine zv rfl (exec_assign rfl (zg zz rfl)) ?_
  exact ze rfl (h _ _ (rfl) rfl)
def wo9_o0 : Oper := { dst := some 32, op := Op.fieldAddr 100 (Operand.tmp 8) 0, type := 0, pos := "stood.go:43", after := #[], guard := none }
def wo9_o1 : Oper := { dst := some 33, op := Op.load 3 (Operand.tmp 32), type := 3, pos := "stood.go:43", after := #[{ on := 0, ground := Ground.data }], guard := none }
def wo9_o2 : Oper := { dst := some 34, op := Op.binOp BinOp.add 3 (Operand.tmp 33) (Operand.const (Value.int IntKind.i64 1)) 3, type := 3, pos := "stood.go:43", after := #[{ on := 1, ground := Ground.data }], guard := none }
def wo9_o3 : Oper := { dst := some 6, op := Op.assign (Operand.tmp 34), type := 3, pos := "stood.go:43", after := #[{ on := 2, ground := Ground.data }, { on := 0, ground := Ground.phase }, { on := 1, ground := Ground.phase }, { on := 2, ground := Ground.phase }], guard := none }
def wo9_ops : Array Oper := #[wo9_o0, wo9_o1, wo9_o2, wo9_o3]
set_option maxRecDepth 100000 in
set_option maxHeartbeats 4000000 in
theorem wo9 {bx g : Nat} {t : Nat × EnV} (a : Act) (w : World) (Q : Exit → Act → World → Prop) (zz : a.tmps.size = 41)
    (t8 : a.tmps.getD 8 undef = .pointer (some ⟨bx, 0, none⟩))
    (h0 : w.rangeAt bx 0 (sdC t)) (hg : t.1 + 1 = g) (hs : t.1 ≤ 9223372036854775800)
    (h : ∀ (a' : Act) (w' : World), w' = w → a' = ((((a).put (some 32) (.pointer (some ⟨bx, 0 + 0, none⟩))).put (some 33) (.int .i64 (t.1 : Int))).put (some 34) (.int .i64 (g : Int))).put (some 6) (.int .i64 (g : Int)) → Q .normal a' w') :
    (Code.region 9 wo9_ops false).wp Tryd.prog Q a w := by
  refine z0 rfl ?_
  refine zv rfl (exec_fieldAt rfl (zi t8 rfl) (fg_100_0 _ _ _)) ?_
  refine zv rfl (exec_load rfl (zg zz rfl) (sd_at h0)) ?_
  refine zv (v := .int .i64 (g : Int)) rfl (exec_addi rfl (zg zz rfl) rfl hg hs) ?_
  refine zv rfl (exec_assign rfl (zg zz rfl)) ?_
  exact ze rfl (h _ _ (rfl) rfl)
def wo11_o0 : Oper := { dst := some 36, op := Op.move (Operand.tmp 5), type := 44, pos := "stood.go:45", after := #[], guard := none }
def wo11_o1 : Oper := { dst := some 37, op := Op.move (Operand.tmp 0), type := 44, pos := "stood.go:45", after := #[], guard := none }
def wo11_o2 : Oper := { dst := some 38, op := Op.move (Operand.tmp 6), type := 3, pos := "stood.go:45", after := #[], guard := none }
def wo11_o3 : Oper := { dst := some 39, op := Op.slice 44 (Operand.tmp 37) (some (Operand.tmp 38)) none none, type := 44, pos := "stood.go:45", after := #[{ on := 1, ground := Ground.data }, { on := 2, ground := Ground.data }], guard := none }
def wo11_o4 : Oper := { dst := some 40, op := Op.call { callee := Callee.builtin Builtin.append, args := #[Operand.tmp 36, Operand.tmp 39], argTypes := #[44, 44] }, type := 44, pos := "stood.go:45", after := #[{ on := 0, ground := Ground.data }, { on := 3, ground := Ground.data }], guard := none }
def wo11_o5 : Oper := { dst := some 4, op := Op.assign (Operand.tmp 40), type := 44, pos := "stood.go:45", after := #[{ on := 4, ground := Ground.data }, { on := 4, ground := Ground.chain }, { on := 0, ground := Ground.phase }, { on := 1, ground := Ground.phase }, { on := 2, ground := Ground.phase }, { on := 3, ground := Ground.phase }, { on := 4, ground := Ground.phase }], guard := none }
def wo11_ops : Array Oper := #[wo11_o0, wo11_o1, wo11_o2, wo11_o3, wo11_o4, wo11_o5]
set_option maxRecDepth 100000 in
set_option maxHeartbeats 4000000 in
theorem wo11 {f : Nat} {lv u pv u2 : Value} {w2 : World} (a : Act) (w : World) (Q : Exit → Act → World → Prop) (zz : a.tmps.size = 41)
    (t0 : a.tmps.getD 0 undef = lv)
    (t5 : a.tmps.getD 5 undef = u)
    (t6 : a.tmps.getD 6 undef = .int .i64 (f : Int))
    (ES : (Instr.sliceAt 44 lv (some (.int .i64 (f : Int))) none none).run Tryd.prog w = .ok pv w) (EA : (Builtin.append_ #[44, 44] 44 #[u, pv]).run Tryd.prog w = .ok u2 w2)
    (h : ∀ (a' : Act) (w' : World), w' = w2 → a' = ((((((a).put (some 36) (u)).put (some 37) (lv)).put (some 38) (.int .i64 (f : Int))).put (some 39) (pv)).put (some 40) (u2)).put (some 4) (u2) → Q .normal a' w') :
    (Code.region 11 wo11_ops false).wp Tryd.prog Q a w := by
  refine z0 rfl ?_
  refine zv rfl (exec_move rfl (zi t5 rfl)) ?_
  refine zv rfl (exec_move rfl (zi t0 rfl)) ?_
  refine zv rfl (exec_move rfl (zi t6 rfl)) ?_
  refine zv (v := pv) rfl (exec_sl1 rfl (zg zz rfl) (zg zz rfl) ES) ?_
  refine zv (v := u2) rfl (exec_append rfl (zg zz rfl) (zg zz rfl) EA) ?_
  refine zv rfl (exec_assign rfl (zg zz rfl)) ?_
  exact ze rfl (h _ _ (rfl) rfl)
def wi6_o0 : Oper := { dst := some 23, op := Op.indexAddr 83 (Operand.tmp 19) (Operand.tmp 21), type := 0, pos := "stood.go:66", after := #[], guard := none }
def wi6_o1 : Oper := { dst := some 24, op := Op.load 100 (Operand.tmp 23), type := 100, pos := "stood.go:66", after := #[{ on := 0, ground := Ground.data }], guard := none }
def wi6_o2 : Oper := { dst := some 7, op := Op.alloc 100, type := 0, pos := "stood.go:66", after := #[], guard := none }
def wi6_o3 : Oper := { dst := none, op := Op.store 100 (Operand.tmp 7) (Operand.tmp 24), type := 0, pos := "stood.go:66", after := #[{ on := 2, ground := Ground.data }, { on := 1, ground := Ground.data }, { on := 0, ground := Ground.phase }, { on := 1, ground := Ground.phase }, { on := 2, ground := Ground.phase }], guard := none }
def wi6_ops : Array Oper := #[wi6_o0, wi6_o1, wi6_o2, wi6_o3]
set_option maxRecDepth 100000 in
set_option maxHeartbeats 4000000 in
theorem wi6 {tb to m tc j : Nat} {t : Nat × EnV} (a : Act) (w : World) (Q : Exit → Act → World → Prop) (zz : a.tmps.size = 46)
    (t19 : a.tmps.getD 19 undef = .slice (some ⟨tb, to, none⟩) m tc)
    (t21 : a.tmps.getD 21 undef = .int .i64 (j : Int))
    (hx : RD.ok t) (hi : j < m) (hm : m ≤ 9223372036854775807) (h0 : w.rangeAt tb (to + 38 * j) (sdC t))
    (h : ∀ (a' : Act) (w' : World), w' = w.alloc (.cells (sdC t).toArray 100) → a' = (((a).put (some 23) (.pointer (some ⟨tb, to + 38 * j, none⟩))).put (some 24) (.agg (sdC t).toArray)).put (some 7) (.pointer (some ⟨w.heap.size, 0, none⟩)) → Q .normal a' w') :
    (Code.region 6 wi6_ops false).wp Tryd.prog Q a w := by
  refine z0 rfl ?_
  refine zv rfl (exec_indexAt rfl (zi t19 rfl) (zi t21 rfl) (ix_sd hi hm _)) ?_
  refine zv rfl (exec_load rfl (zg zz rfl) (ld_sd hx h0)) ?_
  refine zv (v := .pointer (some ⟨w.heap.size, 0, none⟩)) rfl (exec_alloc rfl (RowT.bx_zero RD_is w)) ?_
  refine zs rfl (exec_store rfl (zg zz rfl) (zg zz rfl) (RowT.bx_new RD_is w hx)) ?_
  exact ze rfl (h _ _ (rfl) rfl)
def wi3_o0 : Oper := { dst := some 13, op := Op.move (Operand.tmp 0), type := 44, pos := "stood.go:65", after := #[], guard := none }
def wi3_o1 : Oper := { dst := some 14, op := Op.call { callee := Callee.builtin Builtin.len, args := #[Operand.tmp 13], argTypes := #[44] }, type := 3, pos := "stood.go:65", after := #[{ on := 0, ground := Ground.data }], guard := none }
def wi3_o2 : Oper := { dst := some 15, op := Op.move (Operand.tmp 1), type := 83, pos := "stood.go:65", after := #[], guard := none }
def wi3_o3 : Oper := { dst := some 16, op := Op.call { callee := Callee.builtin Builtin.len, args := #[Operand.tmp 15], argTypes := #[83] }, type := 3, pos := "stood.go:65", after := #[{ on := 2, ground := Ground.data }], guard := none }
def wi3_o4 : Oper := { dst := some 17, op := Op.binOp BinOp.add 3 (Operand.tmp 14) (Operand.tmp 16) 3, type := 3, pos := "stood.go:65", after := #[{ on := 1, ground := Ground.data }, { on := 3, ground := Ground.data }], guard := none }
def wi3_o5 : Oper := { dst := some 18, op := Op.makeSlice 44 (Operand.const (Value.int IntKind.i64 0)) (Operand.tmp 17), type := 44, pos := "stood.go:65", after := #[{ on := 4, ground := Ground.data }], guard := none }
def wi3_o6 : Oper := { dst := some 5, op := Op.assign (Operand.tmp 18), type := 44, pos := "stood.go:65", after := #[{ on := 5, ground := Ground.data }, { on := 0, ground := Ground.phase }, { on := 1, ground := Ground.phase }, { on := 2, ground := Ground.phase }, { on := 3, ground := Ground.phase }, { on := 4, ground := Ground.phase }, { on := 5, ground := Ground.phase }], guard := none }
def wi3_ops : Array Oper := #[wi3_o0, wi3_o1, wi3_o2, wi3_o3, wi3_o4, wi3_o5, wi3_o6]
set_option maxRecDepth 100000 in
set_option maxHeartbeats 4000000 in
theorem wi3 {n lc m tc d : Nat} {la ta : Option Addr} {mv : Value} {w2 : World} (a : Act) (w : World) (Q : Exit → Act → World → Prop) (zz : a.tmps.size = 46)
    (t0 : a.tmps.getD 0 undef = .slice la n lc)
    (t1 : a.tmps.getD 1 undef = .slice ta m tc)
    (hd : n + m = d) (hs : d ≤ 9223372036854775800) (EM : (Instr.makeSlice 44 (.int .i64 0) (.int .i64 (d : Int))).run Tryd.prog w = .ok mv w2)
    (h : ∀ (a' : Act) (w' : World), w' = w2 → a' = (((((((a).put (some 13) (.slice la n lc)).put (some 14) (.int .i64 (n : Int))).put (some 15) (.slice ta m tc)).put (some 16) (.int .i64 (m : Int))).put (some 17) (.int .i64 (d : Int))).put (some 18) (mv)).put (some 5) (mv) → Q .normal a' w') :
    (Code.region 3 wi3_ops false).wp Tryd.prog Q a w := by
  refine z0 rfl ?_
  refine zv rfl (exec_move rfl (zi t0 rfl)) ?_
  refine zv rfl (exec_len rfl (zg zz rfl) (len_en _ _ _ _ _)) ?_
  refine zv rfl (exec_move rfl (zi t1 rfl)) ?_
  refine zv rfl (exec_len rfl (zg zz rfl) (len_sd _ _ _ _ _)) ?_
  refine zv (v := .int .i64 (d : Int)) rfl (exec_addn rfl (zg zz rfl) (zg zz rfl) hd hs) ?_
  refine zv (v := mv) rfl (exec_makeSlice rfl rfl (zg zz rfl) EM) ?_
  refine zv rfl (exec_assign rfl (zg zz rfl)) ?_
  exact ze rfl (h _ _ (rfl) rfl)
def wi7_o0 : Oper := { dst := some 25, op := Op.fieldAddr 100 (Operand.tmp 7) 0, type := 0, pos := "stood.go:67", after := #[], guard := none }
def wi7_o1 : Oper := { dst := some 26, op := Op.load 3 (Operand.tmp 25), type := 3, pos := "stood.go:67", after := #[{ on := 0, ground := Ground.data }], guard := none }
def wi7_o2 : Oper := { dst := some 27, op := Op.move (Operand.tmp 5), type := 44, pos := "stood.go:67", after := #[], guard := none }
def wi7_o3 : Oper := { dst := some 28, op := Op.call { callee := Callee.builtin Builtin.len, args := #[Operand.tmp 27], argTypes := #[44] }, type := 3, pos := "stood.go:67", after := #[{ on := 2, ground := Ground.data }], guard := none }
def wi7_o4 : Oper := { dst := some 29, op := Op.binOp BinOp.sub 3 (Operand.tmp 26) (Operand.tmp 28) 3, type := 3, pos := "stood.go:67", after := #[{ on := 1, ground := Ground.data }, { on := 3, ground := Ground.data }], guard := none }
def wi7_o5 : Oper := { dst := some 8, op := Op.assign (Operand.tmp 29), type := 3, pos := "stood.go:67", after := #[{ on := 4, ground := Ground.data }, { on := 0, ground := Ground.phase }, { on := 1, ground := Ground.phase }, { on := 2, ground := Ground.phase }, { on := 3, ground := Ground.phase }, { on := 4, ground := Ground.phase }], guard := none }
def wi7_ops : Array Oper := #[wi7_o0, wi7_o1, wi7_o2, wi7_o3, wi7_o4, wi7_o5]
set_option maxRecDepth 100000 in
set_option maxHeartbeats 4000000 in
theorem wi7 {bx ln lc d : Nat} {la : Option Addr} {t : Nat × EnV} (a : Act) (w : World) (Q : Exit → Act → World → Prop) (zz : a.tmps.size = 46)
    (t5 : a.tmps.getD 5 undef = .slice la ln lc)
    (t7 : a.tmps.getD 7 undef = .pointer (some ⟨bx, 0, none⟩))
    (h0 : w.rangeAt bx 0 (sdC t)) (hd : ln + d = t.1) (hs : t.1 ≤ 9223372036854775800)
    (h : ∀ (a' : Act) (w' : World), w' = w → a' = ((((((a).put (some 25) (.pointer (some ⟨bx, 0 + 0, none⟩))).put (some 26) (.int .i64 (t.1 : Int))).put (some 27) (.slice la ln lc)).put (some 28) (.int .i64 (ln : Int))).put (some 29) (.int .i64 (d : Int))).put (some 8) (.int .i64 (d : Int)) → Q .normal a' w') :
    (Code.region 7 wi7_ops false).wp Tryd.prog Q a w := by
  refine z0 rfl ?_
  refine zv rfl (exec_fieldAt rfl (zi t7 rfl) (fg_100_0 _ _ _)) ?_
  refine zv rfl (exec_load rfl (zg zz rfl) (sd_at h0)) ?_
  refine zv rfl (exec_move rfl (zi t5 rfl)) ?_
  refine zv rfl (exec_len rfl (zg zz rfl) (len_en _ _ _ _ _)) ?_
  refine zv (v := .int .i64 (d : Int)) rfl (exec_subi rfl (zg zz rfl) (zg zz rfl) hd hs) ?_
  refine zv rfl (exec_assign rfl (zg zz rfl)) ?_
  exact ze rfl (h _ _ (rfl) rfl)
def wi8_o0 : Oper := { dst := some 30, op := Op.move (Operand.tmp 5), type := 44, pos := "stood.go:68", after := #[], guard := none }
def wi8_o1 : Oper := { dst := some 31, op := Op.move (Operand.tmp 0), type := 44, pos := "stood.go:68", after := #[], guard := none }
def wi8_o2 : Oper := { dst := some 32, op := Op.move (Operand.tmp 8), type := 3, pos := "stood.go:68", after := #[], guard := none }
def wi8_o3 : Oper := { dst := some 33, op := Op.slice 44 (Operand.tmp 31) none (some (Operand.tmp 32)) none, type := 44, pos := "stood.go:68", after := #[{ on := 1, ground := Ground.data }, { on := 2, ground := Ground.data }], guard := none }
def wi8_o4 : Oper := { dst := some 34, op := Op.call { callee := Callee.builtin Builtin.append, args := #[Operand.tmp 30, Operand.tmp 33], argTypes := #[44, 44] }, type := 44, pos := "stood.go:68", after := #[{ on := 0, ground := Ground.data }, { on := 3, ground := Ground.data }], guard := none }
def wi8_o5 : Oper := { dst := some 35, op := Op.fieldAddr 100 (Operand.tmp 7) 1, type := 0, pos := "stood.go:68", after := #[], guard := none }
def wi8_o6 : Oper := { dst := some 36, op := Op.load 65 (Operand.tmp 35), type := 65, pos := "stood.go:68", after := #[{ on := 5, ground := Ground.data }], guard := none }
def wi8_o7 : Oper := { dst := some 37, op := Op.buildSlice 44 1 #[(0, Operand.tmp 36)], type := 44, pos := "stood.go:68", after := #[{ on := 6, ground := Ground.data }], guard := none }
def wi8_o8 : Oper := { dst := some 38, op := Op.call { callee := Callee.builtin Builtin.append, args := #[Operand.tmp 34, Operand.tmp 37], argTypes := #[44, 44] }, type := 44, pos := "stood.go:68", after := #[{ on := 4, ground := Ground.data }, { on := 7, ground := Ground.data }, { on := 4, ground := Ground.chain }], guard := none }
def wi8_o9 : Oper := { dst := some 5, op := Op.assign (Operand.tmp 38), type := 44, pos := "stood.go:68", after := #[{ on := 8, ground := Ground.data }, { on := 8, ground := Ground.chain }, { on := 0, ground := Ground.phase }, { on := 1, ground := Ground.phase }, { on := 2, ground := Ground.phase }, { on := 3, ground := Ground.phase }, { on := 4, ground := Ground.phase }, { on := 5, ground := Ground.phase }, { on := 6, ground := Ground.phase }, { on := 7, ground := Ground.phase }, { on := 8, ground := Ground.phase }], guard := none }
def wi8_ops : Array Oper := #[wi8_o0, wi8_o1, wi8_o2, wi8_o3, wi8_o4, wi8_o5, wi8_o6, wi8_o7, wi8_o8, wi8_o9]
set_option maxRecDepth 100000 in
set_option maxHeartbeats 4000000 in
theorem wi8 {bx d : Nat} {t : Nat × EnV} {rv u pv v1 sv1 u1 v2 sv2 u2 : Value} {w1 w2 w3 y1 y2 y3 : World} (a : Act) (w : World) (Q : Exit → Act → World → Prop) (hsz : a.tmps.size = 46)
    (t0 : a.tmps.getD 0 undef = rv)
    (t5 : a.tmps.getD 5 undef = u)
    (t7 : a.tmps.getD 7 undef = .pointer (some ⟨bx, 0, none⟩))
    (t8 : a.tmps.getD 8 undef = .int .i64 (d : Int))
    (hx : RD.ok t) (h0 : w.drew.rangeAt bx 0 (sdC t)) (ES : ∀ W, (Instr.sliceAt 44 rv none (some (.int .i64 (d : Int))) none).run Tryd.prog W = .ok pv W) (EA1 : (Builtin.append_ #[44, 44] 44 #[u, pv]).run Tryd.prog w.drew = .ok v1 w1) (S1 : w1.rangeAt bx 0 (sdC t)) (EB1 : (Instr.buildSlice 44 1 #[(0, t.2.a)]).run Tryd.prog w1 = .ok sv1 w2) (S2 : w2.rangeAt bx 0 (sdC t)) (EC1 : (Builtin.append_ #[44, 44] 44 #[v1, sv1]).run Tryd.prog w2 = .ok u1 w3) (S5 : w3.rangeAt bx 0 (sdC t)) (EB2 : (Instr.buildSlice 44 1 #[(0, t.2.a)]).run Tryd.prog w.drew = .ok sv2 y1) (S3 : y1.rangeAt bx 0 (sdC t)) (EA2 : (Builtin.append_ #[44, 44] 44 #[u, pv]).run Tryd.prog y1 = .ok v2 y2) (S4 : y2.rangeAt bx 0 (sdC t)) (EC2 : (Builtin.append_ #[44, 44] 44 #[v2, sv2]).run Tryd.prog y2 = .ok u2 y3) (S6 : y3.rangeAt bx 0 (sdC t)) 
    (h1 : ∀ (a' : Act) (w' : World), w' = w3 → a' = ((((((((((a).put (some 30) (u)).put (some 31) (rv)).put (some 32) (.int .i64 (d : Int))).put (some 33) (pv)).put (some 35) (.pointer (some ⟨bx, 0 + 1, none⟩))).put (some 36) (t.2.a)).put (some 34) (v1)).put (some 37) (sv1)).put (some 38) (u1)).put (some 5) (u1) → Q .normal a' w')
    (h2 : ∀ (a' : Act) (w' : World), w' = y3 → a' = ((((((((((a).put (some 30) (u)).put (some 31) (rv)).put (some 32) (.int .i64 (d : Int))).put (some 33) (pv)).put (some 35) (.pointer (some ⟨bx, 0 + 1, none⟩))).put (some 36) (t.2.a)).put (some 37) (sv2)).put (some 34) (v2)).put (some 38) (u2)).put (some 5) (u2) → Q .normal a' w') :
    (Code.region 8 wi8_ops true).wp Tryd.prog Q a w := by
  refine wp_region_noPanic ?_
  refine wp_region_held_drew (S := fun w' => w'.rangeAt bx 0 (sdC t)) (by kernel_rfl) (h0) (fun hHeld => ?_)
  refine wpAnyH_take (i := 0) (oi := wi8_o0) (v := u) rfl (by kernel_rfl) (by kernel_rfl) (by kernel_rfl) (fun _ _ _ h => h) (Or.inl ⟨by rfl, fun w1 hw => exec_move rfl t5⟩) hHeld ?_
  change wpAnyH _ _ _ _ _ _ _ (a.put (some 30) (u)) _
  obtain ⟨a1, e1⟩ : ∃ act, act = a.put (some 30) (u) := ⟨_, rfl⟩
  rw [← e1] at h1 h2 ⊢
  have z1 := pz e1 hsz
  replace t0 := pk e1 t0 (by decide)
  replace t7 := pk e1 t7 (by decide)
  replace t8 := pk e1 t8 (by decide)
  clear t5
  have t30 := pq e1 hsz (by decide)
  clear e1 hsz
  refine wpAnyH_take (i := 1) (oi := wi8_o1) (v := rv) rfl (by kernel_rfl) (by kernel_rfl) (by kernel_rfl) (fun _ _ _ h => h) (Or.inl ⟨by rfl, fun w1 hw => exec_move rfl t0⟩) hHeld ?_
  change wpAnyH _ _ _ _ _ _ _ (a1.put (some 31) (rv)) _
  obtain ⟨a2, e2⟩ : ∃ act, act = a1.put (some 31) (rv) := ⟨_, rfl⟩
  rw [← e2] at h1 h2 ⊢
  have z2 := pz e2 z1
  replace t7 := pk e2 t7 (by decide)
  replace t8 := pk e2 t8 (by decide)
  replace t30 := pk e2 t30 (by decide)
  clear t0
  have t31 := pq e2 z1 (by decide)
  clear e2 z1
  refine wpAnyH_take (i := 2) (oi := wi8_o2) (v := .int .i64 (d : Int)) rfl (by kernel_rfl) (by kernel_rfl) (by kernel_rfl) (fun _ _ _ h => h) (Or.inl ⟨by rfl, fun w1 hw => exec_move rfl t8⟩) hHeld ?_
  change wpAnyH _ _ _ _ _ _ _ (a2.put (some 32) (.int .i64 (d : Int))) _
  obtain ⟨a3, e3⟩ : ∃ act, act = a2.put (some 32) (.int .i64 (d : Int)) := ⟨_, rfl⟩
  rw [← e3] at h1 h2 ⊢
  have z3 := pz e3 z2
  replace t7 := pk e3 t7 (by decide)
  replace t30 := pk e3 t30 (by decide)
  replace t31 := pk e3 t31 (by decide)
  clear t8
  have t32 := pq e3 z2 (by decide)
  clear e3 z2
  refine wpAnyH_take (i := 3) (oi := wi8_o3) (v := pv) rfl (by kernel_rfl) (by kernel_rfl) (by kernel_rfl) (fun _ _ _ h => h) (Or.inl ⟨by rfl, fun w1 hw => exec_sl0 rfl t31 t32 (ES _)⟩) hHeld ?_
  change wpAnyH _ _ _ _ _ _ _ (a3.put (some 33) (pv)) _
  obtain ⟨a4, e4⟩ : ∃ act, act = a3.put (some 33) (pv) := ⟨_, rfl⟩
  rw [← e4] at h1 h2 ⊢
  have z4 := pz e4 z3
  replace t7 := pk e4 t7 (by decide)
  replace t30 := pk e4 t30 (by decide)
  clear t31 t32
  have t33 := pq e4 z3 (by decide)
  clear e4 z3
  refine wpAnyH_take (i := 5) (oi := wi8_o5) (v := .pointer (some ⟨bx, 0 + 1, none⟩)) rfl (by kernel_rfl) (by kernel_rfl) (by kernel_rfl) (fun _ _ _ h => h) (Or.inl ⟨by rfl, fun w1 hw => exec_fieldAt rfl t7 (fg_100_1 _ _ _)⟩) hHeld ?_
  change wpAnyH _ _ _ _ _ _ _ (a4.put (some 35) (.pointer (some ⟨bx, 0 + 1, none⟩))) _
  obtain ⟨a5, e5⟩ : ∃ act, act = a4.put (some 35) (.pointer (some ⟨bx, 0 + 1, none⟩)) := ⟨_, rfl⟩
  rw [← e5] at h1 h2 ⊢
  have z5 := pz e5 z4
  replace t30 := pk e5 t30 (by decide)
  replace t33 := pk e5 t33 (by decide)
  clear t7
  have t35 := pq e5 z4 (by decide)
  clear e5 z4
  refine wpAnyH_take (i := 6) (oi := wi8_o6) (v := t.2.a) rfl (by kernel_rfl) (by kernel_rfl) (by kernel_rfl) (fun _ _ _ h => h) (Or.inl ⟨by rfl, fun w1 hw => exec_load rfl t35 (sd_en hx hw)⟩) hHeld ?_
  change wpAnyH _ _ _ _ _ _ _ (a5.put (some 36) (t.2.a)) _
  obtain ⟨a6, e6⟩ : ∃ act, act = a5.put (some 36) (t.2.a) := ⟨_, rfl⟩
  rw [← e6] at h1 h2 ⊢
  have z6 := pz e6 z5
  replace t30 := pk e6 t30 (by decide)
  replace t33 := pk e6 t33 (by decide)
  clear t35
  have t36 := pq e6 z5 (by decide)
  clear e6 z5
  refine wpAnyH_ready (rs := [4, 7]) (by kernel_rfl) (by simp) ?_
  refine AllReadyH.cons (o := wi8_o4) rfl (fun K hK => ?_) (AllReadyH.cons (o := wi8_o7) rfl (fun K hK => ?_) (AllReadyH.nil))
  · clear h2
    have X := exec_append (P := Tryd.prog) (a := a6) (o := wi8_o4) rfl t30 t33 EA1
    rw [if_pos (by rfl), Oper.wp, X]
    show K _ _
    clear X
    refine hK.out _ _ (S1) (fun hHeld => ?_)
    clear hK K
    change wpAnyH _ _ _ _ _ _ _ (a6.put (some 34) (v1)) _
    obtain ⟨a7, e7⟩ : ∃ act, act = a6.put (some 34) (v1) := ⟨_, rfl⟩
    rw [← e7] at h1 ⊢
    have z7 := pz e7 z6
    replace t36 := pk e7 t36 (by decide)
    clear t30 t33
    have t34 := pq e7 z6 (by decide)
    clear e7 z6
    refine wpAnyH_ready (rs := [7]) (by kernel_rfl) (by simp) ?_
    refine AllReadyH.cons (o := wi8_o7) rfl (fun K hK => ?_) AllReadyH.nil
    have X := exec_buildSlice (P := Tryd.prog) (a := a7) (o := wi8_o7) rfl t36 EB1
    rw [if_pos (by rfl), Oper.wp, X]
    show K _ _
    clear X
    refine hK.out _ _ (S2) (fun hHeld => ?_)
    clear hK K
    change wpAnyH _ _ _ _ _ _ _ (a7.put (some 37) (sv1)) _
    obtain ⟨a8, e8⟩ : ∃ act, act = a7.put (some 37) (sv1) := ⟨_, rfl⟩
    rw [← e8] at h1 ⊢
    have z8 := pz e8 z7
    replace t34 := pk e8 t34 (by decide)
    clear t36
    have t37 := pq e8 z7 (by decide)
    clear e8 z7
    refine wpAnyH_ready (rs := [8]) (by kernel_rfl) (by simp) ?_
    refine AllReadyH.cons (o := wi8_o8) rfl (fun K hK => ?_) AllReadyH.nil
    have X := exec_append (P := Tryd.prog) (a := a8) (o := wi8_o8) rfl t34 t37 EC1
    rw [if_pos (by rfl), Oper.wp, X]
    show K _ _
    clear X
    refine hK.out _ _ (S5) (fun hHeld => ?_)
    clear hK K
    change wpAnyH _ _ _ _ _ _ _ (a8.put (some 38) (u1)) _
    obtain ⟨a9, e9⟩ : ∃ act, act = a8.put (some 38) (u1) := ⟨_, rfl⟩
    rw [← e9] at h1 ⊢
    have z9 := pz e9 z8
    clear t34 t37
    have t38 := pq e9 z8 (by decide)
    clear e9 z8
    refine wpAnyH_take (i := 9) (oi := wi8_o9) (v := u1) rfl (by kernel_rfl) (by kernel_rfl) (by kernel_rfl) (fun _ _ _ h => h) (Or.inl ⟨by rfl, fun w1 hw => exec_assign rfl t38⟩) hHeld ?_
    change wpAnyH _ _ _ _ _ _ _ (a9.put (some 5) (u1)) _
    obtain ⟨a10, e10⟩ : ∃ act, act = a9.put (some 5) (u1) := ⟨_, rfl⟩
    rw [← e10] at h1 ⊢
    have z10 := pz e10 z9
    clear t38
    clear e10 z9
    exact wpAnyH_done (by kernel_rfl) (NoPanic.normal (h1 _ _ (rfl) rfl)) _
  · clear h1
    have X := exec_buildSlice (P := Tryd.prog) (a := a6) (o := wi8_o7) rfl t36 EB2
    rw [if_pos (by rfl), Oper.wp, X]
    show K _ _
    clear X
    refine hK.out _ _ (S3) (fun hHeld => ?_)
    clear hK K
    change wpAnyH _ _ _ _ _ _ _ (a6.put (some 37) (sv2)) _
    obtain ⟨a11, e11⟩ : ∃ act, act = a6.put (some 37) (sv2) := ⟨_, rfl⟩
    rw [← e11] at h2 ⊢
    have z11 := pz e11 z6
    replace t30 := pk e11 t30 (by decide)
    replace t33 := pk e11 t33 (by decide)
    clear t36
    have t37 := pq e11 z6 (by decide)
    clear e11 z6
    refine wpAnyH_ready (rs := [4]) (by kernel_rfl) (by simp) ?_
    refine AllReadyH.cons (o := wi8_o4) rfl (fun K hK => ?_) AllReadyH.nil
    have X := exec_append (P := Tryd.prog) (a := a11) (o := wi8_o4) rfl t30 t33 EA2
    rw [if_pos (by rfl), Oper.wp, X]
    show K _ _
    clear X
    refine hK.out _ _ (S4) (fun hHeld => ?_)
    clear hK K
    change wpAnyH _ _ _ _ _ _ _ (a11.put (some 34) (v2)) _
    obtain ⟨a12, e12⟩ : ∃ act, act = a11.put (some 34) (v2) := ⟨_, rfl⟩
    rw [← e12] at h2 ⊢
    have z12 := pz e12 z11
    replace t37 := pk e12 t37 (by decide)
    clear t30 t33
    have t34 := pq e12 z11 (by decide)
    clear e12 z11
    refine wpAnyH_ready (rs := [8]) (by kernel_rfl) (by simp) ?_
    refine AllReadyH.cons (o := wi8_o8) rfl (fun K hK => ?_) AllReadyH.nil
    have X := exec_append (P := Tryd.prog) (a := a12) (o := wi8_o8) rfl t34 t37 EC2
    rw [if_pos (by rfl), Oper.wp, X]
    show K _ _
    clear X
    refine hK.out _ _ (S6) (fun hHeld => ?_)
    clear hK K
    change wpAnyH _ _ _ _ _ _ _ (a12.put (some 38) (u2)) _
    obtain ⟨a13, e13⟩ : ∃ act, act = a12.put (some 38) (u2) := ⟨_, rfl⟩
    rw [← e13] at h2 ⊢
    have z13 := pz e13 z12
    clear t37 t34
    have t38 := pq e13 z12 (by decide)
    clear e13 z12
    refine wpAnyH_take (i := 9) (oi := wi8_o9) (v := u2) rfl (by kernel_rfl) (by kernel_rfl) (by kernel_rfl) (fun _ _ _ h => h) (Or.inl ⟨by rfl, fun w1 hw => exec_assign rfl t38⟩) hHeld ?_
    change wpAnyH _ _ _ _ _ _ _ (a13.put (some 5) (u2)) _
    obtain ⟨a14, e14⟩ : ∃ act, act = a13.put (some 5) (u2) := ⟨_, rfl⟩
    rw [← e14] at h2 ⊢
    have z14 := pz e14 z13
    clear t38
    clear e14 z13
    exact wpAnyH_done (by kernel_rfl) (NoPanic.normal (h2 _ _ (rfl) rfl)) _
def wi9_o0 : Oper := { dst := some 39, op := Op.move (Operand.tmp 0), type := 44, pos := "stood.go:69", after := #[], guard := none }
def wi9_o1 : Oper := { dst := some 40, op := Op.move (Operand.tmp 8), type := 3, pos := "stood.go:69", after := #[], guard := none }
def wi9_o2 : Oper := { dst := some 41, op := Op.slice 44 (Operand.tmp 39) (some (Operand.tmp 40)) none none, type := 44, pos := "stood.go:69", after := #[{ on := 0, ground := Ground.data }, { on := 1, ground := Ground.data }], guard := none }
def wi9_o3 : Oper := { dst := some 0, op := Op.assign (Operand.tmp 41), type := 44, pos := "stood.go:69", after := #[{ on := 2, ground := Ground.data }, { on := 0, ground := Ground.phase }, { on := 1, ground := Ground.phase }, { on := 2, ground := Ground.phase }], guard := none }
def wi9_ops : Array Oper := #[wi9_o0, wi9_o1, wi9_o2, wi9_o3]
set_option maxRecDepth 100000 in
set_option maxHeartbeats 4000000 in
theorem wi9 {d : Nat} {rv pv : Value} (a : Act) (w : World) (Q : Exit → Act → World → Prop) (zz : a.tmps.size = 46)
    (t0 : a.tmps.getD 0 undef = rv)
    (t8 : a.tmps.getD 8 undef = .int .i64 (d : Int))
    (ES : (Instr.sliceAt 44 rv (some (.int .i64 (d : Int))) none none).run Tryd.prog w = .ok pv w)
    (h : ∀ (a' : Act) (w' : World), w' = w → a' = ((((a).put (some 39) (rv)).put (some 40) (.int .i64 (d : Int))).put (some 41) (pv)).put (some 0) (pv) → Q .normal a' w') :
    (Code.region 9 wi9_ops false).wp Tryd.prog Q a w := by
  refine z0 rfl ?_
  refine zv rfl (exec_move rfl (zi t0 rfl)) ?_
  refine zv rfl (exec_move rfl (zi t8 rfl)) ?_
  refine zv (v := pv) rfl (exec_sl1 rfl (zg zz rfl) (zg zz rfl) ES) ?_
  refine zv rfl (exec_assign rfl (zg zz rfl)) ?_
  exact ze rfl (h _ _ (rfl) rfl)
def ch6_o0 : Oper := { dst := some 19, op := Op.indexAddr 83 (Operand.tmp 15) (Operand.tmp 17), type := 0, pos := "stood.go:54", after := #[], guard := none }
def ch6_o1 : Oper := { dst := some 20, op := Op.load 100 (Operand.tmp 19), type := 100, pos := "stood.go:54", after := #[{ on := 0, ground := Ground.data }], guard := none }
def ch6_o2 : Oper := { dst := some 8, op := Op.alloc 100, type := 0, pos := "stood.go:54", after := #[], guard := none }
def ch6_o3 : Oper := { dst := none, op := Op.store 100 (Operand.tmp 8) (Operand.tmp 20), type := 0, pos := "stood.go:54", after := #[{ on := 2, ground := Ground.data }, { on := 1, ground := Ground.data }, { on := 0, ground := Ground.phase }, { on := 1, ground := Ground.phase }, { on := 2, ground := Ground.phase }], guard := none }
def ch6_ops : Array Oper := #[ch6_o0, ch6_o1, ch6_o2, ch6_o3]
set_option maxRecDepth 100000 in
set_option maxHeartbeats 4000000 in
theorem ch6 {tb to m tc j : Nat} {t : Nat × EnV} (a : Act) (w : World) (Q : Exit → Act → World → Prop) (zz : a.tmps.size = 33)
    (t15 : a.tmps.getD 15 undef = .slice (some ⟨tb, to, none⟩) m tc)
    (t17 : a.tmps.getD 17 undef = .int .i64 (j : Int))
    (hx : RD.ok t) (hi : j < m) (hm : m ≤ 9223372036854775807) (h0 : w.rangeAt tb (to + 38 * j) (sdC t))
    (h : ∀ (a' : Act) (w' : World), w' = w.alloc (.cells (sdC t).toArray 100) → a' = (((a).put (some 19) (.pointer (some ⟨tb, to + 38 * j, none⟩))).put (some 20) (.agg (sdC t).toArray)).put (some 8) (.pointer (some ⟨w.heap.size, 0, none⟩)) → Q .normal a' w') :
    (Code.region 6 ch6_ops false).wp Tryd.prog Q a w := by
  refine z0 rfl ?_
  refine zv rfl (exec_indexAt rfl (zi t15 rfl) (zi t17 rfl) (ix_sd hi hm _)) ?_
  refine zv rfl (exec_load rfl (zg zz rfl) (ld_sd hx h0)) ?_
  refine zv (v := .pointer (some ⟨w.heap.size, 0, none⟩)) rfl (exec_alloc rfl (RowT.bx_zero RD_is w)) ?_
  refine zs rfl (exec_store rfl (zg zz rfl) (zg zz rfl) (RowT.bx_new RD_is w hx)) ?_
  exact ze rfl (h _ _ (rfl) rfl)
def ch7_o0 : Oper := { dst := some 21, op := Op.move (Operand.tmp 0), type := 44, pos := "stood.go:55", after := #[], guard := none }
def ch7_o1 : Oper := { dst := some 22, op := Op.fieldAddr 100 (Operand.tmp 8) 0, type := 0, pos := "stood.go:55", after := #[], guard := none }
def ch7_o2 : Oper := { dst := some 23, op := Op.load 3 (Operand.tmp 22), type := 3, pos := "stood.go:55", after := #[{ on := 1, ground := Ground.data }], guard := none }
def ch7_o3 : Oper := { dst := some 24, op := Op.move (Operand.tmp 2), type := 91, pos := "stood.go:55", after := #[], guard := none }
def ch7_o4 : Oper := { dst := some 25, op := Op.fieldAddr 100 (Operand.tmp 8) 1, type := 0, pos := "stood.go:55", after := #[], guard := none }
def ch7_o5 : Oper := { dst := some 26, op := Op.fieldAddr 65 (Operand.tmp 25) 1, type := 0, pos := "stood.go:55", after := #[{ on := 4, ground := Ground.data }], guard := none }
def ch7_o6 : Oper := { dst := some 27, op := Op.load 39 (Operand.tmp 26), type := 39, pos := "stood.go:55", after := #[{ on := 5, ground := Ground.data }], guard := none }
def ch7_o7 : Oper := { dst := some 28, op := Op.call { callee := Callee.value (Operand.tmp 24), args := #[Operand.tmp 27], argTypes := #[39] }, type := 39, pos := "stood.go:55", after := #[{ on := 3, ground := Ground.data }, { on := 6, ground := Ground.data }], guard := none }
def ch7_o8 : Oper := { dst := some 29, op := Op.indexAddr 44 (Operand.tmp 21) (Operand.tmp 23), type := 0, pos := "stood.go:55", after := #[{ on := 0, ground := Ground.data }, { on := 2, ground := Ground.data }, { on := 0, ground := Ground.phase }, { on := 1, ground := Ground.phase }, { on := 2, ground := Ground.phase }, { on := 3, ground := Ground.phase }, { on := 4, ground := Ground.phase }, { on := 5, ground := Ground.phase }, { on := 6, ground := Ground.phase }, { on := 7, ground := Ground.phase }], guard := none }
def ch7_o9 : Oper := { dst := some 30, op := Op.fieldAddr 65 (Operand.tmp 29) 1, type := 0, pos := "stood.go:55", after := #[{ on := 8, ground := Ground.data }, { on := 0, ground := Ground.phase }, { on := 1, ground := Ground.phase }, { on := 2, ground := Ground.phase }, { on := 3, ground := Ground.phase }, { on := 4, ground := Ground.phase }, { on := 5, ground := Ground.phase }, { on := 6, ground := Ground.phase }, { on := 7, ground := Ground.phase }], guard := none }
def ch7_o10 : Oper := { dst := none, op := Op.store 39 (Operand.tmp 30) (Operand.tmp 28), type := 0, pos := "stood.go:55", after := #[{ on := 9, ground := Ground.data }, { on := 7, ground := Ground.data }, { on := 7, ground := Ground.chain }, { on := 0, ground := Ground.phase }, { on := 1, ground := Ground.phase }, { on := 2, ground := Ground.phase }, { on := 3, ground := Ground.phase }, { on := 4, ground := Ground.phase }, { on := 5, ground := Ground.phase }, { on := 6, ground := Ground.phase }, { on := 7, ground := Ground.phase }], guard := none }
def ch7_ops : Array Oper := #[ch7_o0, ch7_o1, ch7_o2, ch7_o3, ch7_o4, ch7_o5, ch7_o6, ch7_o7, ch7_o8, ch7_o9, ch7_o10]
set_option maxRecDepth 100000 in
set_option maxHeartbeats 4000000 in
theorem ch7 {bx F eb eo n c : Nat} {caps : Array Value} {t : Nat × EnV} {x : VaV} (Fin : World → Prop) (a : Act) (w : World) (Q : Exit → Act → World → Prop) (zz : a.tmps.size = 33)
    (t0 : a.tmps.getD 0 undef = .slice (some ⟨eb, eo, none⟩) n c)
    (t2 : a.tmps.getD 2 undef = .func (.func F) #[] caps)
    (t8 : a.tmps.getD 8 undef = .pointer (some ⟨bx, 0, none⟩))
    (hx : RD.ok t) (hi : t.1 < n) (hm : n ≤ 9223372036854775807) (h0 : w.drew.rangeAt bx 0 (sdC t)) (EN : ∀ vs (W : World), (callFunc F vs).run Tryd.prog W = .ok (.enter F vs) W) (CF : Calls Tryd.prog F (#[t.2.v.v] ++ caps) w.drew fun e w' => e = .returned x.v ∧ w'.rangeAt bx 0 (sdC t) ∧ ∃ w2, (Instr.storeAt 39 (.pointer (some ⟨eb, eo + 37 * t.1 + 33, none⟩)) x.v).run Tryd.prog w' = .ok () w2 ∧ w2.rangeAt bx 0 (sdC t) ∧ Fin w2)
    (h : ∀ (a' : Act) (w' : World), Fin w' → a' = ((((((((((a).put (some 21) (.slice (some ⟨eb, eo, none⟩) n c)).put (some 22) (.pointer (some ⟨bx, 0 + 0, none⟩))).put (some 23) (.int .i64 (t.1 : Int))).put (some 24) (.func (.func F) #[] caps)).put (some 25) (.pointer (some ⟨bx, 0 + 1, none⟩))).put (some 26) (.pointer (some ⟨bx, 0 + 1 + 33, none⟩))).put (some 27) (t.2.v.v)).put (some 28) (x.v)).put (some 29) (.pointer (some ⟨eb, eo + 37 * t.1, none⟩))).put (some 30) (.pointer (some ⟨eb, eo + 37 * t.1 + 33, none⟩)) → Q .normal a' w') :
    (Code.region 7 ch7_ops true).wp Tryd.prog Q a w := by
  refine y0 (fun w' => w'.rangeAt bx 0 (sdC t)) (h0) (fun hHeld => ?_)
  refine yv 0 rfl rfl (fun w1 hw => exec_move rfl (zi t0 rfl)) hHeld ?_
  refine yv 1 rfl rfl (fun w1 hw => exec_fieldAt rfl (zi t8 rfl) (fg_100_0 _ _ _)) hHeld ?_
  refine yv 2 rfl rfl (fun w1 hw => exec_load rfl (zg zz rfl) (sd_at hw)) hHeld ?_
  refine yv 3 rfl rfl (fun w1 hw => exec_move rfl (zi t2 rfl)) hHeld ?_
  refine yv 4 rfl rfl (fun w1 hw => exec_fieldAt rfl (zi t8 rfl) (fg_100_1 _ _ _)) hHeld ?_
  refine yv 5 rfl rfl (fun w1 hw => exec_fieldAt rfl (zg zz rfl) (fg_65_1 _ _ _)) hHeld ?_
  refine yv 6 rfl rfl (fun w1 hw => exec_load rfl (zg zz rfl) (sd_va hx hw)) hHeld ?_
  refine yc 7 rfl rfl (exec_cv1 rfl (zg zz rfl) (zg zz rfl) EN) (CF) (fun e x7 hx => ?_)
  obtain ⟨rfl, S1, w2, E1, S2, HF⟩ := hx
  refine ⟨_, rfl, S1, fun hHeld => ?_⟩
  refine yv 8 rfl rfl (fun w1 hw => exec_indexAt rfl (zg zz rfl) (zg zz rfl) (ix_en hi hm _)) hHeld ?_
  refine yv 9 rfl rfl (fun w1 hw => exec_fieldAt rfl (zg zz rfl) (fg_65_1 _ _ _)) hHeld ?_
  refine ys 10 rfl rfl (exec_store rfl (zg zz rfl) (zg zz rfl) E1) (S2) (fun hHeld => ?_)
  exact ye rfl (h _ _ (HF) rfl)
end Go.Proofs.YtldlljobofnmmabDoor
