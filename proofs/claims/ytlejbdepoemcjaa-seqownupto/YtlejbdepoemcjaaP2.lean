import Derived.Test.YtlejbdepoemcjaaZr
import Derived.Test.YtlejbdepoemcjaaP1
import Derived.Test.YtlejbdepoemcjaaP0
import Derived.Test.YtlejbdepoemcjaaXe
set_option maxRecDepth 100000
set_option maxHeartbeats 4000000
namespace Go.Proofs.Ytlejbdepoemcjaa
open Go.RowKit Sq
set_option linter.unusedVariables false
set_option linter.unusedSimpArgs false
theorem ix_el0 {b m c i : Nat} (hi : i < m) (hm : m ≤ 1400000000001) (W : World) : (Instr.indexAt 93 (.slice (some ⟨b, 0, none⟩) m c) (.int .i64 (i : Int))).run Try.prog W = .ok (.pointer (some ⟨b, 67 * i, none⟩)) W := by
  have := ix_el (b := b) (o := 0) (c := c) hi hm W
  rwa [Nat.zero_add] at this
theorem ex_dec {w : World} {a : Act} {o : Oper} {x y : Operand} {n : Nat} (ho : o.op = .binOp .sub 3 x y 3) (hx : a.eval x = .int .i64 ((n + 1 : Nat) : Int)) (hy : a.eval y = .int .i64 1) (h : n ≤ 1400000000001) : (execOp a.eval o).run Try.prog w = .ok (.value (.int .i64 (n : Int))) w := by
  have := ex_sub (w := w) ho hx hy ⟨by omega, by omega⟩
  rw [this, show ((n + 1 : Nat) : Int) - 1 = (n : Int) by omega]
theorem build_elt0 (w : World) (s : Bool) (a0 a1 a2 a3 a4 a5 a6 a7 a8 a9 a10 a11 a12 a13 a14 a15 a16 a17 a18 a19 a20 a21 a22 a23 a24 a25 a26 a27 a28 a29 a30 a31 a32 b0 b1 b2 b3 b4 b5 b6 b7 b8 b9 b10 b11 b12 b13 b14 b15 b16 b17 b18 b19 b20 b21 b22 b23 b24 b25 b26 b27 b28 b29 b30 b31 b32 : Value) : (Instr.build 100 #[(0, .agg [a0, a1, a2, a3, a4, a5, a6, a7, a8, a9, a10, a11, a12, a13, a14, a15, a16, a17, a18, a19, a20, a21, a22, a23, a24, a25, a26, a27, a28, a29, a30, a31, a32].toArray), (1, .agg [b0, b1, b2, b3, b4, b5, b6, b7, b8, b9, b10, b11, b12, b13, b14, b15, b16, b17, b18, b19, b20, b21, b22, b23, b24, b25, b26, b27, b28, b29, b30, b31, b32].toArray), (2, .bool s)]).run Try.prog w = .ok (.agg ([a0, a1, a2, a3, a4, a5, a6, a7, a8, a9, a10, a11, a12, a13, a14, a15, a16, a17, a18, a19, a20, a21, a22, a23, a24, a25, a26, a27, a28, a29, a30, a31, a32] ++ ([b0, b1, b2, b3, b4, b5, b6, b7, b8, b9, b10, b11, b12, b13, b14, b15, b16, b17, b18, b19, b20, b21, b22, b23, b24, b25, b26, b27, b28, b29, b30, b31, b32] ++ [Value.bool s])).toArray) w := by kernel_rfl
theorem build_elt (w : World) {p q : IdK} (hp : p.ok) (hq : q.ok) (s : Bool) : (Instr.build 100 #[(0, p.v), (1, q.v), (2, .bool s)]).run Try.prog w = .ok (.agg (Elt.c ⟨p, q, s⟩).toArray) w := by
  have h := IdK.len hp
  have h2 := IdK.len hq
  unfold Elt.c IdK.v
  simp only
  generalize p.c = l at *
  generalize q.c = m at *
  match l, h, m, h2 with
  | a0 :: a1 :: a2 :: a3 :: a4 :: a5 :: a6 :: a7 :: a8 :: a9 :: a10 :: a11 :: a12 :: a13 :: a14 :: a15 :: a16 :: a17 :: a18 :: a19 :: a20 :: a21 :: a22 :: a23 :: a24 :: a25 :: a26 :: a27 :: a28 :: a29 :: a30 :: a31 :: a32 :: [], _, b0 :: b1 :: b2 :: b3 :: b4 :: b5 :: b6 :: b7 :: b8 :: b9 :: b10 :: b11 :: b12 :: b13 :: b14 :: b15 :: b16 :: b17 :: b18 :: b19 :: b20 :: b21 :: b22 :: b23 :: b24 :: b25 :: b26 :: b27 :: b28 :: b29 :: b30 :: b31 :: b32 :: [], _ => exact build_elt0 w s a0 a1 a2 a3 a4 a5 a6 a7 a8 a9 a10 a11 a12 a13 a14 a15 a16 a17 a18 a19 a20 a21 a22 a23 a24 a25 a26 a27 a28 a29 a30 a31 a32 b0 b1 b2 b3 b4 b5 b6 b7 b8 b9 b10 b11 b12 b13 b14 b15 b16 b17 b18 b19 b20 b21 b22 b23 b24 b25 b26 b27 b28 b29 b30 b31 b32
theorem ex_elt {w : World} {a : Act} {o : Oper} {x y z : Operand} {p q : IdK} {s : Bool} (ho : o.op = .build 100 #[(0, x), (1, y), (2, z)]) (hx : a.eval x = p.v) (hy : a.eval y = q.v) (hz : a.eval z = .bool s) (hp : p.ok) (hq : q.ok) : (execOp a.eval o).run Try.prog w = .ok (.value (.agg (Elt.c ⟨p, q, s⟩).toArray)) w :=
  exec_build ho (by simp [hx, hy, hz]) (build_elt w hp hq s)
def dfin3_o0 : Oper := ⟨some 8, .move (.tmp 5), 3, "ref.go:33", #[], none⟩
def dfin3_o1 : Oper := ⟨some 9, .move (.tmp 0), 26, "ref.go:33", #[], none⟩
def dfin3_o2 : Oper := ⟨some 10, .nilCheck (.tmp 9), 0, "ref.go:33", #[⟨1, .data⟩], none⟩
def dfin3_o3 : Oper := ⟨some 11, .fieldAddr 95 (.tmp 10) 0, 0, "ref.go:33", #[⟨2, .data⟩], none⟩
def dfin3_o4 : Oper := ⟨some 12, .load 93 (.tmp 11), 93, "ref.go:33", #[⟨3, .data⟩], none⟩
def dfin3_o5 : Oper := ⟨some 13, .call { callee := Callee.builtin Builtin.len, args := #[.tmp 12], argTypes := #[93] }, 3, "ref.go:33", #[⟨4, .data⟩], none⟩
def dfin3_o6 : Oper := ⟨some 14, .binOp BinOp.lss 3 (.tmp 8) (.tmp 13) 3, 4, "ref.go:33", #[⟨0, .data⟩, ⟨5, .data⟩], none⟩
def dfin3_ops : Array Oper := #[dfin3_o0, dfin3_o1, dfin3_o2, dfin3_o3, dfin3_o4, dfin3_o5, dfin3_o6]
theorem dfin3 {d i n ec : Nat} {ea : Option Addr} {g : Bool} (a : Act) (w : World) (Q : Exit → Act → World → Prop) (zz : a.tmps.size = 28)
    (t0 : a.tmps.getD 0 undef = .pointer (some ⟨d, 0, none⟩))
    (t5 : a.tmps.getD 5 undef = .int .i64 (i : Int))
    (h0 : w.heap[d]? = some (.cells #[.slice ea n ec] 95 (0, 0))) (hg : decide ((i : Int) < (n : Int)) = g)
    (h : ∀ (a' : Act) (w' : World), w' = w → a' = (((((((a).put (some 8) (.int .i64 (i : Int))).put (some 9) (.pointer (some ⟨d, 0, none⟩))).put (some 10) (.pointer (some ⟨d, 0, none⟩))).put (some 11) (.pointer (some ⟨d, 0 + 0, none⟩))).put (some 12) (.slice ea n ec)).put (some 13) (.int .i64 (n : Int))).put (some 14) (.bool g) → Q .normal a' w') :
    (Code.region 3 dfin3_ops false).wp Try.prog Q a w := by
  refine z0 rfl ?_
  refine zv rfl (exec_move rfl (zi t5 rfl)) ?_
  refine zv rfl (exec_move rfl (zi t0 rfl)) ?_
  refine zv rfl (exec_nilCheck rfl (zg zz rfl)) ?_
  refine zv rfl (exec_fieldAt rfl (zg zz rfl) (fg_95_0 _ _ _)) ?_
  refine zv rfl (exec_load rfl (zg zz rfl) (ld_all h0 rfl)) ?_
  refine zv rfl (exec_len rfl (zg zz rfl) (len_els _ _ _ _ _)) ?_
  refine zv (v := .bool g) rfl (ex_lss rfl (zg zz rfl) (zg zz rfl) hg) ?_
  exact ze rfl (h _ _ (rfl) rfl)
def dfin5_o0 : Oper := ⟨some 17, .move (.tmp 0), 26, "ref.go:34", #[], none⟩
def dfin5_o1 : Oper := ⟨some 18, .nilCheck (.tmp 17), 0, "ref.go:34", #[⟨0, .data⟩], none⟩
def dfin5_o2 : Oper := ⟨some 19, .fieldAddr 95 (.tmp 18) 0, 0, "ref.go:34", #[⟨1, .data⟩], none⟩
def dfin5_o3 : Oper := ⟨some 20, .load 93 (.tmp 19), 93, "ref.go:34", #[⟨2, .data⟩], none⟩
def dfin5_o4 : Oper := ⟨some 21, .move (.tmp 5), 3, "ref.go:34", #[], none⟩
def dfin5_o5 : Oper := ⟨some 22, .indexAddr 93 (.tmp 20) (.tmp 21), 0, "ref.go:34", #[⟨3, .data⟩, ⟨4, .data⟩], none⟩
def dfin5_o6 : Oper := ⟨some 23, .fieldAddr 100 (.tmp 22) 0, 0, "ref.go:34", #[⟨5, .data⟩], none⟩
def dfin5_o7 : Oper := ⟨some 24, .load 32 (.tmp 23), 32, "ref.go:34", #[⟨6, .data⟩], none⟩
def dfin5_o8 : Oper := ⟨some 25, .load 32 (.tmp 3), 32, "ref.go:34", #[], none⟩
def dfin5_o9 : Oper := ⟨some 26, .binOp BinOp.eql 32 (.tmp 24) (.tmp 25) 32, 4, "ref.go:34", #[⟨7, .data⟩, ⟨8, .data⟩], none⟩
def dfin5_ops : Array Oper := #[dfin5_o0, dfin5_o1, dfin5_o2, dfin5_o3, dfin5_o4, dfin5_o5, dfin5_o6, dfin5_o7, dfin5_o8, dfin5_o9]
theorem dfin5 {d eb eo n ec i : Nat} {x : Elt} {kb : Nat} {k : IdK} {g : Bool} (a : Act) (w : World) (Q : Exit → Act → World → Prop) (zz : a.tmps.size = 28)
    (t0 : a.tmps.getD 0 undef = .pointer (some ⟨d, 0, none⟩))
    (t3 : a.tmps.getD 3 undef = .pointer (some ⟨kb, 0, none⟩))
    (t5 : a.tmps.getD 5 undef = .int .i64 (i : Int))
    (hx : x.wf) (hi : i < n) (hn : n ≤ 1400000000001) (hk : k.ok) (he : decide (x.id = k) = g) (h0 : w.drew.heap[d]? = some (.cells #[.slice (some ⟨eb, eo, none⟩) n ec] 95 (0, 0))) (h1 : w.drew.rangeAt eb (eo + 67 * i) x.c) (h2 : IdAt w.drew kb k)
    (h : ∀ (a' : Act) (w' : World), w' = w.drew → a' = ((((((((((a).put (some 17) (.pointer (some ⟨d, 0, none⟩))).put (some 18) (.pointer (some ⟨d, 0, none⟩))).put (some 19) (.pointer (some ⟨d, 0 + 0, none⟩))).put (some 20) (.slice (some ⟨eb, eo, none⟩) n ec)).put (some 21) (.int .i64 (i : Int))).put (some 22) (.pointer (some ⟨eb, eo + 67 * i, none⟩))).put (some 23) (.pointer (some ⟨eb, eo + 67 * i + 0, none⟩))).put (some 24) (x.id.v)).put (some 25) (k.v)).put (some 26) (.bool g) → Q .normal a' w') :
    (Code.region 5 dfin5_ops true).wp Try.prog Q a w := by
  refine y0 (fun w' => w' = w.drew) (rfl) (fun hHeld => ?_)
  refine yv 0 rfl rfl (fun w1 hw => exec_move rfl (zi t0 rfl)) hHeld ?_
  refine yv 1 rfl rfl (fun w1 hw => exec_nilCheck rfl (zg zz rfl)) hHeld ?_
  refine yv 2 rfl rfl (fun w1 hw => exec_fieldAt rfl (zg zz rfl) (fg_95_0 _ _ _)) hHeld ?_
  refine yv 3 rfl rfl (fun w1 hw => exec_load rfl (zg zz rfl) (ld_all (by rw [hw]; exact h0) rfl)) hHeld ?_
  refine yv 4 rfl rfl (fun w1 hw => exec_move rfl (zi t5 rfl)) hHeld ?_
  refine yv 5 rfl rfl (fun w1 hw => exec_indexAt rfl (zg zz rfl) (zg zz rfl) (ix_el hi hn _)) hHeld ?_
  refine yv 6 rfl rfl (fun w1 hw => exec_fieldAt rfl (zg zz rfl) (fg_100_0 _ _ _)) hHeld ?_
  refine yv 7 rfl rfl (fun w1 hw => exec_load rfl (zg zz rfl) (el_id hx (by rw [hw]; exact h1))) hHeld ?_
  refine yv 8 rfl rfl (fun w1 hw => exec_load rfl (zi t3 rfl) (load_id hk (by rw [hw]; exact h2))) hHeld ?_
  refine yv (v := .bool g) 9 rfl rfl (fun w1 hw => ex_eqlI rfl (zg zz rfl) (zg zz rfl) hx.1 hk he) hHeld ?_
  exact ye rfl (h _ _ (hHeld) rfl)
def drow5_o0 : Oper := ⟨some 11, .move (.tmp 4), 3, "ref.go:98", #[], none⟩
def drow5_o1 : Oper := ⟨some 12, .move (.tmp 0), 26, "ref.go:98", #[], none⟩
def drow5_o2 : Oper := ⟨some 13, .nilCheck (.tmp 12), 0, "ref.go:98", #[⟨1, .data⟩], none⟩
def drow5_o3 : Oper := ⟨some 14, .fieldAddr 95 (.tmp 13) 0, 0, "ref.go:98", #[⟨2, .data⟩], none⟩
def drow5_o4 : Oper := ⟨some 15, .load 93 (.tmp 14), 93, "ref.go:98", #[⟨3, .data⟩], none⟩
def drow5_o5 : Oper := ⟨some 16, .call { callee := Callee.builtin Builtin.len, args := #[.tmp 15], argTypes := #[93] }, 3, "ref.go:98", #[⟨4, .data⟩], none⟩
def drow5_o6 : Oper := ⟨some 17, .binOp BinOp.lss 3 (.tmp 11) (.tmp 16) 3, 4, "ref.go:98", #[⟨0, .data⟩, ⟨5, .data⟩], none⟩
def drow5_ops : Array Oper := #[drow5_o0, drow5_o1, drow5_o2, drow5_o3, drow5_o4, drow5_o5, drow5_o6]
theorem drow5 {d i n ec : Nat} {ea : Option Addr} {g : Bool} (a : Act) (w : World) (Q : Exit → Act → World → Prop) (zz : a.tmps.size = 73)
    (t0 : a.tmps.getD 0 undef = .pointer (some ⟨d, 0, none⟩))
    (t4 : a.tmps.getD 4 undef = .int .i64 (i : Int))
    (h0 : w.heap[d]? = some (.cells #[.slice ea n ec] 95 (0, 0))) (hg : decide ((i : Int) < (n : Int)) = g)
    (h : ∀ (a' : Act) (w' : World), w' = w → a' = (((((((a).put (some 11) (.int .i64 (i : Int))).put (some 12) (.pointer (some ⟨d, 0, none⟩))).put (some 13) (.pointer (some ⟨d, 0, none⟩))).put (some 14) (.pointer (some ⟨d, 0 + 0, none⟩))).put (some 15) (.slice ea n ec)).put (some 16) (.int .i64 (n : Int))).put (some 17) (.bool g) → Q .normal a' w') :
    (Code.region 5 drow5_ops false).wp Try.prog Q a w := by
  refine z0 rfl ?_
  refine zv rfl (exec_move rfl (zi t4 rfl)) ?_
  refine zv rfl (exec_move rfl (zi t0 rfl)) ?_
  refine zv rfl (exec_nilCheck rfl (zg zz rfl)) ?_
  refine zv rfl (exec_fieldAt rfl (zg zz rfl) (fg_95_0 _ _ _)) ?_
  refine zv rfl (exec_load rfl (zg zz rfl) (ld_all h0 rfl)) ?_
  refine zv rfl (exec_len rfl (zg zz rfl) (len_els _ _ _ _ _)) ?_
  refine zv (v := .bool g) rfl (ex_lss rfl (zg zz rfl) (zg zz rfl) hg) ?_
  exact ze rfl (h _ _ (rfl) rfl)
def drow11_o0 : Oper := ⟨some 26, .move (.tmp 3), 93, "ref.go:101", #[], none⟩
def drow11_o1 : Oper := ⟨some 27, .move (.tmp 6), 3, "ref.go:101", #[], none⟩
def drow11_o2 : Oper := ⟨some 28, .indexAddr 93 (.tmp 26) (.tmp 27), 0, "ref.go:101", #[⟨0, .data⟩, ⟨1, .data⟩], none⟩
def drow11_o3 : Oper := ⟨some 29, .fieldAddr 100 (.tmp 28) 0, 0, "ref.go:101", #[⟨2, .data⟩], none⟩
def drow11_o4 : Oper := ⟨some 30, .load 32 (.tmp 29), 32, "ref.go:101", #[⟨3, .data⟩], none⟩
def drow11_o5 : Oper := ⟨some 31, .move (.tmp 0), 26, "ref.go:101", #[], none⟩
def drow11_o6 : Oper := ⟨some 32, .nilCheck (.tmp 31), 0, "ref.go:101", #[⟨5, .data⟩], none⟩
def drow11_o7 : Oper := ⟨some 33, .fieldAddr 95 (.tmp 32) 0, 0, "ref.go:101", #[⟨6, .data⟩], none⟩
def drow11_o8 : Oper := ⟨some 34, .load 93 (.tmp 33), 93, "ref.go:101", #[⟨7, .data⟩], none⟩
def drow11_o9 : Oper := ⟨some 35, .move (.tmp 4), 3, "ref.go:101", #[], none⟩
def drow11_o10 : Oper := ⟨some 36, .indexAddr 93 (.tmp 34) (.tmp 35), 0, "ref.go:101", #[⟨8, .data⟩, ⟨9, .data⟩], none⟩
def drow11_o11 : Oper := ⟨some 37, .fieldAddr 100 (.tmp 36) 1, 0, "ref.go:101", #[⟨10, .data⟩], none⟩
def drow11_o12 : Oper := ⟨some 38, .load 32 (.tmp 37), 32, "ref.go:101", #[⟨11, .data⟩], none⟩
def drow11_o13 : Oper := ⟨some 39, .binOp BinOp.eql 32 (.tmp 30) (.tmp 38) 32, 4, "ref.go:101", #[⟨4, .data⟩, ⟨12, .data⟩], none⟩
def drow11_ops : Array Oper := #[drow11_o0, drow11_o1, drow11_o2, drow11_o3, drow11_o4, drow11_o5, drow11_o6, drow11_o7, drow11_o8, drow11_o9, drow11_o10, drow11_o11, drow11_o12, drow11_o13]
theorem drow11 {d eb eo n ec i : Nat} {x : Elt} {lb q lc j : Nat} {y : Elt} {g : Bool} (a : Act) (w : World) (Q : Exit → Act → World → Prop) (zz : a.tmps.size = 73)
    (t3 : a.tmps.getD 3 undef = .slice (some ⟨lb, 0, none⟩) q lc)
    (t6 : a.tmps.getD 6 undef = .int .i64 (j : Int))
    (t0 : a.tmps.getD 0 undef = .pointer (some ⟨d, 0, none⟩))
    (t4 : a.tmps.getD 4 undef = .int .i64 (i : Int))
    (hx : x.wf) (hi : i < n) (hn : n ≤ 1400000000001) (hy : y.wf) (hj : j < q) (hq : q ≤ 1400000000001) (he : decide (y.id = x.bh) = g) (h0 : w.drew.heap[d]? = some (.cells #[.slice (some ⟨eb, eo, none⟩) n ec] 95 (0, 0))) (h1 : w.drew.rangeAt eb (eo + 67 * i) x.c) (h2 : w.drew.rangeAt lb (67 * j) y.c)
    (h : ∀ (a' : Act) (w' : World), w' = w.drew → a' = ((((((((((((((a).put (some 26) (.slice (some ⟨lb, 0, none⟩) q lc)).put (some 27) (.int .i64 (j : Int))).put (some 28) (.pointer (some ⟨lb, 67 * j, none⟩))).put (some 29) (.pointer (some ⟨lb, 67 * j + 0, none⟩))).put (some 30) (y.id.v)).put (some 31) (.pointer (some ⟨d, 0, none⟩))).put (some 32) (.pointer (some ⟨d, 0, none⟩))).put (some 33) (.pointer (some ⟨d, 0 + 0, none⟩))).put (some 34) (.slice (some ⟨eb, eo, none⟩) n ec)).put (some 35) (.int .i64 (i : Int))).put (some 36) (.pointer (some ⟨eb, eo + 67 * i, none⟩))).put (some 37) (.pointer (some ⟨eb, eo + 67 * i + 33, none⟩))).put (some 38) (x.bh.v)).put (some 39) (.bool g) → Q .normal a' w') :
    (Code.region 11 drow11_ops true).wp Try.prog Q a w := by
  refine y0 (fun w' => w' = w.drew) (rfl) (fun hHeld => ?_)
  refine yv 0 rfl rfl (fun w1 hw => exec_move rfl (zi t3 rfl)) hHeld ?_
  refine yv 1 rfl rfl (fun w1 hw => exec_move rfl (zi t6 rfl)) hHeld ?_
  refine yv 2 rfl rfl (fun w1 hw => exec_indexAt rfl (zg zz rfl) (zg zz rfl) (ix_el0 hj hq _)) hHeld ?_
  refine yv 3 rfl rfl (fun w1 hw => exec_fieldAt rfl (zg zz rfl) (fg_100_0 _ _ _)) hHeld ?_
  refine yv 4 rfl rfl (fun w1 hw => exec_load rfl (zg zz rfl) (el_id hy (by rw [hw]; exact h2))) hHeld ?_
  refine yv 5 rfl rfl (fun w1 hw => exec_move rfl (zi t0 rfl)) hHeld ?_
  refine yv 6 rfl rfl (fun w1 hw => exec_nilCheck rfl (zg zz rfl)) hHeld ?_
  refine yv 7 rfl rfl (fun w1 hw => exec_fieldAt rfl (zg zz rfl) (fg_95_0 _ _ _)) hHeld ?_
  refine yv 8 rfl rfl (fun w1 hw => exec_load rfl (zg zz rfl) (ld_all (by rw [hw]; exact h0) rfl)) hHeld ?_
  refine yv 9 rfl rfl (fun w1 hw => exec_move rfl (zi t4 rfl)) hHeld ?_
  refine yv 10 rfl rfl (fun w1 hw => exec_indexAt rfl (zg zz rfl) (zg zz rfl) (ix_el hi hn _)) hHeld ?_
  refine yv 11 rfl rfl (fun w1 hw => exec_fieldAt rfl (zg zz rfl) (fg_100_1 _ _ _)) hHeld ?_
  refine yv 12 rfl rfl (fun w1 hw => exec_load rfl (zg zz rfl) (el_bh hx (by rw [hw]; exact h1))) hHeld ?_
  refine yv (v := .bool g) 13 rfl rfl (fun w1 hw => ex_eqlI rfl (zg zz rfl) (zg zz rfl) hy.1 hx.2 he) hHeld ?_
  exact ye rfl (h _ _ (hHeld) rfl)
def drow13_o0 : Oper := ⟨some 42, .move (.tmp 3), 93, "ref.go:105", #[], none⟩
def drow13_o1 : Oper := ⟨some 43, .build 100 #[], 100, "ref.go:105", #[], none⟩
def drow13_o2 : Oper := ⟨some 44, .buildSlice 93 1 #[(0, .tmp 43)], 93, "ref.go:105", #[⟨1, .data⟩], none⟩
def drow13_o3 : Oper := ⟨some 45, .call { callee := Callee.builtin Builtin.append, args := #[.tmp 42, .tmp 44], argTypes := #[93, 93] }, 93, "ref.go:105", #[⟨0, .data⟩, ⟨2, .data⟩], none⟩
def drow13_o4 : Oper := ⟨some 3, .assign (.tmp 45), 93, "ref.go:105", #[⟨3, .data⟩, ⟨3, .chain⟩, ⟨0, .phase⟩, ⟨1, .phase⟩, ⟨2, .phase⟩, ⟨3, .phase⟩], none⟩
def drow13_ops : Array Oper := #[drow13_o0, drow13_o1, drow13_o2, drow13_o3, drow13_o4]
theorem drow13 {lv sv v2 : Value} {w1 w2 : World} (a : Act) (w : World) (Q : Exit → Act → World → Prop) (zz : a.tmps.size = 73)
    (t3 : a.tmps.getD 3 undef = lv)
    (E1 : (Instr.buildSlice 93 1 #[(0, .agg zElt.c.toArray)]).run Try.prog w = .ok sv w1) (E2 : (Builtin.append_ #[93, 93] 93 #[lv, sv]).run Try.prog w1 = .ok v2 w2)
    (h : ∀ (a' : Act) (w' : World), w' = w2 → a' = (((((a).put (some 42) (lv)).put (some 43) (.agg zElt.c.toArray)).put (some 44) (sv)).put (some 45) (v2)).put (some 3) (v2) → Q .normal a' w') :
    (Code.region 13 drow13_ops false).wp Try.prog Q a w := by
  refine z0 rfl ?_
  refine zv rfl (exec_move rfl (zi t3 rfl)) ?_
  refine zv rfl (exec_build0 rfl (build_elz _)) ?_
  refine zv (v := sv) rfl (exec_buildSlice rfl (zg zz rfl) E1) ?_
  refine zv (v := v2) rfl (exec_append rfl (zg zz rfl) (zg zz rfl) E2) ?_
  refine zv rfl (exec_assign rfl (zg zz rfl)) ?_
  exact ze rfl (h _ _ (rfl) rfl)
def drow17_o0 : Oper := ⟨some 54, .move (.tmp 3), 93, "ref.go:107", #[], none⟩
def drow17_o1 : Oper := ⟨some 55, .move (.tmp 7), 3, "ref.go:107", #[], none⟩
def drow17_o2 : Oper := ⟨some 56, .move (.tmp 3), 93, "ref.go:107", #[], none⟩
def drow17_o3 : Oper := ⟨some 57, .move (.tmp 7), 3, "ref.go:107", #[], none⟩
def drow17_o4 : Oper := ⟨some 58, .binOp BinOp.sub 3 (.tmp 57) (Operand.const (Value.int IntKind.i64 1)) 3, 3, "ref.go:107", #[⟨3, .data⟩], none⟩
def drow17_o5 : Oper := ⟨some 59, .indexAddr 93 (.tmp 56) (.tmp 58), 0, "ref.go:107", #[⟨2, .data⟩, ⟨4, .data⟩], none⟩
def drow17_o6 : Oper := ⟨some 60, .load 100 (.tmp 59), 100, "ref.go:107", #[⟨5, .data⟩], none⟩
def drow17_o7 : Oper := ⟨some 61, .indexAddr 93 (.tmp 54) (.tmp 55), 0, "ref.go:107", #[⟨0, .data⟩, ⟨1, .data⟩, ⟨0, .phase⟩, ⟨1, .phase⟩, ⟨2, .phase⟩, ⟨3, .phase⟩, ⟨4, .phase⟩, ⟨5, .phase⟩, ⟨6, .phase⟩], none⟩
def drow17_o8 : Oper := ⟨none, .store 100 (.tmp 61) (.tmp 60), 0, "ref.go:107", #[⟨7, .data⟩, ⟨6, .data⟩, ⟨0, .phase⟩, ⟨1, .phase⟩, ⟨2, .phase⟩, ⟨3, .phase⟩, ⟨4, .phase⟩, ⟨5, .phase⟩, ⟨6, .phase⟩], none⟩
def drow17_ops : Array Oper := #[drow17_o0, drow17_o1, drow17_o2, drow17_o3, drow17_o4, drow17_o5, drow17_o6, drow17_o7, drow17_o8]
theorem drow17 {lb q lc j : Nat} {y : Elt} {w2 : World} (a : Act) (w : World) (Q : Exit → Act → World → Prop) (zz : a.tmps.size = 73)
    (t3 : a.tmps.getD 3 undef = .slice (some ⟨lb, 0, none⟩) q lc)
    (t7 : a.tmps.getD 7 undef = .int .i64 ((j + 1 : Nat) : Int))
    (hy : y.wf) (hj : j + 1 < q) (hq : q ≤ 1400000000001) (h2 : w.rangeAt lb (67 * j) y.c) (E1 : (Instr.storeAt 100 (.pointer (some ⟨lb, 67 * (j + 1), none⟩)) (.agg y.c.toArray)).run Try.prog w = .ok () w2)
    (h : ∀ (a' : Act) (w' : World), w' = w2 → a' = ((((((((a).put (some 54) (.slice (some ⟨lb, 0, none⟩) q lc)).put (some 55) (.int .i64 ((j + 1 : Nat) : Int))).put (some 56) (.slice (some ⟨lb, 0, none⟩) q lc)).put (some 57) (.int .i64 ((j + 1 : Nat) : Int))).put (some 58) (.int .i64 (j : Int))).put (some 59) (.pointer (some ⟨lb, 67 * j, none⟩))).put (some 60) (.agg y.c.toArray)).put (some 61) (.pointer (some ⟨lb, 67 * (j + 1), none⟩)) → Q .normal a' w') :
    (Code.region 17 drow17_ops false).wp Try.prog Q a w := by
  refine z0 rfl ?_
  refine zv rfl (exec_move rfl (zi t3 rfl)) ?_
  refine zv rfl (exec_move rfl (zi t7 rfl)) ?_
  refine zv rfl (exec_move rfl (zi t3 rfl)) ?_
  refine zv rfl (exec_move rfl (zi t7 rfl)) ?_
  refine zv (v := .int .i64 (j : Int)) rfl (ex_dec rfl (zg zz rfl) rfl (by omega)) ?_
  refine zv rfl (exec_indexAt rfl (zg zz rfl) (zg zz rfl) (ix_el0 (by omega) hq _)) ?_
  refine zv rfl (exec_load rfl (zg zz rfl) (ld_el hy h2)) ?_
  refine zv rfl (exec_indexAt rfl (zg zz rfl) (zg zz rfl) (ix_el0 hj hq _)) ?_
  refine zs rfl (exec_store rfl (zg zz rfl) (zg zz rfl) E1) ?_
  exact ze rfl (h _ _ (rfl) rfl)
def drow18_o0 : Oper := ⟨some 62, .move (.tmp 3), 93, "ref.go:109", #[], none⟩
def drow18_o1 : Oper := ⟨some 63, .move (.tmp 5), 3, "ref.go:109", #[], none⟩
def drow18_o2 : Oper := ⟨some 64, .move (.tmp 0), 26, "ref.go:109", #[], none⟩
def drow18_o3 : Oper := ⟨some 65, .nilCheck (.tmp 64), 0, "ref.go:109", #[⟨2, .data⟩], none⟩
def drow18_o4 : Oper := ⟨some 66, .fieldAddr 95 (.tmp 65) 0, 0, "ref.go:109", #[⟨3, .data⟩], none⟩
def drow18_o5 : Oper := ⟨some 67, .load 93 (.tmp 66), 93, "ref.go:109", #[⟨4, .data⟩], none⟩
def drow18_o6 : Oper := ⟨some 68, .move (.tmp 4), 3, "ref.go:109", #[], none⟩
def drow18_o7 : Oper := ⟨some 69, .indexAddr 93 (.tmp 67) (.tmp 68), 0, "ref.go:109", #[⟨5, .data⟩, ⟨6, .data⟩], none⟩
def drow18_o8 : Oper := ⟨some 70, .load 100 (.tmp 69), 100, "ref.go:109", #[⟨7, .data⟩], none⟩
def drow18_o9 : Oper := ⟨some 71, .indexAddr 93 (.tmp 62) (.tmp 63), 0, "ref.go:109", #[⟨0, .data⟩, ⟨1, .data⟩, ⟨0, .phase⟩, ⟨1, .phase⟩, ⟨2, .phase⟩, ⟨3, .phase⟩, ⟨4, .phase⟩, ⟨5, .phase⟩, ⟨6, .phase⟩, ⟨7, .phase⟩, ⟨8, .phase⟩], none⟩
def drow18_o10 : Oper := ⟨none, .store 100 (.tmp 71) (.tmp 70), 0, "ref.go:109", #[⟨9, .data⟩, ⟨8, .data⟩, ⟨0, .phase⟩, ⟨1, .phase⟩, ⟨2, .phase⟩, ⟨3, .phase⟩, ⟨4, .phase⟩, ⟨5, .phase⟩, ⟨6, .phase⟩, ⟨7, .phase⟩, ⟨8, .phase⟩], none⟩
def drow18_ops : Array Oper := #[drow18_o0, drow18_o1, drow18_o2, drow18_o3, drow18_o4, drow18_o5, drow18_o6, drow18_o7, drow18_o8, drow18_o9, drow18_o10]
theorem drow18 {d eb eo n ec i : Nat} {x : Elt} {lb q lc p : Nat} {w2 : World} (a : Act) (w : World) (Q : Exit → Act → World → Prop) (zz : a.tmps.size = 73)
    (t3 : a.tmps.getD 3 undef = .slice (some ⟨lb, 0, none⟩) q lc)
    (t5 : a.tmps.getD 5 undef = .int .i64 (p : Int))
    (t0 : a.tmps.getD 0 undef = .pointer (some ⟨d, 0, none⟩))
    (t4 : a.tmps.getD 4 undef = .int .i64 (i : Int))
    (hx : x.wf) (hi : i < n) (hn : n ≤ 1400000000001) (hp : p < q) (hq : q ≤ 1400000000001) (h0 : w.heap[d]? = some (.cells #[.slice (some ⟨eb, eo, none⟩) n ec] 95 (0, 0))) (h1 : w.rangeAt eb (eo + 67 * i) x.c) (E1 : (Instr.storeAt 100 (.pointer (some ⟨lb, 67 * p, none⟩)) (.agg x.c.toArray)).run Try.prog w = .ok () w2)
    (h : ∀ (a' : Act) (w' : World), w' = w2 → a' = ((((((((((a).put (some 62) (.slice (some ⟨lb, 0, none⟩) q lc)).put (some 63) (.int .i64 (p : Int))).put (some 64) (.pointer (some ⟨d, 0, none⟩))).put (some 65) (.pointer (some ⟨d, 0, none⟩))).put (some 66) (.pointer (some ⟨d, 0 + 0, none⟩))).put (some 67) (.slice (some ⟨eb, eo, none⟩) n ec)).put (some 68) (.int .i64 (i : Int))).put (some 69) (.pointer (some ⟨eb, eo + 67 * i, none⟩))).put (some 70) (.agg x.c.toArray)).put (some 71) (.pointer (some ⟨lb, 67 * p, none⟩)) → Q .normal a' w') :
    (Code.region 18 drow18_ops false).wp Try.prog Q a w := by
  refine z0 rfl ?_
  refine zv rfl (exec_move rfl (zi t3 rfl)) ?_
  refine zv rfl (exec_move rfl (zi t5 rfl)) ?_
  refine zv rfl (exec_move rfl (zi t0 rfl)) ?_
  refine zv rfl (exec_nilCheck rfl (zg zz rfl)) ?_
  refine zv rfl (exec_fieldAt rfl (zg zz rfl) (fg_95_0 _ _ _)) ?_
  refine zv rfl (exec_load rfl (zg zz rfl) (ld_all h0 rfl)) ?_
  refine zv rfl (exec_move rfl (zi t4 rfl)) ?_
  refine zv rfl (exec_indexAt rfl (zg zz rfl) (zg zz rfl) (ix_el hi hn _)) ?_
  refine zv rfl (exec_load rfl (zg zz rfl) (ld_el hx h1)) ?_
  refine zv rfl (exec_indexAt rfl (zg zz rfl) (zg zz rfl) (ix_el0 hp hq _)) ?_
  refine zs rfl (exec_store rfl (zg zz rfl) (zg zz rfl) E1) ?_
  exact ze rfl (h _ _ (rfl) rfl)
def dins3_o0 : Oper := ⟨some 11, .fieldAddr 32 (.tmp 4) 1, 0, "ref.go:47", #[], none⟩
def dins3_o1 : Oper := ⟨some 12, .load 3 (.tmp 11), 3, "ref.go:47", #[⟨0, .data⟩], none⟩
def dins3_o2 : Oper := ⟨some 13, .binOp BinOp.lss 3 (.tmp 12) (Operand.const (Value.int IntKind.i64 1)) 3, 4, "ref.go:47", #[⟨1, .data⟩], none⟩
def dins3_o3 : Oper := ⟨some 10, .assign (.tmp 13), 4, "ref.go:47", #[⟨2, .data⟩], none⟩
def dins3_ops : Array Oper := #[dins3_o0, dins3_o1, dins3_o2, dins3_o3]
theorem dins3 {kb : Nat} {k : IdK} {g : Bool} (a : Act) (w : World) (Q : Exit → Act → World → Prop) (zz : a.tmps.size = 41)
    (t4 : a.tmps.getD 4 undef = .pointer (some ⟨kb, 0, none⟩))
    (hk : k.ok) (h0 : IdAt w kb k) (hg : decide (k.n < 1) = g)
    (h : ∀ (a' : Act) (w' : World), w' = w → a' = ((((a).put (some 11) (.pointer (some ⟨kb, 0 + 32, none⟩))).put (some 12) (.int .i64 k.n)).put (some 13) (.bool g)).put (some 10) (.bool g) → Q .normal a' w') :
    (Code.region 3 dins3_ops false).wp Try.prog Q a w := by
  refine z0 rfl ?_
  refine zv rfl (exec_fieldAt rfl (zi t4 rfl) (fg_32_1 _ _ _)) ?_
  refine zv rfl (exec_load rfl (zg zz rfl) (ld_n hk h0)) ?_
  refine zv (v := .bool g) rfl (ex_lss rfl (zg zz rfl) rfl hg) ?_
  refine zv rfl (exec_assign rfl (zg zz rfl)) ?_
  exact ze rfl (h _ _ (rfl) rfl)
def dins5_o0 : Oper := ⟨some 15, .move (.tmp 0), 26, "ref.go:49", #[], none⟩
def dins5_o1 : Oper := ⟨some 16, .load 32 (.tmp 4), 32, "ref.go:49", #[], none⟩
def dins5_o2 : Oper := ⟨some 17, .call { callee := Callee.value (Operand.func 36), args := #[.tmp 15, .tmp 16], argTypes := #[26, 32] }, 3, "ref.go:49", #[⟨0, .data⟩, ⟨1, .data⟩], none⟩
def dins5_o3 : Oper := ⟨some 18, .binOp BinOp.geq 3 (.tmp 17) (Operand.const (Value.int IntKind.i64 0)) 3, 4, "ref.go:49", #[⟨2, .data⟩], none⟩
def dins5_o4 : Oper := ⟨some 14, .assign (.tmp 18), 4, "ref.go:49", #[⟨3, .data⟩, ⟨2, .chain⟩], none⟩
def dins5_ops : Array Oper := #[dins5_o0, dins5_o1, dins5_o2, dins5_o3, dins5_o4]
theorem dins5 {d kb : Nat} {k : IdK} {r : Int} {g : Bool} (Fin : World → Prop) (a : Act) (w : World) (Q : Exit → Act → World → Prop) (zz : a.tmps.size = 41)
    (t0 : a.tmps.getD 0 undef = .pointer (some ⟨d, 0, none⟩))
    (t4 : a.tmps.getD 4 undef = .pointer (some ⟨kb, 0, none⟩))
    (hk : k.ok) (h0 : IdAt w kb k) (hg : decide (r ≥ 0) = g) (CF : Calls Try.prog 36 #[.pointer (some ⟨d, 0, none⟩), k.v] w fun e w' => e = .returned (.int .i64 r) ∧ Fin w')
    (h : ∀ (a' : Act) (w' : World), Fin w' → a' = (((((a).put (some 15) (.pointer (some ⟨d, 0, none⟩))).put (some 16) (k.v)).put (some 17) (.int .i64 r)).put (some 18) (.bool g)).put (some 14) (.bool g) → Q .normal a' w') :
    (Code.region 5 dins5_ops false).wp Try.prog Q a w := by
  refine z0 rfl ?_
  refine zv rfl (exec_move rfl (zi t0 rfl)) ?_
  refine zv rfl (exec_load rfl (zi t4 rfl) (load_id hk h0)) ?_
  refine zc rfl (exec_c2 rfl (zg zz rfl) (zg zz rfl)) (CF) (fun e x2 hx => ?_)
  obtain ⟨rfl, HF⟩ := hx
  refine ⟨_, rfl, ?_⟩
  refine zv (v := .bool g) rfl (ex_geq rfl (zg zz rfl) rfl hg) ?_
  refine zv rfl (exec_assign rfl (zg zz rfl)) ?_
  exact ze rfl (h _ _ (HF) rfl)
def dins7_o0 : Oper := ⟨some 20, .load 32 (.tmp 5), 32, "ref.go:51", #[], none⟩
def dins7_o1 : Oper := ⟨some 21, .build 32 #[], 32, "ref.go:51", #[], none⟩
def dins7_o2 : Oper := ⟨some 22, .binOp BinOp.neq 32 (.tmp 20) (.tmp 21) 32, 4, "ref.go:51", #[⟨0, .data⟩, ⟨1, .data⟩], none⟩
def dins7_o3 : Oper := ⟨some 23, .move (.tmp 22), 4, "ref.go:51", #[⟨2, .data⟩], none⟩
def dins7_o4 : Oper := ⟨some 24, .move (.tmp 0), 26, "ref.go:51", #[⟨3, .guard⟩], some (3, true)⟩
def dins7_o5 : Oper := ⟨some 25, .load 32 (.tmp 5), 32, "ref.go:51", #[⟨3, .guard⟩], some (3, true)⟩
def dins7_o6 : Oper := ⟨some 26, .call { callee := Callee.value (Operand.func 36), args := #[.tmp 24, .tmp 25], argTypes := #[26, 32] }, 3, "ref.go:51", #[⟨4, .data⟩, ⟨5, .data⟩, ⟨3, .chain⟩, ⟨3, .guard⟩], some (3, true)⟩
def dins7_o7 : Oper := ⟨some 27, .binOp BinOp.lss 3 (.tmp 26) (Operand.const (Value.int IntKind.i64 0)) 3, 4, "ref.go:51", #[⟨6, .data⟩, ⟨3, .guard⟩], some (3, true)⟩
def dins7_o8 : Oper := ⟨some 28, .pick (.tmp 23) (.tmp 27) (Operand.const (Value.bool false)), 4, "ref.go:51", #[⟨3, .data⟩, ⟨7, .data⟩], none⟩
def dins7_o9 : Oper := ⟨some 19, .assign (.tmp 28), 4, "ref.go:51", #[⟨8, .data⟩, ⟨6, .chain⟩], none⟩
def dins7_ops : Array Oper := #[dins7_o0, dins7_o1, dins7_o2, dins7_o3, dins7_o4, dins7_o5, dins7_o6, dins7_o7, dins7_o8, dins7_o9]
theorem dins7a {d bb : Nat} {b : IdK} (a : Act) (w : World) (Q : Exit → Act → World → Prop) (zz : a.tmps.size = 41)
    (t0 : a.tmps.getD 0 undef = .pointer (some ⟨d, 0, none⟩))
    (t5 : a.tmps.getD 5 undef = .pointer (some ⟨bb, 0, none⟩))
    (hb : b.ok) (hz : b = zId) (h0 : IdAt w bb b)
    (h : ∀ (a' : Act) (w' : World), w' = w → a' = ((((((((((a).put (some 20) (b.v)).put (some 21) (zId.v)).put (some 22) (.bool false)).put (some 23) (.bool false)).put (some 24) (undef)).put (some 25) (undef)).put (some 26) (undef)).put (some 27) (undef)).put (some 28) (.bool false)).put (some 19) (.bool false) → Q .normal a' w') :
    (Code.region 7 dins7_ops false).wp Try.prog Q a w := by
  refine z0 rfl ?_
  refine zv rfl (exec_load rfl (zi t5 rfl) (load_id hb h0)) ?_
  refine zv rfl (exec_build0 rfl (build_id _)) ?_
  refine zv (v := .bool false) rfl (ex_neqI rfl (zg zz rfl) (zg zz rfl) hb zId_ok (by simp [hz])) ?_
  refine zv rfl (exec_move rfl (zg zz rfl)) ?_
  refine zn (zx zz rfl rfl rfl (zg zz rfl)) ?_
  refine zn (zx zz rfl rfl rfl (zg zz rfl)) ?_
  refine zn (zx zz rfl rfl rfl (zg zz rfl)) ?_
  refine zn (zx zz rfl rfl rfl (zg zz rfl)) ?_
  refine zv rfl (exec_pickF rfl (zg zz rfl) rfl) ?_
  refine zv rfl (exec_assign rfl (zg zz rfl)) ?_
  exact ze rfl (h _ _ (rfl) rfl)
theorem dins7b {d bb : Nat} {b : IdK} {r : Int} {g : Bool} (Fin : World → Prop) (a : Act) (w : World) (Q : Exit → Act → World → Prop) (zz : a.tmps.size = 41)
    (t0 : a.tmps.getD 0 undef = .pointer (some ⟨d, 0, none⟩))
    (t5 : a.tmps.getD 5 undef = .pointer (some ⟨bb, 0, none⟩))
    (hb : b.ok) (hz : b ≠ zId) (h0 : IdAt w bb b) (hg : decide (r < 0) = g) (CF : Calls Try.prog 36 #[.pointer (some ⟨d, 0, none⟩), b.v] w fun e w' => e = .returned (.int .i64 r) ∧ Fin w')
    (h : ∀ (a' : Act) (w' : World), Fin w' → a' = ((((((((((a).put (some 20) (b.v)).put (some 21) (zId.v)).put (some 22) (.bool true)).put (some 23) (.bool true)).put (some 24) (.pointer (some ⟨d, 0, none⟩))).put (some 25) (b.v)).put (some 26) (.int .i64 r)).put (some 27) (.bool g)).put (some 28) (.bool g)).put (some 19) (.bool g) → Q .normal a' w') :
    (Code.region 7 dins7_ops false).wp Try.prog Q a w := by
  refine z0 rfl ?_
  refine zv rfl (exec_load rfl (zi t5 rfl) (load_id hb h0)) ?_
  refine zv rfl (exec_build0 rfl (build_id _)) ?_
  refine zv (v := .bool true) rfl (ex_neqI rfl (zg zz rfl) (zg zz rfl) hb zId_ok (by simp [hz])) ?_
  refine zv rfl (exec_move rfl (zg zz rfl)) ?_
  refine zv (zw zz rfl rfl rfl (zg zz rfl)) (exec_move rfl (zi t0 rfl)) ?_
  refine zv (zw zz rfl rfl rfl (zg zz rfl)) (exec_load rfl (zi t5 rfl) (load_id hb h0)) ?_
  refine zc (zw zz rfl rfl rfl (zg zz rfl)) (exec_c2 rfl (zg zz rfl) (zg zz rfl)) (CF) (fun e x6 hx => ?_)
  obtain ⟨rfl, HF⟩ := hx
  refine ⟨_, rfl, ?_⟩
  refine zv (v := .bool g) (zw zz rfl rfl rfl (zg zz rfl)) (ex_lss rfl (zg zz rfl) rfl hg) ?_
  refine zv rfl (exec_pickT rfl (zg zz rfl) (zg zz rfl)) ?_
  refine zv rfl (exec_assign rfl (zg zz rfl)) ?_
  exact ze rfl (h _ _ (HF) rfl)
def dins9_o0 : Oper := ⟨some 29, .move (.tmp 0), 26, "ref.go:54", #[], none⟩
def dins9_o1 : Oper := ⟨some 30, .move (.tmp 0), 26, "ref.go:54", #[], none⟩
def dins9_o2 : Oper := ⟨some 31, .nilCheck (.tmp 30), 0, "ref.go:54", #[⟨1, .data⟩], none⟩
def dins9_o3 : Oper := ⟨some 32, .fieldAddr 95 (.tmp 31) 0, 0, "ref.go:54", #[⟨2, .data⟩], none⟩
def dins9_o4 : Oper := ⟨some 33, .load 93 (.tmp 32), 93, "ref.go:54", #[⟨3, .data⟩], none⟩
def dins9_o5 : Oper := ⟨some 34, .load 32 (.tmp 4), 32, "ref.go:54", #[], none⟩
def dins9_o6 : Oper := ⟨some 35, .load 32 (.tmp 5), 32, "ref.go:54", #[], none⟩
def dins9_o7 : Oper := ⟨some 36, .build 100 #[(0, .tmp 34), (1, .tmp 35), (2, Operand.const (Value.bool true))], 100, "ref.go:54", #[⟨5, .data⟩, ⟨6, .data⟩], none⟩
def dins9_o8 : Oper := ⟨some 37, .buildSlice 93 1 #[(0, .tmp 36)], 93, "ref.go:54", #[⟨7, .data⟩], none⟩
def dins9_o9 : Oper := ⟨some 38, .call { callee := Callee.builtin Builtin.append, args := #[.tmp 33, .tmp 37], argTypes := #[93, 93] }, 93, "ref.go:54", #[⟨4, .data⟩, ⟨8, .data⟩], none⟩
def dins9_o10 : Oper := ⟨some 39, .nilCheck (.tmp 29), 0, "ref.go:54", #[⟨0, .data⟩, ⟨0, .phase⟩, ⟨1, .phase⟩, ⟨2, .phase⟩, ⟨3, .phase⟩, ⟨4, .phase⟩, ⟨5, .phase⟩, ⟨6, .phase⟩, ⟨7, .phase⟩, ⟨8, .phase⟩, ⟨9, .phase⟩], none⟩
def dins9_o11 : Oper := ⟨some 40, .fieldAddr 95 (.tmp 39) 0, 0, "ref.go:54", #[⟨10, .data⟩, ⟨0, .phase⟩, ⟨1, .phase⟩, ⟨2, .phase⟩, ⟨3, .phase⟩, ⟨4, .phase⟩, ⟨5, .phase⟩, ⟨6, .phase⟩, ⟨7, .phase⟩, ⟨8, .phase⟩, ⟨9, .phase⟩], none⟩
def dins9_o12 : Oper := ⟨none, .store 93 (.tmp 40) (.tmp 38), 0, "ref.go:54", #[⟨11, .data⟩, ⟨9, .data⟩, ⟨9, .chain⟩, ⟨0, .phase⟩, ⟨1, .phase⟩, ⟨2, .phase⟩, ⟨3, .phase⟩, ⟨4, .phase⟩, ⟨5, .phase⟩, ⟨6, .phase⟩, ⟨7, .phase⟩, ⟨8, .phase⟩, ⟨9, .phase⟩], none⟩
def dins9_ops : Array Oper := #[dins9_o0, dins9_o1, dins9_o2, dins9_o3, dins9_o4, dins9_o5, dins9_o6, dins9_o7, dins9_o8, dins9_o9, dins9_o10, dins9_o11, dins9_o12]
theorem dins9 {d kb bb n ec vn vc : Nat} {ea va : Option Addr} {k b : IdK} {sv : Value} {w1 w2 w3 : World} (a : Act) (w : World) (Q : Exit → Act → World → Prop) (zz : a.tmps.size = 41)
    (t0 : a.tmps.getD 0 undef = .pointer (some ⟨d, 0, none⟩))
    (t4 : a.tmps.getD 4 undef = .pointer (some ⟨kb, 0, none⟩))
    (t5 : a.tmps.getD 5 undef = .pointer (some ⟨bb, 0, none⟩))
    (hk : k.ok) (hb : b.ok) (S0 : w.drew.heap[d]? = some (.cells #[.slice ea n ec] 95 (0, 0)) ∧ IdAt w.drew kb k ∧ IdAt w.drew bb b) (S1 : w1.heap[d]? = some (.cells #[.slice ea n ec] 95 (0, 0)) ∧ IdAt w1 kb k ∧ IdAt w1 bb b) (S2 : w2.heap[d]? = some (.cells #[.slice ea n ec] 95 (0, 0)) ∧ IdAt w2 kb k ∧ IdAt w2 bb b) (E1 : (Instr.buildSlice 93 1 #[(0, .agg (Elt.c ⟨k, b, true⟩).toArray)]).run Try.prog w.drew = .ok sv w1) (E2 : (Builtin.append_ #[93, 93] 93 #[.slice ea n ec, sv]).run Try.prog w1 = .ok (.slice va vn vc) w2) (E3 : (Instr.storeAt 93 (.pointer (some ⟨d, 0 + 0, none⟩)) (.slice va vn vc)).run Try.prog w2 = .ok () w3)
    (h : ∀ (a' : Act) (w' : World), w' = w3 → a' = ((((((((((((a).put (some 29) (.pointer (some ⟨d, 0, none⟩))).put (some 30) (.pointer (some ⟨d, 0, none⟩))).put (some 31) (.pointer (some ⟨d, 0, none⟩))).put (some 32) (.pointer (some ⟨d, 0 + 0, none⟩))).put (some 33) (.slice ea n ec)).put (some 34) (k.v)).put (some 35) (b.v)).put (some 36) (.agg (Elt.c ⟨k, b, true⟩).toArray)).put (some 37) (sv)).put (some 38) (.slice va vn vc)).put (some 39) (.pointer (some ⟨d, 0, none⟩))).put (some 40) (.pointer (some ⟨d, 0 + 0, none⟩)) → Q .normal a' w') :
    (Code.region 9 dins9_ops true).wp Try.prog Q a w := by
  refine x0 12 (fun w' => w'.heap[d]? = some (.cells #[.slice ea n ec] 95 (0, 0)) ∧ IdAt w' kb k ∧ IdAt w' bb b) (S0) (fun hHeld => ?_)
  refine xv 0 rfl rfl (fun w1 hw => exec_move rfl (zi t0 rfl)) hHeld ?_
  refine xv 1 rfl rfl (fun w1 hw => exec_move rfl (zi t0 rfl)) hHeld ?_
  refine xv 2 rfl rfl (fun w1 hw => exec_nilCheck rfl (zg zz rfl)) hHeld ?_
  refine xv 3 rfl rfl (fun w1 hw => exec_fieldAt rfl (zg zz rfl) (fg_95_0 _ _ _)) hHeld ?_
  refine xv 4 rfl rfl (fun w1 hw => exec_load rfl (zg zz rfl) (ld_all (hw.1) rfl)) hHeld ?_
  refine xv 5 rfl rfl (fun w1 hw => exec_load rfl (zi t4 rfl) (load_id hk hw.2.1)) hHeld ?_
  refine xv 6 rfl rfl (fun w1 hw => exec_load rfl (zi t5 rfl) (load_id hb hw.2.2)) hHeld ?_
  refine xv (v := .agg (Elt.c ⟨k, b, true⟩).toArray) 7 rfl rfl (fun w1 hw => ex_elt rfl (zg zz rfl) (zg zz rfl) rfl hk hb) hHeld ?_
  refine xr (v := sv) 8 rfl rfl (exec_buildSlice rfl (zg zz rfl) E1) (fun _ => S1) (fun hHeld => ?_)
  replace hHeld := hHeld (by decide)
  refine xr (v := .slice va vn vc) 9 rfl rfl (exec_append rfl (zg zz rfl) (zg zz rfl) E2) (fun _ => S2) (fun hHeld => ?_)
  replace hHeld := hHeld (by decide)
  refine xv 10 rfl rfl (fun w1 hw => exec_nilCheck rfl (zg zz rfl)) hHeld ?_
  refine xv 11 rfl rfl (fun w1 hw => exec_fieldAt rfl (zg zz rfl) (fg_95_0 _ _ _)) hHeld ?_
  refine xs 12 rfl rfl (exec_store rfl (zg zz rfl) (zg zz rfl) E3) (fun hne => absurd rfl hne) (fun _ => ?_)
  exact xe rfl (h _ _ (rfl) rfl)
def dids6_o0 : Oper := ⟨some 14, .move (.tmp 3), 44, "ref.go:125", #[], none⟩
def dids6_o1 : Oper := ⟨some 15, .move (.tmp 4), 93, "ref.go:125", #[], none⟩
def dids6_o2 : Oper := ⟨some 16, .move (.tmp 5), 3, "ref.go:125", #[], none⟩
def dids6_o3 : Oper := ⟨some 17, .indexAddr 93 (.tmp 15) (.tmp 16), 0, "ref.go:125", #[⟨1, .data⟩, ⟨2, .data⟩], none⟩
def dids6_o4 : Oper := ⟨some 18, .fieldAddr 100 (.tmp 17) 0, 0, "ref.go:125", #[⟨3, .data⟩], none⟩
def dids6_o5 : Oper := ⟨some 19, .load 32 (.tmp 18), 32, "ref.go:125", #[⟨4, .data⟩], none⟩
def dids6_o6 : Oper := ⟨some 20, .buildSlice 44 1 #[(0, .tmp 19)], 44, "ref.go:125", #[⟨5, .data⟩], none⟩
def dids6_o7 : Oper := ⟨some 21, .call { callee := Callee.builtin Builtin.append, args := #[.tmp 14, .tmp 20], argTypes := #[44, 44] }, 44, "ref.go:125", #[⟨0, .data⟩, ⟨6, .data⟩], none⟩
def dids6_o8 : Oper := ⟨some 3, .assign (.tmp 21), 44, "ref.go:125", #[⟨7, .data⟩, ⟨7, .chain⟩, ⟨0, .phase⟩, ⟨1, .phase⟩, ⟨2, .phase⟩, ⟨3, .phase⟩, ⟨4, .phase⟩, ⟨5, .phase⟩, ⟨6, .phase⟩, ⟨7, .phase⟩], none⟩
def dids6_ops : Array Oper := #[dids6_o0, dids6_o1, dids6_o2, dids6_o3, dids6_o4, dids6_o5, dids6_o6, dids6_o7, dids6_o8]
theorem dids6 {eb eo n ec i : Nat} {x : Elt} {lv sv v2 : Value} {w1 w2 : World} (a : Act) (w : World) (Q : Exit → Act → World → Prop) (zz : a.tmps.size = 23)
    (t3 : a.tmps.getD 3 undef = lv)
    (t4 : a.tmps.getD 4 undef = .slice (some ⟨eb, eo, none⟩) n ec)
    (t5 : a.tmps.getD 5 undef = .int .i64 (i : Int))
    (hx : x.wf) (hi : i < n) (hn : n ≤ 1400000000001) (h1 : w.rangeAt eb (eo + 67 * i) x.c) (E1 : (Instr.buildSlice 44 1 #[(0, x.id.v)]).run Try.prog w = .ok sv w1) (E2 : (Builtin.append_ #[44, 44] 44 #[lv, sv]).run Try.prog w1 = .ok v2 w2)
    (h : ∀ (a' : Act) (w' : World), w' = w2 → a' = (((((((((a).put (some 14) (lv)).put (some 15) (.slice (some ⟨eb, eo, none⟩) n ec)).put (some 16) (.int .i64 (i : Int))).put (some 17) (.pointer (some ⟨eb, eo + 67 * i, none⟩))).put (some 18) (.pointer (some ⟨eb, eo + 67 * i + 0, none⟩))).put (some 19) (x.id.v)).put (some 20) (sv)).put (some 21) (v2)).put (some 3) (v2) → Q .normal a' w') :
    (Code.region 6 dids6_ops false).wp Try.prog Q a w := by
  refine z0 rfl ?_
  refine zv rfl (exec_move rfl (zi t3 rfl)) ?_
  refine zv rfl (exec_move rfl (zi t4 rfl)) ?_
  refine zv rfl (exec_move rfl (zi t5 rfl)) ?_
  refine zv rfl (exec_indexAt rfl (zg zz rfl) (zg zz rfl) (ix_el hi hn _)) ?_
  refine zv rfl (exec_fieldAt rfl (zg zz rfl) (fg_100_0 _ _ _)) ?_
  refine zv rfl (exec_load rfl (zg zz rfl) (el_id hx h1)) ?_
  refine zv (v := sv) rfl (exec_buildSlice rfl (zg zz rfl) E1) ?_
  refine zv (v := v2) rfl (exec_append rfl (zg zz rfl) (zg zz rfl) E2) ?_
  refine zv rfl (exec_assign rfl (zg zz rfl)) ?_
  exact ze rfl (h _ _ (rfl) rfl)
def dliv7_o0 : Oper := ⟨some 19, .move (.tmp 3), 44, "ref.go:136", #[], none⟩
def dliv7_o1 : Oper := ⟨some 20, .move (.tmp 4), 93, "ref.go:136", #[], none⟩
def dliv7_o2 : Oper := ⟨some 21, .move (.tmp 5), 3, "ref.go:136", #[], none⟩
def dliv7_o3 : Oper := ⟨some 22, .indexAddr 93 (.tmp 20) (.tmp 21), 0, "ref.go:136", #[⟨1, .data⟩, ⟨2, .data⟩], none⟩
def dliv7_o4 : Oper := ⟨some 23, .fieldAddr 100 (.tmp 22) 0, 0, "ref.go:136", #[⟨3, .data⟩], none⟩
def dliv7_o5 : Oper := ⟨some 24, .load 32 (.tmp 23), 32, "ref.go:136", #[⟨4, .data⟩], none⟩
def dliv7_o6 : Oper := ⟨some 25, .buildSlice 44 1 #[(0, .tmp 24)], 44, "ref.go:136", #[⟨5, .data⟩], none⟩
def dliv7_o7 : Oper := ⟨some 26, .call { callee := Callee.builtin Builtin.append, args := #[.tmp 19, .tmp 25], argTypes := #[44, 44] }, 44, "ref.go:136", #[⟨0, .data⟩, ⟨6, .data⟩], none⟩
def dliv7_o8 : Oper := ⟨some 3, .assign (.tmp 26), 44, "ref.go:136", #[⟨7, .data⟩, ⟨7, .chain⟩, ⟨0, .phase⟩, ⟨1, .phase⟩, ⟨2, .phase⟩, ⟨3, .phase⟩, ⟨4, .phase⟩, ⟨5, .phase⟩, ⟨6, .phase⟩, ⟨7, .phase⟩], none⟩
def dliv7_ops : Array Oper := #[dliv7_o0, dliv7_o1, dliv7_o2, dliv7_o3, dliv7_o4, dliv7_o5, dliv7_o6, dliv7_o7, dliv7_o8]
theorem dliv7 {eb eo n ec i : Nat} {x : Elt} {lv sv v2 : Value} {w1 w2 : World} (a : Act) (w : World) (Q : Exit → Act → World → Prop) (zz : a.tmps.size = 28)
    (t3 : a.tmps.getD 3 undef = lv)
    (t4 : a.tmps.getD 4 undef = .slice (some ⟨eb, eo, none⟩) n ec)
    (t5 : a.tmps.getD 5 undef = .int .i64 (i : Int))
    (hx : x.wf) (hi : i < n) (hn : n ≤ 1400000000001) (h1 : w.rangeAt eb (eo + 67 * i) x.c) (E1 : (Instr.buildSlice 44 1 #[(0, x.id.v)]).run Try.prog w = .ok sv w1) (E2 : (Builtin.append_ #[44, 44] 44 #[lv, sv]).run Try.prog w1 = .ok v2 w2)
    (h : ∀ (a' : Act) (w' : World), w' = w2 → a' = (((((((((a).put (some 19) (lv)).put (some 20) (.slice (some ⟨eb, eo, none⟩) n ec)).put (some 21) (.int .i64 (i : Int))).put (some 22) (.pointer (some ⟨eb, eo + 67 * i, none⟩))).put (some 23) (.pointer (some ⟨eb, eo + 67 * i + 0, none⟩))).put (some 24) (x.id.v)).put (some 25) (sv)).put (some 26) (v2)).put (some 3) (v2) → Q .normal a' w') :
    (Code.region 7 dliv7_ops false).wp Try.prog Q a w := by
  refine z0 rfl ?_
  refine zv rfl (exec_move rfl (zi t3 rfl)) ?_
  refine zv rfl (exec_move rfl (zi t4 rfl)) ?_
  refine zv rfl (exec_move rfl (zi t5 rfl)) ?_
  refine zv rfl (exec_indexAt rfl (zg zz rfl) (zg zz rfl) (ix_el hi hn _)) ?_
  refine zv rfl (exec_fieldAt rfl (zg zz rfl) (fg_100_0 _ _ _)) ?_
  refine zv rfl (exec_load rfl (zg zz rfl) (el_id hx h1)) ?_
  refine zv (v := sv) rfl (exec_buildSlice rfl (zg zz rfl) E1) ?_
  refine zv (v := v2) rfl (exec_append rfl (zg zz rfl) (zg zz rfl) E2) ?_
  refine zv rfl (exec_assign rfl (zg zz rfl)) ?_
  exact ze rfl (h _ _ (rfl) rfl)
def dliv6_o0 : Oper := ⟨some 14, .move (.tmp 4), 93, "ref.go:135", #[], none⟩
def dliv6_o1 : Oper := ⟨some 15, .move (.tmp 5), 3, "ref.go:135", #[], none⟩
def dliv6_o2 : Oper := ⟨some 16, .indexAddr 93 (.tmp 14) (.tmp 15), 0, "ref.go:135", #[⟨0, .data⟩, ⟨1, .data⟩], none⟩
def dliv6_o3 : Oper := ⟨some 17, .fieldAddr 100 (.tmp 16) 2, 0, "ref.go:135", #[⟨2, .data⟩], none⟩
def dliv6_o4 : Oper := ⟨some 18, .load 4 (.tmp 17), 4, "ref.go:135", #[⟨3, .data⟩], none⟩
def dliv6_ops : Array Oper := #[dliv6_o0, dliv6_o1, dliv6_o2, dliv6_o3, dliv6_o4]
theorem dliv6 {eb eo n ec i : Nat} {x : Elt} (a : Act) (w : World) (Q : Exit → Act → World → Prop) (zz : a.tmps.size = 28)
    (t4 : a.tmps.getD 4 undef = .slice (some ⟨eb, eo, none⟩) n ec)
    (t5 : a.tmps.getD 5 undef = .int .i64 (i : Int))
    (hx : x.wf) (hi : i < n) (hn : n ≤ 1400000000001) (h1 : w.rangeAt eb (eo + 67 * i) x.c)
    (h : ∀ (a' : Act) (w' : World), w' = w → a' = (((((a).put (some 14) (.slice (some ⟨eb, eo, none⟩) n ec)).put (some 15) (.int .i64 (i : Int))).put (some 16) (.pointer (some ⟨eb, eo + 67 * i, none⟩))).put (some 17) (.pointer (some ⟨eb, eo + 67 * i + 66, none⟩))).put (some 18) (.bool x.sh) → Q .normal a' w') :
    (Code.region 6 dliv6_ops false).wp Try.prog Q a w := by
  refine z0 rfl ?_
  refine zv rfl (exec_move rfl (zi t4 rfl)) ?_
  refine zv rfl (exec_move rfl (zi t5 rfl)) ?_
  refine zv rfl (exec_indexAt rfl (zg zz rfl) (zg zz rfl) (ix_el hi hn _)) ?_
  refine zv rfl (exec_fieldAt rfl (zg zz rfl) (fg_100_2 _ _ _)) ?_
  refine zv rfl (exec_load rfl (zg zz rfl) (el_sh hx h1)) ?_
  exact ze rfl (h _ _ (rfl) rfl)
def RefV (w : World) (base : Nat) (pv : Value) (R : List Elt) : Prop := (pv = .pointer none ∧ R = []) ∨ ∃ d v, pv = .pointer (some ⟨d, 0, none⟩) ∧ RefAt w base d v R
theorem RefV.below {w w' : World} {base : Nat} {pv : Value} {R : List Elt} (h : RefV w base pv R) (b : Below w.heap.size w w') : RefV w' base pv R := by
  rcases h with h | ⟨d, v, e, h⟩
  · exact .inl h
  · exact .inr ⟨d, v, e, h.below b⟩
theorem RefV.ok {w : World} {base : Nat} {pv : Value} {R : List Elt} (h : RefV w base pv R) : RefOk R ∧ R.length ≤ 1400000000000 := by
  rcases h with ⟨_, rfl⟩ | ⟨d, v, e, h⟩
  · exact ⟨RefOk.nil, by simp⟩
  · exact ⟨h.ok, h.len⟩
theorem RefAt.get {w : World} {base d : Nat} {v : Value} {R : List Elt} (h : RefAt w base d v R) {i : Nat} (hi : i < R.length) : ∃ eb eo ec, v = .slice (some ⟨eb, eo, none⟩) R.length ec ∧ eb < w.heap.size ∧ R[i].wf ∧ w.rangeAt eb (eo + 67 * i) R[i].c := by
  obtain ⟨a, c, e, ha⟩ := h.open
  obtain ⟨b, o, rfl, hl, hr⟩ := ha.get hi
  exact ⟨b, o, c, e, hl, h.wf _ (List.getElem_mem hi), hr⟩
theorem none_has {R : List Elt} {k : IdK} (h : ∀ j (hj : j < R.length), R[j].id ≠ k) : hasE R k = false := by
  cases q : hasE R k with
  | false => rfl
  | true =>
    obtain ⟨e, he, r⟩ := hasE_iff.1 q
    obtain ⟨j, hj, rfl⟩ := List.getElem_of_mem he
    exact absurd r (h j hj)
theorem find_at {w : World} {base d : Nat} {v : Value} {R : List Elt} (h : RefAt w base d v R) {k : IdK} (hk : k.ok) : Calls Try.prog 36 #[.pointer (some ⟨d, 0, none⟩), k.v] w fun e w' => e = .returned (.int .i64 (aheadE R false k)) ∧ Below w.heap.size w w' := by
  have bx : Below w.heap.size w (w.alloc (.cells k.c.toArray 32)) := (Below.refl _ _).alloc (Nat.le_refl _) _
  have hx := id_new w k
  obtain ⟨n, hn⟩ : ∃ n, R.length = n := ⟨_, rfl⟩
  have hN := h.len
  rw [hn] at hN
  obtain ⟨ea, ec, ev, _⟩ := h.open
  rw [hn] at ev
  have HV := hidMk ev
  have HN := hidMk hn
  obtain ⟨r, hr⟩ : ∃ r, aheadE R false k = r := ⟨_, rfl⟩
  have HR := hidMk hr
  rw [hr]
  show Calls Try.prog 36 #[.pointer (some ⟨d, 0, none⟩), .agg k.c.toArray] w _
  clear hr ev hn
  go_enter Try.func36, Try.ntmps36
  go_wp2
  have st0 : Hid (RefAt (w.alloc (.cells k.c.toArray 32)) base d v R ∧ IdAt (w.alloc (.cells k.c.toArray 32)) w.heap.size k ∧ Below w.heap.size w (w.alloc (.cells k.c.toArray 32))) := ⟨h.below bx, hx, bx⟩
  generalize w.alloc (.cells k.c.toArray 32) = wx at *
  obtain ⟨kb, hkb⟩ : ∃ kb, w.heap.size = kb := ⟨_, rfl⟩
  rw [hkb] at st0 ⊢
  have HK := hidMk hkb
  clear hkb bx hx
  go_loopw [5] (fun v5 wr => ∃ (i : Nat), v5 = .int .i64 (i : Int) ∧ i ≤ n ∧ Hid (RefAt wr base d v R ∧ IdAt wr kb k ∧ Below kb w wr) ∧ Hid (∀ j (hj : j < R.length), j < i → R[j].id ≠ k)) (fun v5 wr => n - (match v5 with | .int _ i => i.toNat | _ => 0))
  case atStart => exact ⟨0, rfl, Nat.zero_le _, st0, fun j hj h => by omega⟩
  case round =>
    clear st0
    obtain ⟨i, rfl, hin, hI, hno⟩ := hrel
    by_cases hi : i < n
    · have hi' : i < R.length := by rw [HN.out]; exact hi
      obtain ⟨eb, eo, ec2, e1, hl, hwf, hra⟩ := hI.out.1.get hi'
      rw [HN.out] at e1
      have hc0 := hI.out.1.c0
      rw [e1] at hc0
      have HX := hidMk (rank_get h.ok.seq hi')
      have HNX : Hid (R[i].id ≠ k → ∀ j (hj : j < R.length), j < i + 1 → R[j].id ≠ k) := fun q j hj hji => by
        by_cases e : j = i
        · subst e; exact q
        · exact hno.out j hj (by omega)
      generalize R[i] = x at *
      go_upto_region 3 with fail
      refine dfin3 (g := true) _ _ _ rfl rfl rfl hc0 (decide_eq_true (by omega)) ?_
      intro a' w1 hw ha
      subst ha
      obtain rfl : w1 = wr := hw
      simp only [Act.put, List.setIfInBounds_toArray, List.set_cons_zero, List.set_cons_succ]
      go_upto_region 5 with fail
      refine dfin5 (x := x) (k := k) (g := decide (x.id = k)) _ _ _ rfl rfl rfl rfl hwf hi (by omega) hk rfl hc0 hra hI.out.2.1 ?_
      intro a' w2 hw ha
      subst ha
      obtain rfl : w2 = w1.drew := hw
      simp only [Act.put, List.setIfInBounds_toArray, List.set_cons_zero, List.set_cons_succ]
      have hI2 : Hid (RefAt w1.drew base d v R ∧ IdAt w1.drew kb k ∧ Below kb w w1.drew) := ⟨hI.out.1.below ((Below.refl _ _).drew), hI.out.2.1, hI.out.2.2.drew⟩
      generalize w1.drew = w2 at *
      clear hI hra hc0 e1 hl
      cases hd : decide (x.id = k) with
      | true =>
        have e2 : r = (i : Int) := by rw [← HR.out, ← HX.out, of_decide_eq_true hd]
        subst e2
        clear hd HX HNX hno
        go_wp2
        go_ret
        exact ⟨rfl, by rw [HK.out]; exact hI2.out.2.2⟩
      | false =>
        have HD := hidMk (of_decide_eq_false hd)
        clear hd HX hno
        go_wp2
        have hq : ((i : Int) + 1) = ((i + 1 : Nat) : Int) := by omega
        rw [hq]
        refine ⟨⟨i + 1, rfl, hi, hI2, HNX.out HD.out⟩, ?_⟩
        show n - ((i + 1 : Nat) : Int).toNat < n - (i : Int).toNat
        omega
    · obtain rfl : n = i := by omega
      have hc0 := hI.out.1.c0
      rw [HV.out] at hc0
      have e2 : r = -1 := by
        rw [← HR.out]
        exact rank_neg (none_has (fun j hj => hno.out j hj (by rw [← HN.out]; exact hj))) false
      subst e2
      clear hno
      go_upto_region 3 with fail
      refine dfin3 (g := false) _ _ _ rfl rfl rfl hc0 (decide_eq_false (by omega)) ?_
      intro a' w1 hw ha
      subst ha
      obtain rfl : w1 = wr := hw
      simp only [Act.put, List.setIfInBounds_toArray, List.set_cons_zero, List.set_cons_succ]
      clear hc0
      go_wp2
      go_ret
      exact ⟨rfl, by rw [HK.out]; exact hI.out.2.2⟩
theorem RowT.Own.zero {κ : Type} {R : RowT κ} (I : R.Is) {w : World} {base : Nat} {v : Value} {L : List κ} (h : R.Own w base v L) (ok : ∀ h ∈ L, R.ok h) {i : Nat} (hi : i < L.length) : ∃ g cap, v = .slice (some ⟨g, 0, none⟩) L.length cap ∧ w.rangeAt g (R.k * i) (R.c L[i]) := by
  rcases h.2 with ⟨rfl, hn⟩ | ⟨g, cap, cur, rfl, hbg, hg, hnc, hcm, hcs, htake⟩
  · omega
  · refine ⟨g, cap, rfl, fun j u hj => ?_⟩
    have e := RowT.flat_get I ok (List.getElem?_eq_getElem hi) hj
    rw [cell_of_row w g _ cur R.e (0, 0) hg]
    rw [← htake, List.getElem?_take] at e
    split at e
    · simpa using e
    · cases e
theorem row_wf {R : List Elt} (h : RefOk R) : ∀ e ∈ rowR R, RE.ok e := fun e he => ⟨(h.row.ok e he).1, (h.row.ok e he).2.1⟩
theorem row_len (R : List Elt) : (rowR R).length = R.length := (rowR_perm R).length_eq
structure RwI (w : World) (l : List Elt) (lv : Value) (wr : World) : Prop where
  own : RE.Own wr w.heap.size lv l
  bel : Below w.heap.size w wr
theorem RwI.slice {w wr : World} {l : List Elt} {lv : Value} (h : RwI w l lv wr) (ok : ∀ e ∈ l, RE.ok e) : ∃ a c, lv = .slice a l.length c := by
  obtain ⟨a, c, e, _⟩ := h.own.open RE_is ok
  exact ⟨a, c, e⟩
theorem RwI.push {w wr : World} {l : List Elt} {lv : Value} (h : RwI w l lv wr) {x : Elt} (hx : x.wf) (hl : l.length ≤ 1400000000000) :
    ∃ sv w1 v2 w2, (Instr.buildSlice 93 1 #[(0, .agg x.c.toArray)]).run Try.prog wr = .ok sv w1 ∧ (Builtin.append_ #[93, 93] 93 #[lv, sv]).run Try.prog w1 = .ok v2 w2 ∧ RwI w (l ++ [x]) v2 w2 := by
  obtain ⟨sv, w1, v2, w2, e1, e2, o, b1, z1, g, q⟩ := RowT.run_push RE_is wr w.heap.size lv l x h.own hx (by unfold maxLen; omega) (by show _ * 88 ≤ _; omega) h.bel.size
  refine ⟨sv, w1, v2, w2, e1, e2, o, ?_⟩
  have b2 : Below w.heap.size w w1 := h.bel.trans (b1.mono h.bel.size)
  exact ⟨g.os.trans b2.os, g.tape.trans b2.tape, g.output.trans b2.output, Nat.le_trans b2.size g.size, fun k hk => (g.block k (Nat.lt_of_lt_of_le hk b2.size) (fun e => by
    have := (h.own.cells (k := k) (by rw [← e])).1; omega)).trans (b2.block k hk)⟩
theorem RwI.set {w wr : World} {l : List Elt} {lv : Value} (h : RwI w l lv wr) (ok : ∀ e ∈ l, RE.ok e) {i : Nat} (hi : i < l.length) {x : Elt} (hx : x.wf) :
    ∃ g cap, lv = .slice (some ⟨g, 0, none⟩) l.length cap ∧ ∃ w2, (Instr.storeAt 100 (.pointer (some ⟨g, 67 * i, none⟩)) (.agg x.c.toArray)).run Try.prog wr = .ok () w2 ∧ RwI w (l.set i x) lv w2 := by
  obtain ⟨g, cap, e, hg, w2, e2, o, t, z⟩ := RowT.own_set RE_is h.own ok hi hx
  refine ⟨g, cap, e, w2, e2, o, h.bel.trans (t.below h.bel.size (fun k hk => (h.own.cells hk).1))⟩
theorem RwI.drew {w wr : World} {l : List Elt} {lv : Value} (h : RwI w l lv wr) : RwI w l lv wr.drew := ⟨h.own.below ((Below.refl _ _).drew), h.bel.drew⟩
set_option maxHeartbeats 8000000 in
theorem row_at {w : World} {base d : Nat} {v : Value} {R : List Elt} (h : RefAt w base d v R) : Calls Try.prog 84 #[.pointer (some ⟨d, 0, none⟩)] w fun e w' => ∃ v, e = .returned v ∧ RE.Own w' w.heap.size v (rowR R) ∧ Below w.heap.size w w' := by
  obtain ⟨n, hn⟩ : ∃ n, R.length = n := ⟨_, rfl⟩
  have hN := h.len
  rw [hn] at hN
  have HN := hidMk hn
  have HH := hidMk h
  have st0 : Hid (RwI w (rowR (R.take 0)) (.slice none 0 0) w) := ⟨RowT.own_nil RE _ _, Below.refl _ _⟩
  clear hn
  go_enter Try.func84, Try.ntmps84
  go_wp2
  go_loopw [3, 4] (fun v3 v4 wr => ∃ (i : Nat) (lv : Value), lv = v3 ∧ v4 = .int .i64 (i : Int) ∧ i ≤ n ∧ Hid (RwI w (rowR (R.take i)) lv wr)) (fun v3 v4 wr => n - (match v4 with | .int _ i => i.toNat | _ => 0))
  case atStart => exact ⟨0, _, rfl, rfl, Nat.zero_le _, st0⟩
  case round =>
    clear st0
    obtain ⟨i, lv, rfl, rfl, hin, hI⟩ := hrel
    have href : RefAt wr base d v R := HH.out.below hI.out.bel
    obtain ⟨ea, ec, ev, _⟩ := href.open
    rw [HN.out] at ev
    have hc0 := href.c0
    rw [ev] at hc0
    by_cases hi : i < n
    · have hi' : i < R.length := by rw [HN.out]; exact hi
      have hsp : R = R.take i ++ R[i] :: R.drop (i + 1) := by rw [List.getElem_cons_drop]; exact (List.take_append_drop i R).symm
      have hTk : Hid (R.take (i + 1) = R.take i ++ [R[i]]) := by show _ = _; rw [List.take_add_one, List.getElem?_eq_getElem hi']; rfl
      have okT : RefOk (R.take i) := by have := h.ok; rw [hsp] at this; exact this.left
      have hbh := h.ok.bh (R.take i) R[i] (R.drop (i + 1)) hsp
      obtain ⟨eb, eo, ec2, e1, hl, hwf, hra⟩ := HH.out.get hi'
      rw [HN.out] at e1
      have hrl : (rowR (R.take i)).length = i := by rw [row_len, List.length_take]; omega
      have HWL := hidMk (row_wf okT)
      have HNX : Hid (∀ a, AtIs (rowR (R.take i)) R[i].bh i a → rowR (R.take (i + 1)) = (rowR (R.take i)).take a ++ R[i] :: (rowR (R.take i)).drop a) := fun a q => by
        rw [hTk.out, rowR_snoc]
        exact put_at okT.row.nd (fun e he => (okT.row.ok e he).2.2) (by rw [has_row]; exact hbh) (by rw [hrl]; exact q) _
      obtain ⟨l, hl2⟩ : ∃ l, rowR (R.take i) = l := ⟨_, rfl⟩
      rw [hl2] at hI hrl HWL HNX
      have HRL := hidMk hrl
      have HEV := hidMk e1
      have HRA : Hid (∀ W, Below w.heap.size w W → W.heap[d]? = some (.cells #[.slice (some ⟨eb, eo, none⟩) n ec2] 95 (0, 0)) ∧ W.rangeAt eb (eo + 67 * i) R[i].c) := fun W b => ⟨by
          have := (HH.out.below b).c0
          rw [HEV.out] at this
          exact this, rangeAt_below hra b hl⟩
      generalize R[i] = x at *
      obtain ⟨l', hl'⟩ : ∃ l', rowR (R.take (i + 1)) = l' := ⟨_, rfl⟩
      rw [hl'] at HNX
      have HL' := hidMk hl'
      clear hl'
      clear hsp hTk okT hbh hl2 hrl hra ev href e1 hl
      go_upto_region 5 with fail
      refine drow5 (g := true) _ _ _ rfl rfl rfl hc0 (decide_eq_true (by omega)) ?_
      intro a' w1 hw ha
      subst ha
      obtain rfl : w1 = wr := hw
      simp only [Act.put, List.setIfInBounds_toArray, List.set_cons_zero, List.set_cons_succ]
      clear hc0
      generalize w1 = w2 at *
      go_wp2
      go_loopw [5, 6] (fun v5 v6 wr => ∃ (at' j : Nat), v5 = .int .i64 (at' : Int) ∧ v6 = .int .i64 (j : Int) ∧ j ≤ i ∧ Hid (RwI w l lv wr) ∧ Hid (AtIs l x.bh j at')) (fun v5 v6 wr => i - (match v6 with | .int _ i => i.toNat | _ => 0))
      case atStart => exact ⟨0, 0, rfl, rfl, Nat.zero_le _, hI, AtIs.zero _ _⟩
      case round =>
        clear hI
        obtain ⟨at', j, rfl, rfl, hji, hJ, hat⟩ := hrel
        by_cases hj : j < i
        · have hj' : j < l.length := by rw [HRL.out]; exact hj
          obtain ⟨lb, lc, e1, hr2⟩ := hJ.out.own.zero RE_is HWL.out hj'
          rw [HRL.out] at e1
          obtain rfl := e1
          have hy : l[j].wf := HWL.out _ (List.getElem_mem hj')
          have HIT : Hid (l[j].id = x.bh → AtIs l x.bh (j + 1) (j + 1)) := fun q => AtIs.hit hj' q
          have MIS : Hid (l[j].id ≠ x.bh → AtIs l x.bh (j + 1) at') := fun q => AtIs.miss hj' q hat.out
          generalize l[j] = y at *
          obtain ⟨r1, r2⟩ := HRA.out _ hJ.out.bel
          go_upto_region 11 with fail
          refine drow11 (x := x) (y := y) (q := i) (j := j) (g := decide (y.id = x.bh)) _ _ _ rfl rfl rfl rfl rfl hwf hi (by omega) hy hj (by omega) rfl r1 r2 hr2 ?_
          intro a' w3 hw ha
          subst ha
          obtain rfl : w3 = wr.drew := hw
          simp only [Act.put, List.setIfInBounds_toArray, List.set_cons_zero, List.set_cons_succ]
          have hJ2 := hidMk hJ.out.drew
          generalize wr.drew = w3 at *
          clear hJ r1 r2 hr2 hat
          cases hd : decide (y.id = x.bh) with
          | true =>
            have H2 := hidMk (HIT.out (of_decide_eq_true hd))
            clear hd HIT MIS
            go_wp2
            have hq : ((j : Int) + 1) = ((j + 1 : Nat) : Int) := by omega
            rw [hq]
            refine ⟨⟨j + 1, j + 1, rfl, rfl, hj, hJ2, H2⟩, ?_⟩
            show i - ((j + 1 : Nat) : Int).toNat < i - (j : Int).toNat
            omega
          | false =>
            have H2 := hidMk (MIS.out (of_decide_eq_false hd))
            clear hd HIT MIS
            go_wp2
            have hq : ((j : Int) + 1) = ((j + 1 : Nat) : Int) := by omega
            rw [hq]
            refine ⟨⟨at', j + 1, rfl, rfl, hj, hJ2, H2⟩, ?_⟩
            show i - ((j + 1 : Nat) : Int).toNat < i - (j : Int).toNat
            omega
        · obtain rfl : i = j := by omega
          have ale := hat.out.le
          rw [HRL.out] at ale
          have HL2 := hidMk (HNX.out _ hat.out)
          obtain ⟨la, lc, e1⟩ := hJ.out.slice HWL.out
          rw [HRL.out] at e1
          obtain rfl := e1
          obtain ⟨sv, w3, v2, w4, e2, e3, P4⟩ := hJ.out.push zElt_wf (by have := HRL.out; omega)
          go_upto_region 13 with fail
          refine drow13 (lv := .slice la i lc) _ _ _ rfl rfl e2 e3 ?_
          intro a' w5 hw ha
          subst ha
          obtain rfl : w5 = w4 := hw
          simp only [Act.put, List.setIfInBounds_toArray, List.set_cons_zero, List.set_cons_succ]
          have P5 : RwI w (l.take i ++ zElt :: l.drop i) v2 w5 := by
            have e5 : l.take i ++ zElt :: l.drop i = l ++ [zElt] := by rw [List.take_of_length_le (by rw [HRL.out]; exact Nat.le_refl _), List.drop_of_length_le (by rw [HRL.out]; exact Nat.le_refl _)]
            rw [e5]; exact P4
          have HWS : Hid (∀ (kk : Nat) (y : Elt), y.wf → ∀ e ∈ l.take kk ++ y :: l.drop kk, RE.ok e) := fun kk y hy e he => by
            rcases List.mem_append.1 he with q | q
            · exact HWL.out e (List.mem_of_mem_take q)
            · rcases List.mem_cons.1 q with rfl | q
              · exact hy
              · exact HWL.out e (List.mem_of_mem_drop q)
          have hsl : ∀ kk y, kk ≤ i → (l.take kk ++ y :: l.drop kk).length = i + 1 := fun kk y hk => by rw [shift_len l (by rw [HRL.out]; exact hk), HRL.out]
          have HSL := hidMk hsl
          obtain ⟨ga, gc, e6⟩ := P5.slice (HWS.out i zElt zElt_wf)
          rw [hsl i zElt (Nat.le_refl _)] at e6
          obtain rfl := e6
          have st2 : Hid (∃ y : Elt, y.wf ∧ RwI w (l.take i ++ y :: l.drop i) (.slice ga (i + 1) gc) w5) := ⟨zElt, zElt_wf, P5⟩
          clear P4 P5 hJ e2 e3 hat hsl hji
          generalize wr = w6 at *
          go_wp2
          have hq0 : ((i : Int) + 1 - 1) = (i : Int) := by omega
          try rw [hq0]
          go_loopw [7] (fun v7 wr => ∃ (kk : Nat), v7 = .int .i64 (kk : Int) ∧ at' ≤ kk ∧ kk ≤ i ∧ Hid (∃ y : Elt, y.wf ∧ RwI w (l.take kk ++ y :: l.drop kk) (.slice ga (i + 1) gc) wr)) (fun v7 wr => (match v7 with | .int _ i => i.toNat | _ => 0))
          case atStart => exact ⟨i, rfl, ale.2, Nat.le_refl _, st2⟩
          case round =>
            clear st2
            obtain ⟨kk, rfl, hka, hki, hK⟩ := hrel
            obtain ⟨y, hy, hK2⟩ := hK.out
            by_cases hk : at' < kk
            · obtain ⟨j, rfl⟩ : ∃ j, kk = j + 1 := ⟨kk - 1, by omega⟩
              have hjl : j < l.length := by have := HRL.out; omega
              have hz : l[j].wf := HWL.out _ (List.getElem_mem hjl)
              obtain ⟨lb, cap, e1, w7, e2, P7⟩ := hK2.set (HWS.out _ y hy) (i := j + 1) (by rw [HSL.out _ _ hki]; omega) hz
              rw [HSL.out _ _ hki] at e1
              cases e1
              have hget : (l.take (j + 1) ++ y :: l.drop (j + 1))[j]? = some l[j] := by
                have := shift_get (l := l) (k := j + 1) (by omega) (by omega) y
                simpa using this
              obtain ⟨hjx, hje⟩ := List.getElem?_eq_some_iff.1 hget
              obtain ⟨g2, c2, e3, hr3⟩ := hK2.own.zero RE_is (HWS.out _ y hy) hjx
              rw [hje] at hr3
              rw [HSL.out _ _ hki] at e3
              cases e3
              have P8 : RwI w (l.take j ++ l[j] :: l.drop j) (.slice (some ⟨lb, 0, none⟩) (i + 1) gc) w7 := by
                have := shift_step (l := l) (k := j + 1) (by omega) (by omega) y
                simp only [Nat.add_sub_cancel] at this
                rw [this] at P7
                exact P7
              have hz2 : Hid (∃ y : Elt, y.wf ∧ RwI w (l.take j ++ y :: l.drop j) (.slice (some ⟨lb, 0, none⟩) (i + 1) gc) w7) := ⟨l[j], hz, P8⟩
              clear P7 P8
              generalize l[j] = z at *
              go_upto_region 17 with fail
              refine drow17 (y := z) (q := i + 1) (j := j) _ _ _ rfl rfl rfl hz (by omega) (by omega) hr3 e2 ?_
              intro a' w8 hw ha
              subst ha
              obtain rfl : w8 = w7 := hw
              simp only [Act.put, List.setIfInBounds_toArray, List.set_cons_zero, List.set_cons_succ]
              clear hr3 hget hjx hje e2 hK2 hK
              go_wp2
              have hq : (((j + 1 : Nat) : Int) - 1) = (j : Int) := by omega
              try rw [hq]
              have hq2 : ((j : Int) + 1 - 1) = (j : Int) := by omega
              try rw [hq2]
              refine ⟨⟨j, rfl, by omega, by omega, hz2⟩, ?_⟩
              show (j : Int).toNat < ((j + 1 : Nat) : Int).toNat
              omega
            · obtain rfl : at' = kk := by omega
              obtain ⟨lb, cap, e1, w7, e2, P7⟩ := hK2.set (HWS.out _ y hy) (i := at') (by rw [HSL.out _ _ hki]; omega) hwf
              rw [HSL.out _ _ hki] at e1
              cases e1
              rw [shift_last (by rw [HRL.out]; exact hki), ← HL2.out] at P7
              have HP := hidMk P7
              obtain ⟨r1, r2⟩ := HRA.out _ hK2.bel
              go_upto_region 18 with fail
              refine drow18 (x := x) (q := i + 1) (p := at') _ _ _ rfl rfl rfl rfl rfl hwf hi (by omega) (by omega) (by omega) r1 r2 e2 ?_
              intro a' w8 hw ha
              subst ha
              obtain rfl : w8 = w7 := hw
              simp only [Act.put, List.setIfInBounds_toArray, List.set_cons_zero, List.set_cons_succ]
              clear P7 e2 hK2 hK r1 r2 HL2 HNX
              go_wp2
              have hq : ((i : Int) + 1) = ((i + 1 : Nat) : Int) := by omega
              rw [hq]
              refine ⟨⟨i + 1, _, rfl, rfl, hi, by rw [HL'.out]; exact HP⟩, ?_⟩
              show n - ((i + 1 : Nat) : Int).toNat < n - (i : Int).toNat
              omega
    · obtain rfl : n = i := by omega
      rw [List.take_of_length_le (by rw [HN.out]; exact Nat.le_refl _)] at hI
      go_upto_region 5 with fail
      refine drow5 (g := false) _ _ _ rfl rfl rfl hc0 (decide_eq_false (by omega)) ?_
      intro a' w1 hw ha
      subst ha
      obtain rfl : w1 = wr := hw
      simp only [Act.put, List.setIfInBounds_toArray, List.set_cons_zero, List.set_cons_succ]
      clear hc0 ev href
      go_wp2
      go_ret
      exact ⟨_, rfl, hI.out.own, hI.out.bel⟩
theorem row_nil (w : World) : Calls Try.prog 84 #[.pointer none] w fun e w' => ∃ v, e = .returned v ∧ RE.Own w' w.heap.size v [] ∧ Below w.heap.size w w' := by
  go_enter Try.func84, Try.ntmps84
  go_wp2
  go_ret
  exact ⟨_, rfl, RowT.own_nil RE _ _, Below.refl _ _⟩
theorem row_ref {w : World} {base : Nat} {pv : Value} {R : List Elt} (h : RefV w base pv R) : Calls Try.prog 84 #[pv] w fun e w' => ∃ a c, e = .returned (.slice a (rowR R).length c) ∧ RE.Own w' w.heap.size (.slice a (rowR R).length c) (rowR R) ∧ Below w.heap.size w w' := by
  have hw := row_wf h.ok.1
  have : Calls Try.prog 84 #[pv] w fun e w' => ∃ v, e = .returned v ∧ RE.Own w' w.heap.size v (rowR R) ∧ Below w.heap.size w w' := by
    rcases h with ⟨rfl, rfl⟩ | ⟨d, v, rfl, h⟩
    · exact row_nil w
    · exact row_at h
  refine this.mono ?_
  rintro e w' ⟨v, rfl, o, b⟩
  obtain ⟨a, c, rfl, _⟩ := o.open RE_is hw
  exact ⟨a, c, rfl, o, b⟩
structure IdI (w : World) (L : List Elt) (rv : Value) (l : List IdK) (lv : Value) (wr : World) : Prop where
  row : RE.Own wr w.heap.size rv L
  own : OwnI wr w.heap.size lv l
  bel : Below w.heap.size w wr
theorem OwnI.blk {w : World} {base : Nat} {v : Value} {l : List IdK} (h : OwnI w base v l) {k : Nat} (hk : v.ownBlock = some k) : base ≤ k ∧ ∃ c, w.heap[k]? = some (.cells c 32 (0, 0)) := by
  rcases h.2 with ⟨rfl, _⟩ | ⟨g, cap, cur, rfl, hb, hg, _⟩
  · cases hk
  · simp only [Value.ownBlock, Option.some.injEq] at hk
    subst hk
    exact ⟨hb, _, hg⟩
theorem IdI.push {w wr : World} {L : List Elt} {rv : Value} {l : List IdK} {lv : Value} (h : IdI w L rv l lv wr) {x : IdK} (hx : x.ok) (hl : l.length ≤ 1400000000000) :
    ∃ sv w1 v2 w2, (Instr.buildSlice 44 1 #[(0, x.v)]).run Try.prog wr = .ok sv w1 ∧ (Builtin.append_ #[44, 44] 44 #[lv, sv]).run Try.prog w1 = .ok v2 w2 ∧ IdI w L rv (l ++ [x]) v2 w2 := by
  have b1 : Below wr.heap.size wr (wr.alloc (.cells (IdK.c x).toArray 32)) := (Below.refl _ _).alloc (Nat.le_refl _) _
  obtain ⟨v2, w2, e2, o2, g, q⟩ := run_appI _ w.heap.size lv l _ [x] 1 (h.own.below b1) (ids_lit wr x 32) (fun y hy => by rw [List.mem_singleton.1 hy]; exact hx) (by simp; omega) (Nat.le_trans h.bel.size b1.size)
  refine ⟨_, _, v2, w2, run_bsI x hx wr, e2, ?_, o2, ?_⟩
  · refine (h.row.below b1).keep (fun k hk => ?_)
    refine g.block k ((h.row.below b1).lt hk) (fun e => ?_)
    obtain ⟨_, c1, q1⟩ := (h.row.below b1).cells hk
    obtain ⟨_, c2, q2⟩ := (h.own.below b1).blk e.symm
    rw [q1] at q2
    simp [RE] at q2
  · have b2 : Below w.heap.size w (wr.alloc (.cells (IdK.c x).toArray 32)) := h.bel.trans (b1.mono h.bel.size)
    exact b2.grown g b2.size (fun k hk => (h.own.blk hk).1)
theorem IdI.get {w wr : World} {L : List Elt} {rv : Value} {l : List IdK} {lv : Value} (h : IdI w L rv l lv wr) (ok : ∀ e ∈ L, RE.ok e) {i : Nat} (hi : i < L.length) : ∃ eb ec, rv = .slice (some ⟨eb, 0, none⟩) L.length ec ∧ wr.rangeAt eb (0 + 67 * i) L[i].c := by
  obtain ⟨g, cap, e, hr⟩ := h.row.zero RE_is ok hi
  exact ⟨g, cap, e, by rw [Nat.zero_add]; exact hr⟩
theorem vis_take (L : List Elt) (c : Bool) {i : Nat} (hi : i < L.length) : idsE (L.take (i + 1)) c = idsE (L.take i) c ++ (if cE c L[i] = true then [L[i].id] else []) := by
  unfold idsE visE
  rw [List.take_add_one, List.getElem?_eq_getElem hi, Option.toList, List.filter_append, List.map_append, List.filter_cons, List.filter_nil]
  split <;> rfl
theorem ids_len (L : List Elt) (c : Bool) : (idsE L c).length ≤ L.length := by
  unfold idsE
  rw [List.length_map]
  exact List.length_filter_le _ _
theorem idsE_ok {L : List Elt} (ok : ∀ e ∈ L, RE.ok e) (c : Bool) : ∀ x ∈ idsE L c, x.ok := fun x hx => by
  obtain ⟨e, he, rfl⟩ := List.mem_map.1 hx
  exact (ok e (List.mem_filter.1 he).1).1
section
variable {w : World} {base : Nat} {pv : Value} {R : List Elt}
theorem ids_own (h : RefV w base pv R) : Calls Try.prog 45 #[pv] w fun e w' => ∃ v, e = .returned v ∧ OwnI w' w.heap.size v (idsE (rowR R) false) ∧ Below w.heap.size w w' := by
  have HR := hidMk (row_ref h)
  have HWF := hidMk (row_wf h.ok.1)
  have hln : (rowR R).length ≤ 1400000000000 := by rw [row_len]; exact h.ok.2
  generalize rowR R = L at *
  obtain ⟨n, hn⟩ : ∃ n, L.length = n := ⟨_, rfl⟩
  rw [hn] at HR hln
  have HN := hidMk hn
  clear hn h
  go_enter Try.func45, Try.ntmps45
  go_wp2_with (first
    | (go_at_call 84; refine HR.out.mono ?_; rintro e w1 ⟨ra, rc, rfl, o1, b1⟩)
    | fail)
  have st0 : Hid (IdI w L (.slice ra n rc) (idsE (L.take 0) false) (.slice none 0 0) w1) := ⟨o1, ⟨by simp [idsE, visE, flatI], .inl ⟨rfl, by simp [idsE, visE]⟩⟩, b1⟩
  clear o1 b1 HR
  go_loopw [3, 5] (fun v3 v5 wr => ∃ (i : Nat) (lv : Value), lv = v3 ∧ v5 = .int .i64 (i : Int) ∧ i ≤ n ∧ Hid (IdI w L (.slice ra n rc) (idsE (L.take i) false) lv wr)) (fun v3 v5 wr => n - (match v5 with | .int _ i => i.toNat | _ => 0))
  case atStart => exact ⟨0, _, rfl, rfl, Nat.zero_le _, st0⟩
  case round =>
    clear st0
    obtain ⟨i, lv, rfl, rfl, hin, hI⟩ := hrel
    by_cases hi : i < n
    · have hi' : i < L.length := by rw [HN.out]; exact hi
      obtain ⟨eb, ec, e1, hra⟩ := hI.out.get HWF.out hi'
      rw [HN.out] at e1
      cases e1
      have hwf : L[i].wf := HWF.out _ (List.getElem_mem hi')
      have HT := hidMk (vis_take L false hi')
      have hll : (idsE (L.take i) false).length ≤ 1400000000000 := by
        have h1 := ids_len (L.take i) false
        rw [List.length_take] at h1
        omega
      obtain ⟨sv, w2, v2, w3, e2, e3, P3⟩ := hI.out.push hwf.1 hll
      have HP : Hid (IdI w L (.slice (some ⟨eb, 0, none⟩) n rc) (idsE (L.take (i + 1)) false) v2 w3) := by
        rw [HT.out, show (if cE false L[i] = true then [L[i].id] else []) = [L[i].id] from rfl]; exact P3
      clear P3
      generalize L[i] = x at *
      go_upto_region 6 with fail
      refine dids6 (x := x) (lv := lv) _ _ _ rfl rfl rfl rfl hwf hi (by omega) hra e2 e3 ?_
      intro a' w4 hw ha
      subst ha
      obtain rfl : w4 = w3 := hw
      simp only [Act.put, List.setIfInBounds_toArray, List.set_cons_zero, List.set_cons_succ]
      clear e2 e3 hI hra hll
      go_wp2
      have hq : ((i : Int) + 1) = ((i + 1 : Nat) : Int) := by omega
      rw [hq]
      refine ⟨⟨i + 1, _, rfl, rfl, hi, HP⟩, ?_⟩
      show n - ((i + 1 : Nat) : Int).toNat < n - (i : Int).toNat
      omega
    · obtain rfl : n = i := by omega
      rw [List.take_of_length_le (by rw [HN.out]; exact Nat.le_refl _)] at hI
      go_wp2
      go_ret
      exact ⟨_, rfl, hI.out.own, hI.out.bel⟩
theorem ids_ref (h : RefV w base pv R) : Calls Try.prog 45 #[pv] w fun e w' => ∃ a c, e = .returned (.slice a (idsE (rowR R) false).length c) ∧ OwnI w' w.heap.size (.slice a (idsE (rowR R) false).length c) (idsE (rowR R) false) ∧ Below w.heap.size w w' := by
  refine (ids_own h).mono ?_
  rintro e w' ⟨v, rfl, o, b⟩
  obtain ⟨a, c, rfl, _⟩ := o.open (idsE_ok (row_wf h.ok.1) _)
  exact ⟨a, c, rfl, o, b⟩
theorem live_own (h : RefV w base pv R) : Calls Try.prog 46 #[pv] w fun e w' => ∃ v, e = .returned v ∧ OwnI w' w.heap.size v (idsE (rowR R) true) ∧ Below w.heap.size w w' := by
  have HR := hidMk (row_ref h)
  have HWF := hidMk (row_wf h.ok.1)
  have hln : (rowR R).length ≤ 1400000000000 := by rw [row_len]; exact h.ok.2
  generalize rowR R = L at *
  obtain ⟨n, hn⟩ : ∃ n, L.length = n := ⟨_, rfl⟩
  rw [hn] at HR hln
  have HN := hidMk hn
  clear hn h
  go_enter Try.func46, Try.ntmps46
  go_wp2_with (first
    | (go_at_call 84; refine HR.out.mono ?_; rintro e w1 ⟨ra, rc, rfl, o1, b1⟩)
    | fail)
  have st0 : Hid (IdI w L (.slice ra n rc) (idsE (L.take 0) true) (.slice none 0 0) w1) := ⟨o1, ⟨by simp [idsE, visE, flatI], .inl ⟨rfl, by simp [idsE, visE]⟩⟩, b1⟩
  clear o1 b1 HR
  go_loopw [3, 5] (fun v3 v5 wr => ∃ (i : Nat) (lv : Value), lv = v3 ∧ v5 = .int .i64 (i : Int) ∧ i ≤ n ∧ Hid (IdI w L (.slice ra n rc) (idsE (L.take i) true) lv wr)) (fun v3 v5 wr => n - (match v5 with | .int _ i => i.toNat | _ => 0))
  case atStart => exact ⟨0, _, rfl, rfl, Nat.zero_le _, st0⟩
  case round =>
    clear st0
    obtain ⟨i, lv, rfl, rfl, hin, hI⟩ := hrel
    by_cases hi : i < n
    · have hi' : i < L.length := by rw [HN.out]; exact hi
      obtain ⟨eb, ec, e1, hra⟩ := hI.out.get HWF.out hi'
      rw [HN.out] at e1
      cases e1
      have hwf : L[i].wf := HWF.out _ (List.getElem_mem hi')
      have HT := hidMk (vis_take L true hi')
      have hll : (idsE (L.take i) true).length ≤ 1400000000000 := by
        have h1 := ids_len (L.take i) true
        rw [List.length_take] at h1
        omega
      obtain ⟨sv, w2, v2, w3, e2, e3, P3⟩ := hI.out.push hwf.1 hll
      have HP3 := hidMk P3
      have HTT : Hid (L[i].sh = true → idsE (L.take (i + 1)) true = idsE (L.take i) true ++ [L[i].id]) := fun q => by
        rw [HT.out, if_pos (by simpa [cE] using q)]
      have HTF : Hid (L[i].sh = false → idsE (L.take (i + 1)) true = idsE (L.take i) true) := fun q => by
        rw [HT.out, if_neg (by simp [cE, q]), List.append_nil]
      clear P3 HT
      generalize L[i] = x at *
      go_upto_region 6 with fail
      refine dliv6 (x := x) _ _ _ rfl rfl rfl hwf hi (by omega) hra ?_
      intro a' w4 hw ha
      subst ha
      obtain rfl : w4 = wr := hw
      simp only [Act.put, List.setIfInBounds_toArray, List.set_cons_zero, List.set_cons_succ]
      cases hd : x.sh with
      | true =>
        have HP : Hid (IdI w L (.slice (some ⟨eb, 0, none⟩) n rc) (idsE (L.take (i + 1)) true) v2 w3) := by
          rw [HTT.out hd]; exact HP3
        clear hd HTT HTF
        go_upto_region 7 with fail
        refine dliv7 (x := x) (lv := lv) _ _ _ rfl rfl rfl rfl hwf hi (by omega) hra e2 e3 ?_
        intro a' w5 hw ha
        subst ha
        obtain rfl : w5 = w3 := hw
        simp only [Act.put, List.setIfInBounds_toArray, List.set_cons_zero, List.set_cons_succ]
        clear e2 e3 hI hra hll
        go_wp2
        have hq : ((i : Int) + 1) = ((i + 1 : Nat) : Int) := by omega
        rw [hq]
        refine ⟨⟨i + 1, _, rfl, rfl, hi, HP⟩, ?_⟩
        show n - ((i + 1 : Nat) : Int).toNat < n - (i : Int).toNat
        omega
      | false =>
        have HP : Hid (IdI w L (.slice (some ⟨eb, 0, none⟩) n rc) (idsE (L.take (i + 1)) true) lv w4) := by
          rw [HTF.out hd]; exact hI
        clear hd HTT HTF e2 e3 hI hra hll HP3
        go_wp2
        have hq : ((i : Int) + 1) = ((i + 1 : Nat) : Int) := by omega
        rw [hq]
        refine ⟨⟨i + 1, _, rfl, rfl, hi, HP⟩, ?_⟩
        show n - ((i + 1 : Nat) : Int).toNat < n - (i : Int).toNat
        omega
    · obtain rfl : n = i := by omega
      rw [List.take_of_length_le (by rw [HN.out]; exact Nat.le_refl _)] at hI
      go_wp2
      go_ret
      exact ⟨_, rfl, hI.out.own, hI.out.bel⟩
theorem live_ref (h : RefV w base pv R) : Calls Try.prog 46 #[pv] w fun e w' => ∃ a c, e = .returned (.slice a (idsE (rowR R) true).length c) ∧ OwnI w' w.heap.size (.slice a (idsE (rowR R) true).length c) (idsE (rowR R) true) ∧ Below w.heap.size w w' := by
  refine (live_own h).mono ?_
  rintro e w' ⟨v, rfl, o, b⟩
  obtain ⟨a, c, rfl, _⟩ := o.open (idsE_ok (row_wf h.ok.1) _)
  exact ⟨a, c, rfl, o, b⟩
theorem len_ref (h : RefV w base pv R) : Calls Try.prog 42 #[pv] w fun e w' => e = .returned (.int .i64 ((visE (rowR R) false).length : Int)) ∧ Below w.heap.size w w' := by
  have HR := hidMk (row_ref h)
  have hv : (visE (rowR R) false).length = (rowR R).length := by simp [idsE, visE_all]
  rw [hv]
  generalize (rowR R).length = n at *
  clear hv
  go_enter Try.func42, Try.ntmps42
  go_wp2_with (first
    | (go_at_call 84; refine HR.out.mono ?_; rintro e w1 ⟨ra, rc, rfl, o1, b1⟩)
    | fail)
  go_ret
  exact ⟨rfl, b1⟩
theorem shown_ref (h : RefV w base pv R) : Calls Try.prog 43 #[pv] w fun e w' => e = .returned (.int .i64 ((visE (rowR R) true).length : Int)) ∧ Below w.heap.size w w' := by
  have HR := hidMk (live_ref h)
  have hv : (visE (rowR R) true).length = (idsE (rowR R) true).length := by simp [idsE, visE_all]
  rw [hv]
  generalize (idsE (rowR R) true).length = n at *
  clear hv
  go_enter Try.func43, Try.ntmps43
  go_wp2_with (first
    | (go_at_call 46; refine HR.out.mono ?_; rintro e w1 ⟨ra, rc, rfl, o1, b1⟩)
    | fail)
  go_ret
  exact ⟨rfl, b1⟩
end
structure RNxt (w : World) (base d : Nat) (v : Value) (R' : List Elt) (v' : Value) (w' : World) : Prop where
  at' : RefAt w' base d v' R'
  tch : Tch (fun j => j = d ∨ v.ownBlock = some j) w w'
  own : ∀ k, v'.ownBlock = some k → v.ownBlock = some k ∨ w.heap.size ≤ k
theorem RNxt.same {w w' : World} {base d : Nat} {v : Value} {R : List Elt} (h : RefAt w base d v R) (b : Below w.heap.size w w') : RNxt w base d v R v w' := ⟨h.below b, tch_below b _, fun k hk => .inl hk⟩
theorem Elt.setSh (e : Elt) (s : Bool) (h : e.wf) : Elt.c { e with sh := s } = (Elt.c e).set 66 (.bool s) := by
  have l1 := IdK.len h.1
  have l2 := IdK.len h.2
  unfold Elt.c
  simp only
  rw [List.set_append_right _ _ (by omega), l1, List.set_append_right _ _ (by omega), l2]
  rfl
section
variable {w : World} {base d : Nat} {v : Value} {R : List Elt}
theorem insert_at (h : RefAt w base d v R) {k b : IdK} (hk : k.ok) (hb : b.ok) (hl : R.length + 1 ≤ 1400000000000) (hbase : base ≤ w.heap.size) : Calls Try.prog 11 #[.pointer (some ⟨d, 0, none⟩), k.v, b.v] w fun e w' => e = .returned (.int .i64 (insC R k b : Int)) ∧ ∃ v', RNxt w base d v (insD R k b) v' w' := by
  obtain ⟨hx, hy, bx, zx⟩ := two_boxes w k b
  have HFK : Hid (∀ W, RefAt W base d v R → Calls Try.prog 36 #[.pointer (some ⟨d, 0, none⟩), k.v] W fun e w' => e = .returned (.int .i64 (aheadE R false k)) ∧ Below W.heap.size W w') := fun W hW => find_at hW hk
  have HFB : Hid (∀ W, RefAt W base d v R → Calls Try.prog 36 #[.pointer (some ⟨d, 0, none⟩), b.v] W fun e w' => e = .returned (.int .i64 (aheadE R false b)) ∧ Below W.heap.size W w') := fun W hW => find_at hW hb
  have gK : decide (aheadE R false k ≥ 0) = hasE R k := by
    cases q : hasE R k with
    | true => exact decide_eq_true (rank_pos q)
    | false => exact decide_eq_false (by rw [rank_neg q]; omega)
  have gB : decide (aheadE R false b < 0) = !hasE R b := by
    cases q : hasE R b with
    | true => exact decide_eq_false (by have := rank_pos (c := false) q; omega)
    | false => exact decide_eq_true (by rw [rank_neg q]; omega)
  have HC : Hid (insC R k b = if k.n < 1 then 2 else if hasE R k = true then 5 else if b ≠ zId ∧ hasE R b = false then 4 else 0) := rfl
  have HD : Hid (insD R k b = if insC R k b = 0 then R ++ [⟨k, b, true⟩] else R) := rfl
  have HOK := hidMk (h.ok.ins hk hb)
  generalize insD R k b = R' at *
  generalize insC R k b = cc at *
  show Calls Try.prog 11 #[.pointer (some ⟨d, 0, none⟩), .agg k.c.toArray, .agg b.c.toArray] w _
  go_enter Try.func11, Try.ntmps11
  go_upto_region 3 with fail
  generalize (w.alloc (.cells k.c.toArray 32)).alloc (.cells b.c.toArray 32) = wx at *
  have hR1 := h.below bx
  have HZX := hidMk zx
  clear zx
  by_cases hn : k.n < 1
  · have e1 : cc = 2 := by rw [HC.out, if_pos hn]
    have e2 : R' = R := by rw [HD.out, if_neg (by rw [e1]; decide)]
    refine dins3 (k := k) (g := true) _ _ _ rfl rfl hk hx (decide_eq_true hn) ?_
    intro a' w1 hw ha
    subst ha
    obtain rfl : w1 = wx := hw
    simp only [Act.put, List.setIfInBounds_toArray, List.set_cons_zero, List.set_cons_succ]
    have E12 := hidMk (And.intro e1 e2)
    clear e1 e2 HC HD HFK HFB gK gB hn
    go_wp2
    go_ret
    exact ⟨by rw [E12.out.1]; rfl, v, by rw [E12.out.2]; exact RNxt.same h bx⟩
  · refine dins3 (k := k) (g := false) _ _ _ rfl rfl hk hx (decide_eq_false hn) ?_
    intro a' w1 hw ha
    subst ha
    obtain rfl : w1 = wx := hw
    simp only [Act.put, List.setIfInBounds_toArray, List.set_cons_zero, List.set_cons_succ]
    go_upto_region 5 with fail
    refine dins5 (k := k) (r := aheadE R false k) (g := hasE R k) (fun w' => Below w1.heap.size w1 w') _ _ _ rfl rfl rfl hk hx gK (HFK.out _ hR1) ?_
    intro a' w2 hw ha
    subst ha
    simp only [Act.put, List.setIfInBounds_toArray, List.set_cons_zero, List.set_cons_succ]
    have hR2 := hR1.below hw
    have hx2 := hx.below hw
    have hy2 := hy.below hw
    have b2 := bx.trans (hw.mono bx.size)
    have HN := hidMk hn
    clear HFK gK hw hn
    cases hq : hasE R k with
    | true =>
      have e1 : cc = 5 := by rw [HC.out, if_neg HN.out, if_pos hq]
      have e2 : R' = R := by rw [HD.out, if_neg (by rw [e1]; decide)]
      have E12 := hidMk (And.intro e1 e2)
      clear e1 e2 HC HD HFB gB hq
      go_wp2
      go_ret
      exact ⟨by rw [E12.out.1]; rfl, v, by rw [E12.out.2]; exact RNxt.same h b2⟩
    | false =>
      have HQ := hidMk hq
      clear hq
      have PUT : Hid (cc = 0 → ∀ w3, RefAt w3 base d v R → IdAt w3 w.heap.size k → IdAt w3 (w.heap.size + 1) b → Below w.heap.size w w3 → ∃ sv w4 va vn vc w5 w6, (Instr.buildSlice 93 1 #[(0, .agg (Elt.c ⟨k, b, true⟩).toArray)]).run Try.prog w3.drew = .ok sv w4 ∧ (Builtin.append_ #[93, 93] 93 #[v, sv]).run Try.prog w4 = .ok (.slice va vn vc) w5 ∧ (Instr.storeAt 93 (.pointer (some ⟨d, 0 + 0, none⟩)) (.slice va vn vc)).run Try.prog w5 = .ok () w6 ∧
          (w4.heap[d]? = some (.cells #[v] 95 (0, 0)) ∧ IdAt w4 w.heap.size k ∧ IdAt w4 (w.heap.size + 1) b) ∧ (w5.heap[d]? = some (.cells #[v] 95 (0, 0)) ∧ IdAt w5 w.heap.size k ∧ IdAt w5 (w.heap.size + 1) b) ∧ RNxt w base d v R' (.slice va vn vc) w6) := fun hc w3 hR3 hk3 hb3 b3 => by
        have hR4 := hR3.below ((Below.refl w3.heap.size w3).drew)
        obtain ⟨sv, w4, v2, w5, e1, e2, o, b1, z1, g, q⟩ := RowT.run_push RE_is w3.drew base v R ⟨k, b, true⟩ hR4.own ⟨hk, hb⟩ (by unfold maxLen; omega) (by show _ * 88 ≤ _; omega) (Nat.le_trans hbase b3.size)
        have hR' : R' = R ++ [⟨k, b, true⟩] := by rw [HD.out, if_pos hc]
        have okR : ∀ e ∈ R ++ [(⟨k, b, true⟩ : Elt)], RE.ok e := fun e he => by
          rcases List.mem_append.1 he with q | q
          · exact h.wf e q
          · rw [List.mem_singleton.1 q]; exact ⟨hk, hb⟩
        obtain ⟨va, vc, rfl, _⟩ := o.open RE_is okR
        have hd4 : w4.heap[d]? = some (.cells #[v] 95 (0, 0)) := (b1.block d hR4.lt).trans hR4.c0
        have hlt4 : d < w4.heap.size := (Array.getElem?_eq_some_iff.1 hd4).1
        have hd5 : w5.heap[d]? = some (.cells #[v] 95 (0, 0)) := (g.block d hlt4 (fun e => h.ne e.symm)).trans hd4
        have hb1 : ∀ j (kk : IdK), w.heap.size ≤ j → IdAt w3 j kk → IdAt w4 j kk ∧ IdAt w5 j kk := fun j kk hj hi => by
          have i4 : IdAt w4 j kk := (b1.block j hi.lt).trans hi
          refine ⟨i4, (g.block j i4.lt (fun e => ?_)).trans i4⟩
          have := h.own.lt e.symm
          omega
        obtain ⟨s1, s2⟩ := st_all (a := va) (n := (R ++ [(⟨k, b, true⟩ : Elt)]).length) (c := vc) hd5
        have tg : Tch (fun j => j = d ∨ v.ownBlock = some j) w w5 := by
          refine ((tch_below b3 _).drew).trans' (Tch.mono (O := fun j => v.ownBlock = some j) ?_ (fun j _ e => .inr e)) (fun j _ e => e)
          have t1 : Tch (fun j => v.ownBlock = some j) w3.drew w4 := tch_below b1 _
          exact t1.trans ⟨g.os, g.tape, g.output, g.size, fun j hj hn => g.block j hj (fun e => hn e.symm)⟩
        have hown6 : RE.Own (w5.setCell ⟨d, 0, none⟩ (.slice va (R ++ [(⟨k, b, true⟩ : Elt)]).length vc)) base (.slice va (R ++ [(⟨k, b, true⟩ : Elt)]).length vc) (R ++ [⟨k, b, true⟩]) := by
          refine o.keep (fun j hj => ?_)
          refine Below.heap_setCell _ _ _ _ (fun e => ?_)
          obtain ⟨_, c, q2⟩ := o.cells hj
          rw [show j = d from e] at q2
          rw [hd5] at q2
          simp [RE] at q2
        refine ⟨sv, w4, va, _, vc, w5, _, e1, e2, s1, ⟨hd4, (hb1 _ _ (Nat.le_refl _) hk3).1, (hb1 _ _ (by omega) hb3).1⟩, ⟨hd5, (hb1 _ _ (Nat.le_refl _) hk3).2, (hb1 _ _ (by omega) hb3).2⟩, ⟨s2, by rw [hR']; exact hown6, HOK.out, h.hd, by rw [hR', List.length_append]; exact hl⟩, tg.trans' (set_tch w5 d 0 _) (fun j _ e => .inl e), fun j hj => ?_⟩
        rcases q with e | e
        · exact .inl (e ▸ hj)
        · rw [e] at hj
          simp only [Option.some.injEq] at hj
          have := b1.size
          have := b3.size
          exact .inr (by have hd : w3.drew.heap.size = w3.heap.size := rfl; omega)
      obtain ⟨a0, c0, hv0, _⟩ := h.open
      have HV0 := hidMk hv0
      clear hv0
      by_cases hz : b = zId
      · have e1 : cc = 0 := by rw [HC.out, if_neg HN.out, if_neg (by rw [HQ.out]; decide), if_neg (fun q => q.1 hz)]
        obtain ⟨sv, w4, va, vn, vc, w5, w6, p1, p2, p3, p4, p5, p6⟩ := PUT.out e1 w2 hR2 hx2 hy2 b2
        rw [HV0.out] at p2 p4 p5
        have hc2 := hR2.c0
        rw [HV0.out] at hc2
        have E1 := hidMk e1
        have HP := hidMk p6
        clear PUT HC HD HFB gB e1 p6
        go_upto_region 7 with fail
        refine dins7a (b := b) _ _ _ rfl rfl rfl hb hz hy2 ?_
        intro a' w3 hw ha
        subst ha
        obtain rfl : w3 = w2 := hw
        simp only [Act.put, List.setIfInBounds_toArray, List.set_cons_zero, List.set_cons_succ]
        go_upto_region 9 with fail
        refine dins9 (k := k) (b := b) _ _ _ rfl rfl rfl rfl hk hb ⟨hc2, hx2, hy2⟩ p4 p5 p1 p2 p3 ?_
        intro a' w7 hw ha
        subst ha
        obtain rfl : w7 = w6 := hw
        simp only [Act.put, List.setIfInBounds_toArray, List.set_cons_zero, List.set_cons_succ]
        clear p1 p2 p3 p4 p5 hz
        go_wp2
        go_ret
        exact ⟨by rw [E1.out]; rfl, _, HP.out⟩
      · cases hqb : hasE R b with
        | false =>
          have e1 : cc = 4 := by rw [HC.out, if_neg HN.out, if_neg (by rw [HQ.out]; decide), if_pos ⟨hz, hqb⟩]
          have e2 : R' = R := by rw [HD.out, if_neg (by rw [e1]; decide)]
          have E12 := hidMk (And.intro e1 e2)
          rw [hqb] at gB
          clear e1 e2 HC HD PUT
          go_upto_region 7 with fail
          refine dins7b (b := b) (r := aheadE R false b) (g := true) (fun w' => Below w2.heap.size w2 w') _ _ _ rfl rfl rfl hb hz hy2 gB (HFB.out _ hR2) ?_
          intro a' w3 hw ha
          subst ha
          simp only [Act.put, List.setIfInBounds_toArray, List.set_cons_zero, List.set_cons_succ]
          have b3 := b2.trans (hw.mono b2.size)
          clear hz hqb HFB gB
          go_wp2
          go_ret
          exact ⟨by rw [E12.out.1]; rfl, v, by rw [E12.out.2]; exact RNxt.same h b3⟩
        | true =>
          have e1 : cc = 0 := by rw [HC.out, if_neg HN.out, if_neg (by rw [HQ.out]; decide), if_neg (fun q => by rw [hqb] at q; cases q.2)]
          rw [hqb] at gB
          have E1 := hidMk e1
          clear HC HD e1
          go_upto_region 7 with fail
          refine dins7b (b := b) (r := aheadE R false b) (g := false) (fun w' => Below w2.heap.size w2 w') _ _ _ rfl rfl rfl hb hz hy2 gB (HFB.out _ hR2) ?_
          intro a' w3 hw ha
          subst ha
          simp only [Act.put, List.setIfInBounds_toArray, List.set_cons_zero, List.set_cons_succ]
          have b3 := b2.trans (hw.mono b2.size)
          have hR3 := hR2.below hw
          have hx3 := hx2.below hw
          have hy3 := hy2.below hw
          obtain ⟨sv, w4, va, vn, vc, w5, w6, p1, p2, p3, p4, p5, p6⟩ := PUT.out E1.out w3 hR3 hx3 hy3 b3
          rw [HV0.out] at p2 p4 p5
          have hc2 := hR3.c0
          rw [HV0.out] at hc2
          have HP := hidMk p6
          clear PUT HFB gB p6 hz hqb
          go_upto_region 9 with fail
          refine dins9 (k := k) (b := b) _ _ _ rfl rfl rfl rfl hk hb ⟨hc2, hx3, hy3⟩ p4 p5 p1 p2 p3 ?_
          intro a' w7 hw ha
          subst ha
          obtain rfl : w7 = w6 := hw
          simp only [Act.put, List.setIfInBounds_toArray, List.set_cons_zero, List.set_cons_succ]
          clear p1 p2 p3 p4 p5
          go_wp2
          go_ret
          exact ⟨by rw [E1.out]; rfl, _, HP.out⟩
end
section
variable {w : World} {base d : Nat} {v : Value} {R : List Elt}
end
theorem new_ref (w : World) : Calls Try.prog 8 #[] w fun e w' => e = .returned (.pointer (some ⟨w.heap.size, 0, none⟩)) ∧ RefAt w' w.heap.size w.heap.size (.slice none 0 0) [] ∧ Below w.heap.size w w' := by
  have hb : ∀ W : World, (Instr.build 95 #[]).run Try.prog W = .ok (.agg #[.slice none 0 0]) W := fun W => by kernel_rfl
  have b1 : Below w.heap.size w (w.alloc (.cells #[.slice none 0 0] 95)) := (Below.refl _ _).alloc (Nat.le_refl _) _
  have hR : RefAt (w.alloc (.cells #[.slice none 0 0] 95)) w.heap.size w.heap.size (.slice none 0 0) [] := ⟨heap_alloc_new _ _, RowT.own_nil RE _ _, RefOk.nil, Nat.le_refl _, by simp⟩
  go_enter Try.func8, Try.ntmps8
  go_wp2_with (first
    | (refine wbuild0 rfl (hb _) rfl ?_)
    | fail)
  go_ret
  exact ⟨rfl, hR, b1⟩
section
variable {w : World} {base d : Nat} {v : Value} {R : List Elt}
end
def PV (w : World) (pv : Value) (E : List Elt) : Prop := (pv = .pointer none ∧ E = []) ∨ ∃ s : Sx, pv = .pointer (some ⟨s.sb, 0, none⟩) ∧ SeqAt w s E
theorem PV.below {w w' : World} {pv : Value} {E : List Elt} (h : PV w pv E) (b : Below w.heap.size w w') : PV w' pv E := by
  rcases h with h | ⟨s, e, h⟩
  · exact .inl h
  · exact .inr ⟨s, e, h.below b⟩
section
variable {w : World} {pv : Value} {E : List Elt}
theorem pv_len (h : PV w pv E) : Calls Try.prog 32 #[pv] w fun e w' => e = .returned (.int .i64 ((visE E false).length : Int)) ∧ Below w.heap.size w w' := by
  rcases h with ⟨rfl, rfl⟩ | ⟨s, rfl, h⟩
  · exact pnil_len w
  · exact len_any h
theorem pv_shown (h : PV w pv E) : Calls Try.prog 27 #[pv] w fun e w' => e = .returned (.int .i64 ((visE E true).length : Int)) ∧ Below w.heap.size w w' := by
  rcases h with ⟨rfl, rfl⟩ | ⟨s, rfl, h⟩
  · exact pnil_shown w
  · exact shown_any h
theorem ownI_nil (w : World) (base : Nat) : OwnI w base (.slice none 0 0) [] := ⟨rfl, .inl ⟨rfl, rfl⟩⟩
theorem pv_list (h : PV w pv E) (ok : ∀ e ∈ E, RE.ok e) : (Calls Try.prog 22 #[pv] w fun e w' => ∃ a c, e = .returned (.slice a (idsE E false).length c) ∧ OwnI w' w.heap.size (.slice a (idsE E false).length c) (idsE E false) ∧ Below w.heap.size w w') ∧ (Calls Try.prog 29 #[pv] w fun e w' => ∃ a c, e = .returned (.slice a (idsE E true).length c) ∧ OwnI w' w.heap.size (.slice a (idsE E true).length c) (idsE E true) ∧ Below w.heap.size w w') := by
  rcases h with ⟨rfl, rfl⟩ | ⟨s, rfl, h⟩
  · refine ⟨(pnil_ids w).mono ?_, (pnil_live w).mono ?_⟩
    · rintro e w' ⟨rfl, b⟩; exact ⟨none, 0, rfl, ownI_nil _ _, b⟩
    · rintro e w' ⟨rfl, b⟩; exact ⟨none, 0, rfl, ownI_nil _ _, b⟩
  · refine ⟨(ids_any h).mono ?_, (live_any h).mono ?_⟩
    · rintro e w' ⟨v, rfl, o, b⟩
      obtain ⟨a, c, rfl, _⟩ := OwnI.open (L := idsE E false) o (idsE_ok ok false)
      exact ⟨a, c, rfl, o, b⟩
    · rintro e w' ⟨v, rfl, o, b⟩
      obtain ⟨a, c, rfl, _⟩ := OwnI.open (L := idsE E true) o (idsE_ok ok true)
      exact ⟨a, c, rfl, o, b⟩
end
structure Two (w : World) (base : Nat) (pv rv : Value) (E R : List Elt) : Prop where
  pr : PV w pv E
  rf : RefV w base rv R
  eq : E = rowR R
section
variable {w : World} {base : Nat} {pv rv : Value} {E R : List Elt}
theorem Two.below {w' : World} (h : Two w base pv rv E R) (b : Below w.heap.size w w') : Two w' base pv rv E R := ⟨h.pr.below b, h.rf.below b, h.eq⟩
theorem Two.ok (h : Two w base pv rv E R) : ∀ e ∈ E, RE.ok e := by rw [h.eq]; exact row_wf h.rf.ok.1
theorem Two.len (h : Two w base pv rv E R) (c : Bool) : (idsE E c).length ≤ 1400000000000 := by
  have h1 := ids_len E c
  rw [h.eq, row_len] at h1
  have := h.rf.ok.2
  rw [h.eq]
  omega
theorem lists_any (h : Two w base pv rv E R) : Calls Try.prog 18 #[pv, rv] w fun e w' => e = .returned (.bool true) ∧ Below w.heap.size w w' := by
  have P1 : Hid (∀ W, Two W base pv rv E R → Calls Try.prog 32 #[pv] W fun e w' => e = .returned (.int .i64 ((visE E false).length : Int)) ∧ Below W.heap.size W w') := fun W hW => pv_len hW.pr
  have P2 : Hid (∀ W, Two W base pv rv E R → Calls Try.prog 42 #[rv] W fun e w' => e = .returned (.int .i64 ((visE E false).length : Int)) ∧ Below W.heap.size W w') := fun W hW => by rw [hW.eq]; exact len_ref hW.rf
  have P3 : Hid (∀ W, Two W base pv rv E R → Calls Try.prog 27 #[pv] W fun e w' => e = .returned (.int .i64 ((visE E true).length : Int)) ∧ Below W.heap.size W w') := fun W hW => pv_shown hW.pr
  have P4 : Hid (∀ W, Two W base pv rv E R → Calls Try.prog 43 #[rv] W fun e w' => e = .returned (.int .i64 ((visE E true).length : Int)) ∧ Below W.heap.size W w') := fun W hW => by rw [hW.eq]; exact shown_ref hW.rf
  have P5 : Hid (∀ W, Two W base pv rv E R → Calls Try.prog 22 #[pv] W fun e w' => ∃ a c, e = .returned (.slice a (idsE E false).length c) ∧ IdsAt w' a (idsE E false) ∧ Below W.heap.size W w') := fun W hW => (pv_list hW.pr hW.ok).1.mono fun e w' ⟨a, c, e1, o, b⟩ => by
    obtain ⟨a2, c2, e2, hi, _⟩ := o.open (idsE_ok hW.ok false)
    cases e2
    exact ⟨a, c, e1, hi, b⟩
  have P6 : Hid (∀ W, Two W base pv rv E R → Calls Try.prog 45 #[rv] W fun e w' => ∃ a c, e = .returned (.slice a (idsE E false).length c) ∧ IdsAt w' a (idsE E false) ∧ Below W.heap.size W w') := fun W hW => by
    have := ids_ref hW.rf
    rw [← hW.eq] at this
    exact this.mono fun e w' ⟨a, c, e1, o, b⟩ => by
      obtain ⟨a2, c2, e2, hi, _⟩ := o.open (idsE_ok hW.ok false)
      cases e2
      exact ⟨a, c, e1, hi, b⟩
  have P7 : Hid (∀ W, Two W base pv rv E R → Calls Try.prog 29 #[pv] W fun e w' => ∃ a c, e = .returned (.slice a (idsE E true).length c) ∧ IdsAt w' a (idsE E true) ∧ Below W.heap.size W w') := fun W hW => (pv_list hW.pr hW.ok).2.mono fun e w' ⟨a, c, e1, o, b⟩ => by
    obtain ⟨a2, c2, e2, hi, _⟩ := o.open (idsE_ok hW.ok true)
    cases e2
    exact ⟨a, c, e1, hi, b⟩
  have P8 : Hid (∀ W, Two W base pv rv E R → Calls Try.prog 46 #[rv] W fun e w' => ∃ a c, e = .returned (.slice a (idsE E true).length c) ∧ IdsAt w' a (idsE E true) ∧ Below W.heap.size W w') := fun W hW => by
    have := live_ref hW.rf
    rw [← hW.eq] at this
    exact this.mono fun e w' ⟨a, c, e1, o, b⟩ => by
      obtain ⟨a2, c2, e2, hi, _⟩ := o.open (idsE_ok hW.ok true)
      cases e2
      exact ⟨a, c, e1, hi, b⟩
  have S1 : Hid (∀ (W : World) (L : List IdK) (a b : Option Addr) (ca cb : Nat), (∀ x ∈ L, x.ok) → L.length ≤ 1400000000000 → IdsAt W a L → IdsAt W b L → Calls Try.prog 44 #[.slice a L.length ca, .slice b L.length cb] W fun e w' => e = .returned (.bool true) ∧ Below W.heap.size W w') := fun W L a b ca cb ok hl ha hb => by
    have := same_ids a b ca cb L L W ha hb ok ok (by omega)
    rw [decide_eq_true rfl] at this
    exact this
  have K1 := hidMk (And.intro (idsE_ok h.ok false) (h.len false))
  have K2 := hidMk (And.intro (idsE_ok h.ok true) (h.len true))
  have H0 := hidMk h
  generalize (visE E false).length = n1 at *
  generalize (visE E true).length = n2 at *
  obtain ⟨L1, e1⟩ : ∃ L, idsE E false = L := ⟨_, rfl⟩
  obtain ⟨L2, e2⟩ : ∃ L, idsE E true = L := ⟨_, rfl⟩
  rw [e1] at P5 P6 K1
  rw [e2] at P7 P8 K2
  clear h e1 e2
  go_enter Try.func18, Try.ntmps18
  go_wp2_with (first
    | (go_at_call 32; refine (P1.out _ H0.out).mono ?_; rintro e w1 ⟨rfl, b1⟩; have B1 := hidMk b1; have H1 := hidMk (H0.out.below b1); clear b1 P1)
    | (go_at_call 42; refine (P2.out _ H1.out).mono ?_; rintro e w2 ⟨rfl, b2⟩; have B2 := hidMk (B1.out.trans (b2.mono B1.out.size)); have H2 := hidMk (H1.out.below b2); clear b2 P2 B1 H1)
    | (go_at_call 27; refine (P3.out _ H2.out).mono ?_; rintro e w3 ⟨rfl, b3⟩; have B3 := hidMk (B2.out.trans (b3.mono B2.out.size)); have H3 := hidMk (H2.out.below b3); clear b3 P3 B2 H2)
    | (go_at_call 43; refine (P4.out _ H3.out).mono ?_; rintro e w4 ⟨rfl, b4⟩; have B4 := hidMk (B3.out.trans (b4.mono B3.out.size)); have H4 := hidMk (H3.out.below b4); clear b4 P4 B3 H3)
    | (go_at_call 22; refine (P5.out _ H4.out).mono ?_; rintro e w5 ⟨a5, c5, rfl, i5, b5⟩; have I5 := hidMk i5; have B5 := hidMk (B4.out.trans (b5.mono B4.out.size)); have H5 := hidMk (H4.out.below b5); clear b5 P5 i5 B4 H4)
    | (go_at_call 45; refine (P6.out _ H5.out).mono ?_; rintro e w6 ⟨a6, c6, rfl, i6, b6⟩; have I6 := hidMk (And.intro (I5.out.below b6) i6); have B6 := hidMk (B5.out.trans (b6.mono B5.out.size)); have H6 := hidMk (H5.out.below b6); clear b6 P6 i6 I5 B5 H5)
    | (go_at_call 44; refine (S1.out _ L1 a5 a6 c5 c6 K1.out.1 K1.out.2 I6.out.1 I6.out.2).mono ?_; rintro e w7 ⟨rfl, b7⟩; have B7 := hidMk (B6.out.trans (b7.mono B6.out.size)); have H7 := hidMk (H6.out.below b7); clear b7 I6 B6 H6)
    | (go_at_call 29; refine (P7.out _ H7.out).mono ?_; rintro e w8 ⟨a8, c8, rfl, i8, b8⟩; have I8 := hidMk i8; have B8 := hidMk (B7.out.trans (b8.mono B7.out.size)); have H8 := hidMk (H7.out.below b8); clear b8 P7 i8 B7 H7)
    | (go_at_call 46; refine (P8.out _ H8.out).mono ?_; rintro e w9 ⟨a9, c9, rfl, i9, b9⟩; have I9 := hidMk (And.intro (I8.out.below b9) i9); have B9 := hidMk (B8.out.trans (b9.mono B8.out.size)); have H9 := hidMk (H8.out.below b9); clear b9 P8 i9 I8 B8 H8)
    | (go_at_call 44; refine (S1.out _ L2 a8 a9 c8 c9 K2.out.1 K2.out.2 I9.out.1 I9.out.2).mono ?_; rintro e w10 ⟨rfl, b10⟩; have B10 := hidMk (B9.out.trans (b10.mono B9.out.size)); clear b10 I9 B9 H9)
    | fail)
  go_ret
  exact ⟨rfl, B10.out⟩
end
end Go.Proofs.Ytlejbdepoemcjaa
namespace Go.Proofs.Ytlejbdepoemcjaa
def tgM (tg : Nat → Nat) (n k t j : Nat) : Nat := if n ≤ j ∧ j < k then t else tg j
theorem tgM_old {tg : Nat → Nat} {n k t j : Nat} (h : j < n) : tgM tg n k t j = tg j := if_neg (by omega)
theorem tgM_new {tg : Nat → Nat} {n k t j : Nat} (h : n ≤ j) (h2 : j < k) : tgM tg n k t j = t := if_pos ⟨h, h2⟩
theorem tgM_far {tg : Nat → Nat} {n k t j : Nat} (h : k ≤ j) (h2 : tg j = 0) : tgM tg n k t j = 0 := by unfold tgM; rw [if_neg (by omega)]; exact h2
end Go.Proofs.Ytlejbdepoemcjaa
namespace Go.Proofs.Ytlejbdepoemcjaa
open Go.RowKit Sq
set_option linter.unusedVariables false
set_option linter.unusedSimpArgs false
structure SO (w0 : World) (s : Sx) (d : Nat) (rv : Value) (E R : List Elt) (tg : Nat → Nat) (W : World) : Prop where
  sq : SeqAt W s E
  sl : ∀ j ∈ s.bl, tg j = 1 ∧ w0.heap.size ≤ j
  rf : RefAt W w0.heap.size d rv R
  rd : tg d = 2
  rk : ∀ k, rv.ownBlock = some k → tg k = 2
  bel : Below w0.heap.size w0 W
  gz : ∀ j, W.heap.size ≤ j → tg j = 0
section
variable {w0 : World} {s : Sx} {d q : Nat} {rv all : Value} {E R : List Elt} {tg : Nat → Nat} {W W' : World} {Rl : List (B.Lst × List IdK)}
theorem SO.keep (h : SO w0 s d rv E R tg W) (t : Tch (fun j => tg j = 0) W W') (b : Below w0.heap.size W W') : SO w0 s d rv E R tg W' :=
  ⟨h.sq.keep (fun j hj => t.block j (h.sq.lt j hj) (fun e => by have := (h.sl j hj).1; omega)), h.sl, h.rf.keep (t.block d h.rf.lt (fun e => by have := h.rd; omega)) (fun k hk => t.block k (h.rf.own.lt hk) (fun e => by have := h.rk k hk; omega)), h.rd, h.rk, h.bel.trans b, fun j hj => h.gz j (Nat.le_trans t.size hj)⟩
theorem SO.below (h : SO w0 s d rv E R tg W) (b : Below W.heap.size W W') : SO w0 s d rv E R tg W' := h.keep (tch_below b _) (b.mono h.bel.size)
theorem SO.seqN (h : SO w0 s d rv E R tg W) (tb : TB w0.heap.size q tg W all Rl) {s' : Sx} {E' : List Elt} (nx : Nxt s W s' E' W') : ∃ tg', SO w0 s' d rv E' R tg' W' ∧ TB w0.heap.size q tg' W' all Rl := by
  have old : ∀ j, j < W.heap.size → tgM tg W.heap.size W'.heap.size 1 j = tg j := fun j hj => tgM_old hj
  have z := nx.tch.size
  refine ⟨tgM tg W.heap.size W'.heap.size 1, ⟨nx.at', fun j hj => ?_, h.rf.keep (nx.tch.block d h.rf.lt (fun e => by have := (h.sl d e).1; have := h.rd; omega)) (fun k hk => nx.tch.block k (h.rf.own.lt hk) (fun e => by have := (h.sl k e).1; have := h.rk k hk; omega)), by rw [old d h.rf.lt]; exact h.rd, fun k hk => by rw [old k (h.rf.own.lt hk)]; exact h.rk k hk, h.bel.trans (nx.tch.below h.bel.size (fun j hj => (h.sl j hj).2)), fun j hj => tgM_far hj (h.gz j (by omega))⟩, tb.keep (fun j hj hq => nx.tch.block j hj (fun e => ?_)) old⟩
  · rcases nx.bl j hj with q | q
    · rw [old j (h.sq.lt j q)]; exact h.sl j q
    · exact ⟨tgM_new q (nx.at'.lt j hj), Nat.le_trans h.bel.size q⟩
  · have h1 := (h.sl j e).1
    have h0 : tg j = 0 := by
      rcases hq with rfl | e | ⟨r, hr, e⟩
      · exact tb.gq
      · exact tb.ga j e
      · exact tb.gl r hr j e
    omega
theorem SO.refN (h : SO w0 s d rv E R tg W) (tb : TB w0.heap.size q tg W all Rl) {rv' : Value} {R' : List Elt} (nx : RNxt W w0.heap.size d rv R' rv' W') : ∃ tg', SO w0 s d rv' E R' tg' W' ∧ TB w0.heap.size q tg' W' all Rl := by
  have old : ∀ j, j < W.heap.size → tgM tg W.heap.size W'.heap.size 2 j = tg j := fun j hj => tgM_old hj
  have z := nx.tch.size
  have two : ∀ j, (j = d ∨ rv.ownBlock = some j) → tg j = 2 := fun j hj => by
    rcases hj with rfl | q
    · exact h.rd
    · exact h.rk j q
  refine ⟨tgM tg W.heap.size W'.heap.size 2, ⟨h.sq.keep (fun j hj => nx.tch.block j (h.sq.lt j hj) (fun e => by have := (h.sl j hj).1; have := two j e; omega)), fun j hj => by rw [old j (h.sq.lt j hj)]; exact h.sl j hj, nx.at', by rw [old d h.rf.lt]; exact h.rd, fun k hk => ?_, h.bel.trans (nx.tch.below h.bel.size (fun j hj => by rcases hj with rfl | q; exact h.rf.hd; exact (h.rf.own.cells q).1)), fun j hj => tgM_far hj (h.gz j (by omega))⟩, tb.keep (fun j hj hq => nx.tch.block j hj (fun e => ?_)) old⟩
  · rcases nx.own k hk with q | q
    · rw [old k (h.rf.own.lt q)]; exact h.rk k q
    · exact tgM_new q (nx.at'.own.lt hk)
  · have h1 := two j e
    have h0 : tg j = 0 := by
      rcases hq with rfl | e | ⟨r, hr, e⟩
      · exact tb.gq
      · exact tb.ga j e
      · exact tb.gl r hr j e
    omega
end
def OW (w0 : World) (sb d q m c : Nat) (W : World) : Prop := ∃ s rv E R tg all Rl, s.sb = sb ∧ SO w0 s d rv E R tg W ∧ E = rowR R ∧ R.length ≤ m ∧ TB w0.heap.size q tg W all Rl ∧ Rl.length = c
section
variable {w0 : World} {sb d q m c : Nat} {W : World}
theorem OW.bel (h : OW w0 sb d q m c W) : Below w0.heap.size w0 W := by obtain ⟨_, _, _, _, _, _, _, _, so, _⟩ := h; exact so.bel
theorem OW.below (h : OW w0 sb d q m c W) {W' : World} (b : Below W.heap.size W W') : OW w0 sb d q m c W' := by
  obtain ⟨s, rv, E, R, tg, all, Rl, hs, so, he, hm, tb, hc⟩ := h
  exact ⟨s, rv, E, R, tg, all, Rl, hs, so.below b, he, hm, tb.below b, hc⟩
theorem OW.insert (h : OW w0 sb d q m c W) (hm : m + 2 ≤ 1400000000000) {k b : IdK} (hk : k.ok) (hb : b.ok) : Calls Try.prog 10 #[.pointer (some ⟨sb, 0, none⟩), k.v, b.v] W fun e w' => ∃ z : Int, e = .returned (.int .i64 z) ∧ Below w0.heap.size w0 w' ∧
    Calls Try.prog 11 #[.pointer (some ⟨d, 0, none⟩), k.v, b.v] w' fun e w' => e = .returned (.int .i64 z) ∧ Below w0.heap.size w0 w' ∧ OW w0 sb d q (m + 1) c w' := by
  obtain ⟨s, rv, E, R, tg, all, Rl, hs, so, he, hR, tb, hc⟩ := h
  subst hs
  have hEl : E.length = R.length := by rw [he, (rowR_perm R).length_eq]
  refine (insert_any so.sq hk hb (by omega)).mono ?_
  rintro e w1 ⟨rfl, s', nx⟩
  obtain ⟨tg1, so1, tb1⟩ := so.seqN tb nx
  refine ⟨_, rfl, so1.bel, (insert_at so1.rf hk hb (by omega) so1.bel.size).mono ?_⟩
  rintro e w2 ⟨rfl, rv', nx2⟩
  obtain ⟨tg2, so2, tb2⟩ := so1.refN tb1 nx2
  refine ⟨by rw [he, insC_row], so2.bel, s', rv', _, _, tg2, all, Rl, nx.sb, so2, by rw [he, insD_row], ?_, tb2, hc⟩
  have := insD_len R k b
  omega
theorem OW.taken {W' : World} {v : Value} {E : List Elt} {s : Sx} {rv all : Value} {R : List Elt} {tg : Nat → Nat} {Rl : List (B.Lst × List IdK)} (so : SO w0 s d rv E R tg W) (he : E = rowR R) (hR : R.length ≤ m) (hm : m ≤ 1400000000000) (tb : TB w0.heap.size q tg W all Rl) (hc : Rl.length = c) (hcc : c ≤ 7600000000000) (cc : Bool) (o : OwnI W' W.heap.size v (idsE E cc)) (b : Below W.heap.size W W') :
    Calls Try.prog 28 #[.pointer (some ⟨q, 0, none⟩), v] W' fun e w' => e = .returned (.tuple #[]) ∧ OW w0 s.sb d q m (c + 1) w' := by
  have hok : ∀ e ∈ E, RE.ok e := by rw [he]; exact row_wf so.rf.ok
  have hl : (idsE E cc).length ≤ 1400000000000 := by
    have h1 := ids_len E cc
    rw [he, row_len] at h1
    rw [he]
    omega
  refine (tb.take so.bel.size so.gz (by omega) b o (idsE_ok hok cc) (by omega)).mono ?_
  rintro e w' ⟨rfl, all', R', tb', hl', bl, tc⟩
  exact ⟨rfl, s, rv, E, R, tg, all', R', rfl, (so.below b).keep tc bl, he, hR, tb', by rw [hl', hc]⟩
theorem OW.ids (h : OW w0 sb d q m c W) (hm : m ≤ 1400000000000) (hcc : c ≤ 7600000000000) : Calls Try.prog 22 #[.pointer (some ⟨sb, 0, none⟩)] W fun e w' => ∃ v, e = .returned v ∧ Calls Try.prog 28 #[.pointer (some ⟨q, 0, none⟩), v] w' fun e w' => e = .returned (.tuple #[]) ∧ OW w0 sb d q m (c + 1) w' := by
  obtain ⟨s, rv, E, R, tg, all, Rl, rfl, so, he, hR, tb, hc⟩ := h
  refine (ids_any so.sq).mono ?_
  rintro e w' ⟨v, rfl, o, b⟩
  exact ⟨v, rfl, OW.taken so he hR hm tb hc hcc false o b⟩
theorem OW.live (h : OW w0 sb d q m c W) (hm : m ≤ 1400000000000) (hcc : c ≤ 7600000000000) : Calls Try.prog 29 #[.pointer (some ⟨sb, 0, none⟩)] W fun e w' => ∃ v, e = .returned v ∧ Calls Try.prog 28 #[.pointer (some ⟨q, 0, none⟩), v] w' fun e w' => e = .returned (.tuple #[]) ∧ OW w0 sb d q m (c + 1) w' := by
  obtain ⟨s, rv, E, R, tg, all, Rl, rfl, so, he, hR, tb, hc⟩ := h
  refine (live_any so.sq).mono ?_
  rintro e w' ⟨v, rfl, o, b⟩
  exact ⟨v, rfl, OW.taken so he hR hm tb hc hcc true o b⟩
theorem OW.alone (h : OW w0 sb d q m c W) (hcc : c ≤ 7600000000000) : Calls Try.prog 30 #[.pointer (some ⟨q, 0, none⟩)] W fun e w' => e = .returned (.bool true) ∧ Calls Try.prog 18 #[.pointer (some ⟨sb, 0, none⟩), .pointer (some ⟨d, 0, none⟩)] w' fun e w' => e = .returned (.bool true) ∧ Below w0.heap.size w0 w' := by
  obtain ⟨s, rv, E, R, tg, all, Rl, rfl, so, he, hR, tb, hc⟩ := h
  refine (tb.alone so.bel.size (by omega)).mono ?_
  rintro e w' ⟨rfl, bl, tc⟩
  have so' := so.keep tc bl
  refine ⟨rfl, (lists_any (w := w') (base := w0.heap.size) (E := E) (R := R) ⟨.inr ⟨s, rfl, so'.sq⟩, .inr ⟨d, rv, rfl, so'.rf⟩, he⟩).mono ?_⟩
  rintro e w2 ⟨rfl, b2⟩
  exact ⟨rfl, so'.bel.trans (b2.mono so'.bel.size)⟩
end
theorem ex_neq36 {w : World} {a : Act} {o : Oper} {x y : Operand} {p : Int} (ho : o.op = .binOp .neq 36 x y 36) (hx : a.eval x = .int .i64 p) (hy : a.eval y = .int .i64 p) : (execOp a.eval o).run Try.prog w = .ok (.value (.bool false)) w := by
  refine exec_binOp ho hx hy ?_ ?_
  · kernel_rfl
  · go_simp
def own9_o0 : Oper := ⟨some 17, .move (.tmp 3), 23, "law.go:256", #[], none⟩
def own9_o1 : Oper := ⟨some 18, .move (.tmp 0), 43, "law.go:256", #[], none⟩
def own9_o2 : Oper := ⟨some 19, .move (.tmp 6), 3, "law.go:256", #[], none⟩
def own9_o3 : Oper := ⟨some 20, .indexAddr 43 (.tmp 18) (.tmp 19), 0, "law.go:256", #[⟨1, .data⟩, ⟨2, .data⟩], none⟩
def own9_o4 : Oper := ⟨some 21, .fieldAddr 75 (.tmp 20) 0, 0, "law.go:256", #[⟨3, .data⟩], none⟩
def own9_o5 : Oper := ⟨some 22, .load 32 (.tmp 21), 32, "law.go:256", #[⟨4, .data⟩], none⟩
def own9_o6 : Oper := ⟨some 23, .move (.tmp 0), 43, "law.go:256", #[], none⟩
def own9_o7 : Oper := ⟨some 24, .move (.tmp 6), 3, "law.go:256", #[], none⟩
def own9_o8 : Oper := ⟨some 25, .indexAddr 43 (.tmp 23) (.tmp 24), 0, "law.go:256", #[⟨6, .data⟩, ⟨7, .data⟩], none⟩
def own9_o9 : Oper := ⟨some 26, .fieldAddr 75 (.tmp 25) 1, 0, "law.go:256", #[⟨8, .data⟩], none⟩
def own9_o10 : Oper := ⟨some 27, .load 32 (.tmp 26), 32, "law.go:256", #[⟨9, .data⟩], none⟩
def own9_o11 : Oper := ⟨some 28, .call { callee := Callee.value (Operand.func 10), args := #[.tmp 17, .tmp 22, .tmp 27], argTypes := #[23, 32, 32] }, 36, "law.go:256", #[⟨0, .data⟩, ⟨5, .data⟩, ⟨10, .data⟩], none⟩
def own9_o12 : Oper := ⟨some 29, .move (.tmp 4), 26, "law.go:256", #[], none⟩
def own9_o13 : Oper := ⟨some 30, .move (.tmp 0), 43, "law.go:256", #[], none⟩
def own9_o14 : Oper := ⟨some 31, .move (.tmp 6), 3, "law.go:256", #[], none⟩
def own9_o15 : Oper := ⟨some 32, .indexAddr 43 (.tmp 30) (.tmp 31), 0, "law.go:256", #[⟨13, .data⟩, ⟨14, .data⟩], none⟩
def own9_o16 : Oper := ⟨some 33, .fieldAddr 75 (.tmp 32) 0, 0, "law.go:256", #[⟨15, .data⟩], none⟩
def own9_o17 : Oper := ⟨some 34, .load 32 (.tmp 33), 32, "law.go:256", #[⟨16, .data⟩], none⟩
def own9_o18 : Oper := ⟨some 35, .move (.tmp 0), 43, "law.go:256", #[], none⟩
def own9_o19 : Oper := ⟨some 36, .move (.tmp 6), 3, "law.go:256", #[], none⟩
def own9_o20 : Oper := ⟨some 37, .indexAddr 43 (.tmp 35) (.tmp 36), 0, "law.go:256", #[⟨18, .data⟩, ⟨19, .data⟩], none⟩
def own9_o21 : Oper := ⟨some 38, .fieldAddr 75 (.tmp 37) 1, 0, "law.go:256", #[⟨20, .data⟩], none⟩
def own9_o22 : Oper := ⟨some 39, .load 32 (.tmp 38), 32, "law.go:256", #[⟨21, .data⟩], none⟩
def own9_o23 : Oper := ⟨some 40, .call { callee := Callee.value (Operand.func 11), args := #[.tmp 29, .tmp 34, .tmp 39], argTypes := #[26, 32, 32] }, 36, "law.go:256", #[⟨12, .data⟩, ⟨17, .data⟩, ⟨22, .data⟩, ⟨11, .chain⟩], none⟩
def own9_o24 : Oper := ⟨some 41, .binOp BinOp.neq 36 (.tmp 28) (.tmp 40) 36, 4, "law.go:256", #[⟨11, .data⟩, ⟨23, .data⟩], none⟩
def own9_ops : Array Oper := #[own9_o0, own9_o1, own9_o2, own9_o3, own9_o4, own9_o5, own9_o6, own9_o7, own9_o8, own9_o9, own9_o10, own9_o11, own9_o12, own9_o13, own9_o14, own9_o15, own9_o16, own9_o17, own9_o18, own9_o19, own9_o20, own9_o21, own9_o22, own9_o23, own9_o24]
theorem own9 {pb po m pc i : Nat} {p : PutV} {sb d : Nat} (Fin : World → Prop) (a : Act) (w : World) (Q : Exit → Act → World → Prop) (zz : a.tmps.size = 54)
    (t0 : a.tmps.getD 0 undef = .slice (some ⟨pb, po, none⟩) m pc)
    (t3 : a.tmps.getD 3 undef = .pointer (some ⟨sb, 0, none⟩))
    (t4 : a.tmps.getD 4 undef = .pointer (some ⟨d, 0, none⟩))
    (t6 : a.tmps.getD 6 undef = .int .i64 (i : Int))
    (hp : p.ok) (hi : i < m) (hm : m ≤ 1400000000000) (h0 : w.drew.rangeAt pb (po + 66 * i) p.c) (CI : Calls Try.prog 10 #[.pointer (some ⟨sb, 0, none⟩), p.id.v, p.bh.v] w.drew fun e w' => ∃ c : Int, e = .returned (.int .i64 c) ∧ w'.rangeAt pb (po + 66 * i) p.c ∧ Calls Try.prog 11 #[.pointer (some ⟨d, 0, none⟩), p.id.v, p.bh.v] w' fun e w' => e = .returned (.int .i64 c) ∧ w'.rangeAt pb (po + 66 * i) p.c ∧ Fin w')
    (h : ∀ (c : Int) (a' : Act) (w' : World), Fin w' → a' = (((((((((((((((((((((((((a).put (some 17) (.pointer (some ⟨sb, 0, none⟩))).put (some 18) (.slice (some ⟨pb, po, none⟩) m pc)).put (some 19) (.int .i64 (i : Int))).put (some 20) (.pointer (some ⟨pb, po + 66 * i, none⟩))).put (some 21) (.pointer (some ⟨pb, po + 66 * i + 0, none⟩))).put (some 22) (p.id.v)).put (some 23) (.slice (some ⟨pb, po, none⟩) m pc)).put (some 24) (.int .i64 (i : Int))).put (some 25) (.pointer (some ⟨pb, po + 66 * i, none⟩))).put (some 26) (.pointer (some ⟨pb, po + 66 * i + 33, none⟩))).put (some 27) (p.bh.v)).put (some 29) (.pointer (some ⟨d, 0, none⟩))).put (some 30) (.slice (some ⟨pb, po, none⟩) m pc)).put (some 31) (.int .i64 (i : Int))).put (some 32) (.pointer (some ⟨pb, po + 66 * i, none⟩))).put (some 33) (.pointer (some ⟨pb, po + 66 * i + 0, none⟩))).put (some 34) (p.id.v)).put (some 35) (.slice (some ⟨pb, po, none⟩) m pc)).put (some 36) (.int .i64 (i : Int))).put (some 37) (.pointer (some ⟨pb, po + 66 * i, none⟩))).put (some 38) (.pointer (some ⟨pb, po + 66 * i + 33, none⟩))).put (some 39) (p.bh.v)).put (some 28) (.int .i64 c)).put (some 40) (.int .i64 c)).put (some 41) (.bool false) → Q .normal a' w') :
    (Code.region 9 own9_ops true).wp Try.prog Q a w := by
  refine y0 (fun w' => w'.rangeAt pb (po + 66 * i) p.c) (h0) (fun hHeld => ?_)
  refine yv 0 rfl rfl (fun w1 hw => exec_move rfl (zi t3 rfl)) hHeld ?_
  refine yv 1 rfl rfl (fun w1 hw => exec_move rfl (zi t0 rfl)) hHeld ?_
  refine yv 2 rfl rfl (fun w1 hw => exec_move rfl (zi t6 rfl)) hHeld ?_
  refine yv 3 rfl rfl (fun w1 hw => exec_indexAt rfl (zg zz rfl) (zg zz rfl) (ix_put hi hm _)) hHeld ?_
  refine yv 4 rfl rfl (fun w1 hw => exec_fieldAt rfl (zg zz rfl) (fg_75_0 _ _ _)) hHeld ?_
  refine yv 5 rfl rfl (fun w1 hw => exec_load rfl (zg zz rfl) (ld_pid hp hw)) hHeld ?_
  refine yv 6 rfl rfl (fun w1 hw => exec_move rfl (zi t0 rfl)) hHeld ?_
  refine yv 7 rfl rfl (fun w1 hw => exec_move rfl (zi t6 rfl)) hHeld ?_
  refine yv 8 rfl rfl (fun w1 hw => exec_indexAt rfl (zg zz rfl) (zg zz rfl) (ix_put hi hm _)) hHeld ?_
  refine yv 9 rfl rfl (fun w1 hw => exec_fieldAt rfl (zg zz rfl) (fg_75_1 _ _ _)) hHeld ?_
  refine yv 10 rfl rfl (fun w1 hw => exec_load rfl (zg zz rfl) (ld_pbh hp hw)) hHeld ?_
  refine yv 12 rfl rfl (fun w1 hw => exec_move rfl (zi t4 rfl)) hHeld ?_
  refine yv 13 rfl rfl (fun w1 hw => exec_move rfl (zi t0 rfl)) hHeld ?_
  refine yv 14 rfl rfl (fun w1 hw => exec_move rfl (zi t6 rfl)) hHeld ?_
  refine yv 15 rfl rfl (fun w1 hw => exec_indexAt rfl (zg zz rfl) (zg zz rfl) (ix_put hi hm _)) hHeld ?_
  refine yv 16 rfl rfl (fun w1 hw => exec_fieldAt rfl (zg zz rfl) (fg_75_0 _ _ _)) hHeld ?_
  refine yv 17 rfl rfl (fun w1 hw => exec_load rfl (zg zz rfl) (ld_pid hp hw)) hHeld ?_
  refine yv 18 rfl rfl (fun w1 hw => exec_move rfl (zi t0 rfl)) hHeld ?_
  refine yv 19 rfl rfl (fun w1 hw => exec_move rfl (zi t6 rfl)) hHeld ?_
  refine yv 20 rfl rfl (fun w1 hw => exec_indexAt rfl (zg zz rfl) (zg zz rfl) (ix_put hi hm _)) hHeld ?_
  refine yv 21 rfl rfl (fun w1 hw => exec_fieldAt rfl (zg zz rfl) (fg_75_1 _ _ _)) hHeld ?_
  refine yv 22 rfl rfl (fun w1 hw => exec_load rfl (zg zz rfl) (ld_pbh hp hw)) hHeld ?_
  refine yc 11 rfl rfl (exec_c3 rfl (zg zz rfl) (zg zz rfl) (zg zz rfl)) (CI) (fun e x11 hx => ?_)
  obtain ⟨c, rfl, S1, CR⟩ := hx
  replace h := h c
  refine ⟨_, rfl, S1, fun hHeld => ?_⟩
  refine yc 23 rfl rfl (exec_c3 rfl (zg zz rfl) (zg zz rfl) (zg zz rfl)) (CR) (fun e x23 hx => ?_)
  obtain ⟨rfl, S2, HF⟩ := hx
  refine ⟨_, rfl, S2, fun hHeld => ?_⟩
  refine yv (v := .bool false) 24 rfl rfl (fun w1 hw => ex_neq36 rfl (zg zz rfl) (zg zz rfl)) hHeld ?_
  exact ye rfl (h _ _ (HF) rfl)
end Go.Proofs.Ytlejbdepoemcjaa
