import Derived.Test.YtlejbdepoemcjaaZr
import Derived.Test.YtlejbdepoemcjaaXk
namespace Go.Proofs.Ytlejbdepoemcjaa
open Go.RowKit Sq
set_option linter.unusedVariables false
set_option linter.unusedSimpArgs false

def KS (kb : Nat) (k : KpV) (w' : World) : Prop := (Instr.loadAt 90 (.pointer (some ⟨kb, 0, none⟩))).run Try.prog w' = .ok (KpV.v k) w'
set_option maxRecDepth 100000 in
theorem build_sp0 (w : World) (a0 a1 a2 a3 a4 a5 a6 a7 a8 a9 a10 a11 a12 a13 a14 a15 a16 a17 a18 a19 a20 a21 a22 a23 a24 a25 a26 a27 a28 a29 a30 a31 a32 a33 a34 a35 a36 a37 a38 a39 a40 a41 a42 a43 a44 a45 a46 a47 a48 a49 a50 a51 a52 a53 a54 a55 a56 a57 a58 a59 a60 a61 a62 a63 a64 a65 a66 : Value) : (Instr.build 113 #[(0, .agg [a0, a1, a2, a3, a4, a5, a6, a7, a8, a9, a10, a11, a12, a13, a14, a15, a16, a17, a18, a19, a20, a21, a22, a23, a24, a25, a26, a27, a28, a29, a30, a31, a32, a33, a34, a35, a36, a37, a38, a39, a40, a41, a42, a43, a44, a45, a46, a47, a48, a49, a50, a51, a52, a53, a54, a55, a56, a57, a58, a59, a60, a61, a62, a63, a64, a65, a66].toArray), (1, .bool true)]).run Try.prog w = .ok (.agg ([a0, a1, a2, a3, a4, a5, a6, a7, a8, a9, a10, a11, a12, a13, a14, a15, a16, a17, a18, a19, a20, a21, a22, a23, a24, a25, a26, a27, a28, a29, a30, a31, a32, a33, a34, a35, a36, a37, a38, a39, a40, a41, a42, a43, a44, a45, a46, a47, a48, a49, a50, a51, a52, a53, a54, a55, a56, a57, a58, a59, a60, a61, a62, a63, a64, a65, a66] ++ [Value.bool true, .int .i64 0, .int .i64 0, .int .i64 0, .int .i64 0, .int .i64 0]).toArray) w := by kernel_rfl
set_option maxRecDepth 100000 in
theorem build_sp (w : World) {k : KpV} (hk : KpV.ok k) : (Instr.build 113 #[(0, KpV.v k), (1, .bool true)]).run Try.prog w = .ok (Sp.v ⟨k, true, 0, 0, 0, 0, 0⟩) w := by
  have h := KpV.len hk
  unfold Sp.v Sp.c KpV.v
  simp only
  generalize KpV.c k = l at *
  match l, h with
  | a0 :: a1 :: a2 :: a3 :: a4 :: a5 :: a6 :: a7 :: a8 :: a9 :: a10 :: a11 :: a12 :: a13 :: a14 :: a15 :: a16 :: a17 :: a18 :: a19 :: a20 :: a21 :: a22 :: a23 :: a24 :: a25 :: a26 :: a27 :: a28 :: a29 :: a30 :: a31 :: a32 :: a33 :: a34 :: a35 :: a36 :: a37 :: a38 :: a39 :: a40 :: a41 :: a42 :: a43 :: a44 :: a45 :: a46 :: a47 :: a48 :: a49 :: a50 :: a51 :: a52 :: a53 :: a54 :: a55 :: a56 :: a57 :: a58 :: a59 :: a60 :: a61 :: a62 :: a63 :: a64 :: a65 :: a66 :: [], _ => exact build_sp0 w a0 a1 a2 a3 a4 a5 a6 a7 a8 a9 a10 a11 a12 a13 a14 a15 a16 a17 a18 a19 a20 a21 a22 a23 a24 a25 a26 a27 a28 a29 a30 a31 a32 a33 a34 a35 a36 a37 a38 a39 a40 a41 a42 a43 a44 a45 a46 a47 a48 a49 a50 a51 a52 a53 a54 a55 a56 a57 a58 a59 a60 a61 a62 a63 a64 a65 a66
theorem exec_bsp {w : World} {a : Act} {o : Oper} {x : Operand} {k : KpV} (hk : KpV.ok k) (ho : o.op = .build 113 #[(0, x), (1, .const (.bool true))]) (hx : a.eval x = KpV.v k) : (execOp a.eval o).run Try.prog w = .ok (.value (Sp.v ⟨k, true, 0, 0, 0, 0, 0⟩)) w :=
  exec_build ho (by simp [hx]; rfl) (build_sp w hk)
theorem len_sl {g n c : Nat} (w : World) : (Builtin.len_ #[85] 3 #[.slice (some ⟨g, 0, none⟩) n c]).run Try.prog w = .ok (.int .i64 (n : Int)) w := by go_simp
def root1_o0 : Oper := { dst := some 3, op := Op.move (Operand.tmp 0), type := 114, pos := "row.go:53", after := #[], guard := none }
def root1_o1 : Oper := { dst := some 4, op := Op.nilCheck (Operand.tmp 3), type := 0, pos := "row.go:53", after := #[{ on := 0, ground := Ground.data }], guard := none }
def root1_o2 : Oper := { dst := some 5, op := Op.fieldAddr 87 (Operand.tmp 4) 0, type := 0, pos := "row.go:53", after := #[{ on := 1, ground := Ground.data }], guard := none }
def root1_o3 : Oper := { dst := some 6, op := Op.load 85 (Operand.tmp 5), type := 85, pos := "row.go:53", after := #[{ on := 2, ground := Ground.data }], guard := none }
def root1_o4 : Oper := { dst := some 7, op := Op.indexAddr 85 (Operand.tmp 6) (Operand.const (Value.int IntKind.i64 0)), type := 0, pos := "row.go:53", after := #[{ on := 3, ground := Ground.data }], guard := none }
def root1_o5 : Oper := { dst := some 8, op := Op.fieldAddr 113 (Operand.tmp 7) 3, type := 0, pos := "row.go:53", after := #[{ on := 4, ground := Ground.data }], guard := none }
def root1_o6 : Oper := { dst := some 9, op := Op.indexAddr 111 (Operand.tmp 8) (Operand.const (Value.int IntKind.i64 1)), type := 0, pos := "row.go:53", after := #[{ on := 5, ground := Ground.data }], guard := none }
def root1_o7 : Oper := { dst := some 10, op := Op.load 3 (Operand.tmp 9), type := 3, pos := "row.go:53", after := #[{ on := 6, ground := Ground.data }], guard := none }
def root1_o8 : Oper := { dst := some 2, op := Op.assign (Operand.tmp 10), type := 3, pos := "row.go:53", after := #[{ on := 7, ground := Ground.data }, { on := 0, ground := Ground.phase }, { on := 1, ground := Ground.phase }, { on := 2, ground := Ground.phase }, { on := 3, ground := Ground.phase }, { on := 4, ground := Ground.phase }, { on := 5, ground := Ground.phase }, { on := 6, ground := Ground.phase }, { on := 7, ground := Ground.phase }], guard := none }
def root1_ops : Array Oper := #[root1_o0, root1_o1, root1_o2, root1_o3, root1_o4, root1_o5, root1_o6, root1_o7, root1_o8]
set_option maxRecDepth 100000 in
set_option maxHeartbeats 4000000 in
theorem root1 {rb ro g cap : Nat} {L : List Sp} (a : Act) (w : World) (Q : Exit → Act → World → Prop) (zz : a.tmps.size = 11)
    (t0 : a.tmps.getD 0 undef = .pointer (some ⟨rb, ro, none⟩))
    (hR : SqAt w rb ro g cap L) (h0 : 0 < L.length)
    (h : ∀ (a' : Act) (w' : World), w' = w → a' = (((((((((a).put (some 3) (.pointer (some ⟨rb, ro, none⟩))).put (some 4) (.pointer (some ⟨rb, ro, none⟩))).put (some 5) (.pointer (some ⟨rb, ro + 0, none⟩))).put (some 6) (.slice (some ⟨g, 0, none⟩) (L).length cap)).put (some 7) (.pointer (some ⟨g, 73 * 0, none⟩))).put (some 8) (.pointer (some ⟨g, 73 * 0 + 69, none⟩))).put (some 9) (.pointer (some ⟨g, 73 * 0 + 69 + nb true, none⟩))).put (some 10) (.int .i64 (dn (gt L 0) true : Int))).put (some 2) (.int .i64 (dn (gt L 0) true : Int)) → Q .normal a' w') :
    (Code.region 1 root1_ops false).wp Try.prog Q a w := by
  refine z0 rfl ?_
  refine zv rfl (exec_move rfl (zi t0 rfl)) ?_
  refine zv rfl (exec_nilCheck rfl (zg zz rfl)) ?_
  refine zv rfl (exec_fieldAt rfl (zg zz rfl) (fg_87_0 _ _ _)) ?_
  refine zv rfl (exec_load rfl (zg zz rfl) (R_sl hR)) ?_
  refine zv rfl (exec_indexAt rfl (zg zz rfl) rfl (R_ix h0 hR.len _)) ?_
  refine zv rfl (exec_fieldAt rfl (zg zz rfl) (fg_113_3 _ _ _)) ?_
  refine zv rfl (exec_indexAt rfl (zg zz rfl) rfl (ix_a1 _ _)) ?_
  refine zv rfl (exec_load rfl (zg zz rfl) (R_dn hR h0 true)) ?_
  refine zv rfl (exec_assign rfl (zg zz rfl)) ?_
  exact ze rfl (h _ _ (rfl) rfl)
def many1_o0 : Oper := { dst := some 5, op := Op.move (Operand.tmp 0), type := 114, pos := "row.go:58", after := #[], guard := none }
def many1_o1 : Oper := { dst := some 6, op := Op.nilCheck (Operand.tmp 5), type := 0, pos := "row.go:58", after := #[{ on := 0, ground := Ground.data }], guard := none }
def many1_o2 : Oper := { dst := some 7, op := Op.fieldAddr 87 (Operand.tmp 6) 0, type := 0, pos := "row.go:58", after := #[{ on := 1, ground := Ground.data }], guard := none }
def many1_o3 : Oper := { dst := some 8, op := Op.load 85 (Operand.tmp 7), type := 85, pos := "row.go:58", after := #[{ on := 2, ground := Ground.data }], guard := none }
def many1_o4 : Oper := { dst := some 9, op := Op.move (Operand.tmp 0), type := 114, pos := "row.go:58", after := #[], guard := none }
def many1_o5 : Oper := { dst := some 10, op := Op.call { callee := Callee.value (Operand.func 94), args := #[Operand.tmp 9], argTypes := #[114] }, type := 3, pos := "row.go:58", after := #[{ on := 4, ground := Ground.data }], guard := none }
def many1_o6 : Oper := { dst := some 11, op := Op.move (Operand.tmp 1), type := 3, pos := "row.go:58", after := #[], guard := none }
def many1_o7 : Oper := { dst := some 12, op := Op.indexAddr 85 (Operand.tmp 8) (Operand.tmp 10), type := 0, pos := "row.go:58", after := #[{ on := 3, ground := Ground.data }, { on := 5, ground := Ground.data }], guard := none }
def many1_o8 : Oper := { dst := some 13, op := Op.fieldAddr 113 (Operand.tmp 12) 4, type := 0, pos := "row.go:58", after := #[{ on := 7, ground := Ground.data }], guard := none }
def many1_o9 : Oper := { dst := some 14, op := Op.indexAddr 111 (Operand.tmp 13) (Operand.tmp 11), type := 0, pos := "row.go:58", after := #[{ on := 8, ground := Ground.data }, { on := 6, ground := Ground.data }], guard := none }
def many1_o10 : Oper := { dst := some 15, op := Op.load 3 (Operand.tmp 14), type := 3, pos := "row.go:58", after := #[{ on := 9, ground := Ground.data }], guard := none }
def many1_o11 : Oper := { dst := some 4, op := Op.assign (Operand.tmp 15), type := 3, pos := "row.go:58", after := #[{ on := 10, ground := Ground.data }, { on := 5, ground := Ground.chain }, { on := 0, ground := Ground.phase }, { on := 1, ground := Ground.phase }, { on := 2, ground := Ground.phase }, { on := 3, ground := Ground.phase }, { on := 4, ground := Ground.phase }, { on := 5, ground := Ground.phase }, { on := 6, ground := Ground.phase }, { on := 7, ground := Ground.phase }, { on := 8, ground := Ground.phase }, { on := 9, ground := Ground.phase }, { on := 10, ground := Ground.phase }], guard := none }
def many1_ops : Array Oper := #[many1_o0, many1_o1, many1_o2, many1_o3, many1_o4, many1_o5, many1_o6, many1_o7, many1_o8, many1_o9, many1_o10, many1_o11]
set_option maxRecDepth 100000 in
set_option maxHeartbeats 4000000 in
theorem many1 {rb ro g cap : Nat} {L : List Sp} {i : Nat} {c : Bool} (a : Act) (w : World) (Q : Exit → Act → World → Prop) (zz : a.tmps.size = 16)
    (t0 : a.tmps.getD 0 undef = .pointer (some ⟨rb, ro, none⟩))
    (t1 : a.tmps.getD 1 undef = .int .i64 (nb c : Int))
    (hR : SqAt w rb ro g cap L) (hi : i < L.length) (hl : L.length ≤ 1400000000000) (CR : Calls Try.prog 94 #[.pointer (some ⟨rb, ro, none⟩)] w.drew fun e w' => e = .returned (.int .i64 (i : Int)) ∧ SqAt w' rb ro g cap L ∧ Qt w w')
    (h : ∀ (a' : Act) (w' : World), SqAt w' rb ro g cap L ∧ Qt w w' → a' = ((((((((((((a).put (some 5) (.pointer (some ⟨rb, ro, none⟩))).put (some 6) (.pointer (some ⟨rb, ro, none⟩))).put (some 7) (.pointer (some ⟨rb, ro + 0, none⟩))).put (some 8) (.slice (some ⟨g, 0, none⟩) (L).length cap)).put (some 9) (.pointer (some ⟨rb, ro, none⟩))).put (some 11) (.int .i64 (nb c : Int))).put (some 10) (.int .i64 (i : Int))).put (some 12) (.pointer (some ⟨g, 73 * i, none⟩))).put (some 13) (.pointer (some ⟨g, 73 * i + 71, none⟩))).put (some 14) (.pointer (some ⟨g, 73 * i + 71 + nb c, none⟩))).put (some 15) (.int .i64 (ct (gt L i) c : Int))).put (some 4) (.int .i64 (ct (gt L i) c : Int)) → Q .normal a' w') :
    (Code.region 1 many1_ops true).wp Try.prog Q a w := by
  refine y0 (fun w' => SqAt w' rb ro g cap L ∧ Qt w w') (⟨hR.drew, Qt.drew w⟩) (fun hHeld => ?_)
  refine yv 0 rfl rfl (fun w1 hw => exec_move rfl (zi t0 rfl)) hHeld ?_
  refine yv 1 rfl rfl (fun w1 hw => exec_nilCheck rfl (zg zz rfl)) hHeld ?_
  refine yv 2 rfl rfl (fun w1 hw => exec_fieldAt rfl (zg zz rfl) (fg_87_0 _ _ _)) hHeld ?_
  refine yv 3 rfl rfl (fun w1 hw => exec_load rfl (zg zz rfl) (R_sl hw.1)) hHeld ?_
  refine yv 4 rfl rfl (fun w1 hw => exec_move rfl (zi t0 rfl)) hHeld ?_
  refine yv 6 rfl rfl (fun w1 hw => exec_move rfl (zi t1 rfl)) hHeld ?_
  refine yc 5 rfl rfl (exec_c1 rfl (zg zz rfl)) (CR) (fun e x5 hx => ?_)
  obtain ⟨rfl, S1⟩ := hx
  refine ⟨_, rfl, S1, fun hHeld => ?_⟩
  refine yv 7 rfl rfl (fun w1 hw => exec_indexAt rfl (zg zz rfl) (zg zz rfl) (R_ix hi hl _)) hHeld ?_
  refine yv 8 rfl rfl (fun w1 hw => exec_fieldAt rfl (zg zz rfl) (fg_113_4 _ _ _)) hHeld ?_
  refine yv 9 rfl rfl (fun w1 hw => exec_indexAt rfl (zg zz rfl) (zg zz rfl) (ix_ar _ c _)) hHeld ?_
  refine yv 10 rfl rfl (fun w1 hw => exec_load rfl (zg zz rfl) (R_ct hw.1 hi c)) hHeld ?_
  refine yv 11 rfl rfl (fun w1 hw => exec_assign rfl (zg zz rfl)) hHeld ?_
  exact ye rfl (h _ _ (hHeld) rfl)
def show0_o0 : Oper := { dst := some 6, op := Op.move (Operand.tmp 0), type := 114, pos := "row.go:120", after := #[], guard := none }
def show0_o1 : Oper := { dst := some 7, op := Op.nilCheck (Operand.tmp 6), type := 0, pos := "row.go:120", after := #[{ on := 0, ground := Ground.data }], guard := none }
def show0_o2 : Oper := { dst := some 8, op := Op.fieldAddr 87 (Operand.tmp 7) 0, type := 0, pos := "row.go:120", after := #[{ on := 1, ground := Ground.data }], guard := none }
def show0_o3 : Oper := { dst := some 9, op := Op.load 85 (Operand.tmp 8), type := 85, pos := "row.go:120", after := #[{ on := 2, ground := Ground.data }], guard := none }
def show0_o4 : Oper := { dst := some 10, op := Op.move (Operand.tmp 1), type := 3, pos := "row.go:120", after := #[], guard := none }
def show0_o5 : Oper := { dst := some 11, op := Op.move (Operand.tmp 2), type := 4, pos := "row.go:120", after := #[], guard := none }
def show0_o6 : Oper := { dst := some 12, op := Op.indexAddr 85 (Operand.tmp 9) (Operand.tmp 10), type := 0, pos := "row.go:120", after := #[{ on := 3, ground := Ground.data }, { on := 4, ground := Ground.data }, { on := 0, ground := Ground.phase }, { on := 1, ground := Ground.phase }, { on := 2, ground := Ground.phase }, { on := 3, ground := Ground.phase }, { on := 4, ground := Ground.phase }, { on := 5, ground := Ground.phase }], guard := none }
def show0_o7 : Oper := { dst := some 13, op := Op.fieldAddr 113 (Operand.tmp 12) 1, type := 0, pos := "row.go:120", after := #[{ on := 6, ground := Ground.data }, { on := 0, ground := Ground.phase }, { on := 1, ground := Ground.phase }, { on := 2, ground := Ground.phase }, { on := 3, ground := Ground.phase }, { on := 4, ground := Ground.phase }, { on := 5, ground := Ground.phase }], guard := none }
def show0_o8 : Oper := { dst := none, op := Op.store 4 (Operand.tmp 13) (Operand.tmp 11), type := 0, pos := "row.go:120", after := #[{ on := 7, ground := Ground.data }, { on := 5, ground := Ground.data }, { on := 0, ground := Ground.phase }, { on := 1, ground := Ground.phase }, { on := 2, ground := Ground.phase }, { on := 3, ground := Ground.phase }, { on := 4, ground := Ground.phase }, { on := 5, ground := Ground.phase }], guard := none }
def show0_ops : Array Oper := #[show0_o0, show0_o1, show0_o2, show0_o3, show0_o4, show0_o5, show0_o6, show0_o7, show0_o8]
set_option maxRecDepth 100000 in
set_option maxHeartbeats 4000000 in
theorem show0 {rb ro g cap : Nat} {L : List Sp} {i : Nat} {b : Bool} {w2 : World} (a : Act) (w : World) (Q : Exit → Act → World → Prop) (zz : a.tmps.size = 17)
    (t0 : a.tmps.getD 0 undef = .pointer (some ⟨rb, ro, none⟩))
    (t1 : a.tmps.getD 1 undef = .int .i64 (i : Int))
    (t2 : a.tmps.getD 2 undef = .bool b)
    (hR : SqAt w rb ro g cap L) (hi : i < L.length) (ES : (Instr.storeAt 4 (.pointer (some ⟨g, 73 * i + 67, none⟩)) (.bool b)).run Try.prog w = .ok () w2)
    (h : ∀ (a' : Act) (w' : World), w' = w2 → a' = ((((((((a).put (some 6) (.pointer (some ⟨rb, ro, none⟩))).put (some 7) (.pointer (some ⟨rb, ro, none⟩))).put (some 8) (.pointer (some ⟨rb, ro + 0, none⟩))).put (some 9) (.slice (some ⟨g, 0, none⟩) (L).length cap)).put (some 10) (.int .i64 (i : Int))).put (some 11) (.bool b)).put (some 12) (.pointer (some ⟨g, 73 * i, none⟩))).put (some 13) (.pointer (some ⟨g, 73 * i + 67, none⟩)) → Q .normal a' w') :
    (Code.region 0 show0_ops false).wp Try.prog Q a w := by
  refine z0 rfl ?_
  refine zv rfl (exec_move rfl (zi t0 rfl)) ?_
  refine zv rfl (exec_nilCheck rfl (zg zz rfl)) ?_
  refine zv rfl (exec_fieldAt rfl (zg zz rfl) (fg_87_0 _ _ _)) ?_
  refine zv rfl (exec_load rfl (zg zz rfl) (R_sl hR)) ?_
  refine zv rfl (exec_move rfl (zi t1 rfl)) ?_
  refine zv rfl (exec_move rfl (zi t2 rfl)) ?_
  refine zv rfl (exec_indexAt rfl (zg zz rfl) (zg zz rfl) (R_ix hi hR.len _)) ?_
  refine zv rfl (exec_fieldAt rfl (zg zz rfl) (fg_113_1 _ _ _)) ?_
  refine zs rfl (exec_store rfl (zg zz rfl) (zg zz rfl) ES) ?_
  exact ze rfl (h _ _ (rfl) rfl)
def put1_o0 : Oper := { dst := some 9, op := Op.move (Operand.tmp 0), type := 114, pos := "row.go:63", after := #[], guard := none }
def put1_o1 : Oper := { dst := some 10, op := Op.nilCheck (Operand.tmp 9), type := 0, pos := "row.go:63", after := #[{ on := 0, ground := Ground.data }], guard := none }
def put1_o2 : Oper := { dst := some 11, op := Op.fieldAddr 87 (Operand.tmp 10) 0, type := 0, pos := "row.go:63", after := #[{ on := 1, ground := Ground.data }], guard := none }
def put1_o3 : Oper := { dst := some 12, op := Op.load 85 (Operand.tmp 11), type := 85, pos := "row.go:63", after := #[{ on := 2, ground := Ground.data }], guard := none }
def put1_o4 : Oper := { dst := some 13, op := Op.call { callee := Callee.builtin Builtin.len, args := #[Operand.tmp 12], argTypes := #[85] }, type := 3, pos := "row.go:63", after := #[{ on := 3, ground := Ground.data }], guard := none }
def put1_o5 : Oper := { dst := some 7, op := Op.assign (Operand.tmp 13), type := 3, pos := "row.go:63", after := #[{ on := 4, ground := Ground.data }, { on := 0, ground := Ground.phase }, { on := 1, ground := Ground.phase }, { on := 2, ground := Ground.phase }, { on := 3, ground := Ground.phase }, { on := 4, ground := Ground.phase }], guard := none }
def put1_ops : Array Oper := #[put1_o0, put1_o1, put1_o2, put1_o3, put1_o4, put1_o5]
set_option maxRecDepth 100000 in
set_option maxHeartbeats 4000000 in
theorem put1 {rb ro g cap : Nat} {L : List Sp} (a : Act) (w : World) (Q : Exit → Act → World → Prop) (zz : a.tmps.size = 50)
    (t0 : a.tmps.getD 0 undef = .pointer (some ⟨rb, ro, none⟩))
    (hR : SqAt w rb ro g cap L)
    (h : ∀ (a' : Act) (w' : World), w' = w → a' = ((((((a).put (some 9) (.pointer (some ⟨rb, ro, none⟩))).put (some 10) (.pointer (some ⟨rb, ro, none⟩))).put (some 11) (.pointer (some ⟨rb, ro + 0, none⟩))).put (some 12) (.slice (some ⟨g, 0, none⟩) (L).length cap)).put (some 13) (.int .i64 (L.length : Int))).put (some 7) (.int .i64 (L.length : Int)) → Q .normal a' w') :
    (Code.region 1 put1_ops false).wp Try.prog Q a w := by
  refine z0 rfl ?_
  refine zv rfl (exec_move rfl (zi t0 rfl)) ?_
  refine zv rfl (exec_nilCheck rfl (zg zz rfl)) ?_
  refine zv rfl (exec_fieldAt rfl (zg zz rfl) (fg_87_0 _ _ _)) ?_
  refine zv rfl (exec_load rfl (zg zz rfl) (R_sl hR)) ?_
  refine zv rfl (exec_len rfl (zg zz rfl) (len_sl _)) ?_
  refine zv rfl (exec_assign rfl (zg zz rfl)) ?_
  exact ze rfl (h _ _ (rfl) rfl)
def put2_o0 : Oper := { dst := some 14, op := Op.move (Operand.tmp 0), type := 114, pos := "row.go:64", after := #[], guard := none }
def put2_o1 : Oper := { dst := some 15, op := Op.move (Operand.tmp 0), type := 114, pos := "row.go:64", after := #[], guard := none }
def put2_o2 : Oper := { dst := some 16, op := Op.nilCheck (Operand.tmp 15), type := 0, pos := "row.go:64", after := #[{ on := 1, ground := Ground.data }], guard := none }
def put2_o3 : Oper := { dst := some 17, op := Op.fieldAddr 87 (Operand.tmp 16) 0, type := 0, pos := "row.go:64", after := #[{ on := 2, ground := Ground.data }], guard := none }
def put2_o4 : Oper := { dst := some 18, op := Op.load 85 (Operand.tmp 17), type := 85, pos := "row.go:64", after := #[{ on := 3, ground := Ground.data }], guard := none }
def put2_o5 : Oper := { dst := some 19, op := Op.load 90 (Operand.tmp 5), type := 90, pos := "row.go:64", after := #[], guard := none }
def put2_o6 : Oper := { dst := some 20, op := Op.build 113 #[(0, Operand.tmp 19), (1, Operand.const (Value.bool true))], type := 113, pos := "row.go:64", after := #[{ on := 5, ground := Ground.data }], guard := none }
def put2_o7 : Oper := { dst := some 21, op := Op.buildSlice 85 1 #[(0, Operand.tmp 20)], type := 85, pos := "row.go:64", after := #[{ on := 6, ground := Ground.data }], guard := none }
def put2_o8 : Oper := { dst := some 22, op := Op.call { callee := Callee.builtin Builtin.append, args := #[Operand.tmp 18, Operand.tmp 21], argTypes := #[85, 85] }, type := 85, pos := "row.go:64", after := #[{ on := 4, ground := Ground.data }, { on := 7, ground := Ground.data }], guard := none }
def put2_o9 : Oper := { dst := some 23, op := Op.nilCheck (Operand.tmp 14), type := 0, pos := "row.go:64", after := #[{ on := 0, ground := Ground.data }, { on := 0, ground := Ground.phase }, { on := 1, ground := Ground.phase }, { on := 2, ground := Ground.phase }, { on := 3, ground := Ground.phase }, { on := 4, ground := Ground.phase }, { on := 5, ground := Ground.phase }, { on := 6, ground := Ground.phase }, { on := 7, ground := Ground.phase }, { on := 8, ground := Ground.phase }], guard := none }
def put2_o10 : Oper := { dst := some 24, op := Op.fieldAddr 87 (Operand.tmp 23) 0, type := 0, pos := "row.go:64", after := #[{ on := 9, ground := Ground.data }, { on := 0, ground := Ground.phase }, { on := 1, ground := Ground.phase }, { on := 2, ground := Ground.phase }, { on := 3, ground := Ground.phase }, { on := 4, ground := Ground.phase }, { on := 5, ground := Ground.phase }, { on := 6, ground := Ground.phase }, { on := 7, ground := Ground.phase }, { on := 8, ground := Ground.phase }], guard := none }
def put2_o11 : Oper := { dst := none, op := Op.store 85 (Operand.tmp 24) (Operand.tmp 22), type := 0, pos := "row.go:64", after := #[{ on := 10, ground := Ground.data }, { on := 8, ground := Ground.data }, { on := 8, ground := Ground.chain }, { on := 0, ground := Ground.phase }, { on := 1, ground := Ground.phase }, { on := 2, ground := Ground.phase }, { on := 3, ground := Ground.phase }, { on := 4, ground := Ground.phase }, { on := 5, ground := Ground.phase }, { on := 6, ground := Ground.phase }, { on := 7, ground := Ground.phase }, { on := 8, ground := Ground.phase }], guard := none }
def put2_ops : Array Oper := #[put2_o0, put2_o1, put2_o2, put2_o3, put2_o4, put2_o5, put2_o6, put2_o7, put2_o8, put2_o9, put2_o10, put2_o11]
set_option maxRecDepth 100000 in
set_option maxHeartbeats 4000000 in
theorem put2 {rb ro g cap : Nat} {L : List Sp} {kb : Nat} {k : KpV} {lv qv : Value} {w1 w2 w3 : World} (a : Act) (w : World) (Q : Exit → Act → World → Prop) (hsz : a.tmps.size = 50)
    (t0 : a.tmps.getD 0 undef = .pointer (some ⟨rb, ro, none⟩))
    (t5 : a.tmps.getD 5 undef = .pointer (some ⟨kb, 0, none⟩))
    (hk : KpV.ok k) (h0 : KS kb k w.drew) (LA : (Instr.loadAt 85 (.pointer (some ⟨rb, ro + 0, none⟩))).run Try.prog w.drew = .ok (.slice (some ⟨g, 0, none⟩) L.length cap) w.drew) (EB : (Instr.buildSlice 85 1 #[(0, Sp.v ⟨k, true, 0, 0, 0, 0, 0⟩)]).run Try.prog w.drew = .ok lv w1) (S1 : KS kb k w1) (LB : (Instr.loadAt 85 (.pointer (some ⟨rb, ro + 0, none⟩))).run Try.prog w1 = .ok (.slice (some ⟨g, 0, none⟩) L.length cap) w1) (EA : (Builtin.append_ #[85, 85] 85 #[.slice (some ⟨g, 0, none⟩) L.length cap, lv]).run Try.prog w1 = .ok qv w2) (S2 : KS kb k w2) (ES : (Instr.storeAt 85 (.pointer (some ⟨rb, ro + 0, none⟩)) qv).run Try.prog w2 = .ok () w3) (S3 : KS kb k w3)
    (h1 : ∀ (a' : Act) (w' : World), w' = w3 → a' = (((((((((((a).put (some 14) (.pointer (some ⟨rb, ro, none⟩))).put (some 15) (.pointer (some ⟨rb, ro, none⟩))).put (some 16) (.pointer (some ⟨rb, ro, none⟩))).put (some 17) (.pointer (some ⟨rb, ro + 0, none⟩))).put (some 19) (KpV.v k)).put (some 20) (Sp.v ⟨k, true, 0, 0, 0, 0, 0⟩)).put (some 18) (.slice (some ⟨g, 0, none⟩) L.length cap)).put (some 21) (lv)).put (some 22) (qv)).put (some 23) (.pointer (some ⟨rb, ro, none⟩))).put (some 24) (.pointer (some ⟨rb, ro + 0, none⟩)) → Q .normal a' w')
    (h2 : ∀ (a' : Act) (w' : World), w' = w3 → a' = (((((((((((a).put (some 14) (.pointer (some ⟨rb, ro, none⟩))).put (some 15) (.pointer (some ⟨rb, ro, none⟩))).put (some 16) (.pointer (some ⟨rb, ro, none⟩))).put (some 17) (.pointer (some ⟨rb, ro + 0, none⟩))).put (some 19) (KpV.v k)).put (some 20) (Sp.v ⟨k, true, 0, 0, 0, 0, 0⟩)).put (some 21) (lv)).put (some 18) (.slice (some ⟨g, 0, none⟩) L.length cap)).put (some 22) (qv)).put (some 23) (.pointer (some ⟨rb, ro, none⟩))).put (some 24) (.pointer (some ⟨rb, ro + 0, none⟩)) → Q .normal a' w') :
    (Code.region 2 put2_ops true).wp Try.prog Q a w := by
  refine wp_region_noPanic ?_
  refine wp_region_held_drew (S := fun w' => (Instr.loadAt 90 (.pointer (some ⟨kb, 0, none⟩))).run Try.prog w' = .ok (KpV.v k) w') (by kernel_rfl) (h0) (fun hHeld => ?_)
  refine wpAnyH_take (i := 0) (oi := put2_o0) (v := .pointer (some ⟨rb, ro, none⟩)) rfl (by kernel_rfl) (by kernel_rfl) (by kernel_rfl) (fun _ _ _ h => h) (Or.inl ⟨by rfl, fun w1 hw => exec_move rfl t0⟩) hHeld ?_
  change wpAnyH _ _ _ _ _ _ _ (a.put (some 14) (.pointer (some ⟨rb, ro, none⟩))) _
  obtain ⟨a1, e1⟩ : ∃ act, act = a.put (some 14) (.pointer (some ⟨rb, ro, none⟩)) := ⟨_, rfl⟩
  rw [← e1] at h1 h2 ⊢
  have z1 := pz e1 hsz
  replace t0 := pk e1 t0 (by decide)
  replace t5 := pk e1 t5 (by decide)
  have t14 := pq e1 hsz (by decide)
  clear e1 hsz
  refine wpAnyH_take (i := 1) (oi := put2_o1) (v := .pointer (some ⟨rb, ro, none⟩)) rfl (by kernel_rfl) (by kernel_rfl) (by kernel_rfl) (fun _ _ _ h => h) (Or.inl ⟨by rfl, fun w1 hw => exec_move rfl t0⟩) hHeld ?_
  change wpAnyH _ _ _ _ _ _ _ (a1.put (some 15) (.pointer (some ⟨rb, ro, none⟩))) _
  obtain ⟨a2, e2⟩ : ∃ act, act = a1.put (some 15) (.pointer (some ⟨rb, ro, none⟩)) := ⟨_, rfl⟩
  rw [← e2] at h1 h2 ⊢
  have z2 := pz e2 z1
  replace t5 := pk e2 t5 (by decide)
  replace t14 := pk e2 t14 (by decide)
  clear t0
  have t15 := pq e2 z1 (by decide)
  clear e2 z1
  refine wpAnyH_take (i := 2) (oi := put2_o2) (v := .pointer (some ⟨rb, ro, none⟩)) rfl (by kernel_rfl) (by kernel_rfl) (by kernel_rfl) (fun _ _ _ h => h) (Or.inl ⟨by rfl, fun w1 hw => exec_nilCheck rfl t15⟩) hHeld ?_
  change wpAnyH _ _ _ _ _ _ _ (a2.put (some 16) (.pointer (some ⟨rb, ro, none⟩))) _
  obtain ⟨a3, e3⟩ : ∃ act, act = a2.put (some 16) (.pointer (some ⟨rb, ro, none⟩)) := ⟨_, rfl⟩
  rw [← e3] at h1 h2 ⊢
  have z3 := pz e3 z2
  replace t5 := pk e3 t5 (by decide)
  replace t14 := pk e3 t14 (by decide)
  clear t15
  have t16 := pq e3 z2 (by decide)
  clear e3 z2
  refine wpAnyH_take (i := 3) (oi := put2_o3) (v := .pointer (some ⟨rb, ro + 0, none⟩)) rfl (by kernel_rfl) (by kernel_rfl) (by kernel_rfl) (fun _ _ _ h => h) (Or.inl ⟨by rfl, fun w1 hw => exec_fieldAt rfl t16 (fg_87_0 _ _ _)⟩) hHeld ?_
  change wpAnyH _ _ _ _ _ _ _ (a3.put (some 17) (.pointer (some ⟨rb, ro + 0, none⟩))) _
  obtain ⟨a4, e4⟩ : ∃ act, act = a3.put (some 17) (.pointer (some ⟨rb, ro + 0, none⟩)) := ⟨_, rfl⟩
  rw [← e4] at h1 h2 ⊢
  have z4 := pz e4 z3
  replace t5 := pk e4 t5 (by decide)
  replace t14 := pk e4 t14 (by decide)
  clear t16
  have t17 := pq e4 z3 (by decide)
  clear e4 z3
  refine wpAnyH_take (i := 5) (oi := put2_o5) (v := KpV.v k) rfl (by kernel_rfl) (by kernel_rfl) (by kernel_rfl) (fun _ _ _ h => h) (Or.inl ⟨by rfl, fun w1 hw => exec_load rfl t5 hw⟩) hHeld ?_
  change wpAnyH _ _ _ _ _ _ _ (a4.put (some 19) (KpV.v k)) _
  obtain ⟨a5, e5⟩ : ∃ act, act = a4.put (some 19) (KpV.v k) := ⟨_, rfl⟩
  rw [← e5] at h1 h2 ⊢
  have z5 := pz e5 z4
  replace t14 := pk e5 t14 (by decide)
  replace t17 := pk e5 t17 (by decide)
  clear t5
  have t19 := pq e5 z4 (by decide)
  clear e5 z4
  refine wpAnyH_take (i := 6) (oi := put2_o6) (v := Sp.v ⟨k, true, 0, 0, 0, 0, 0⟩) rfl (by kernel_rfl) (by kernel_rfl) (by kernel_rfl) (fun _ _ _ h => h) (Or.inl ⟨by rfl, fun w1 hw => exec_bsp hk rfl t19⟩) hHeld ?_
  change wpAnyH _ _ _ _ _ _ _ (a5.put (some 20) (Sp.v ⟨k, true, 0, 0, 0, 0, 0⟩)) _
  obtain ⟨a6, e6⟩ : ∃ act, act = a5.put (some 20) (Sp.v ⟨k, true, 0, 0, 0, 0, 0⟩) := ⟨_, rfl⟩
  rw [← e6] at h1 h2 ⊢
  have z6 := pz e6 z5
  replace t14 := pk e6 t14 (by decide)
  replace t17 := pk e6 t17 (by decide)
  clear t19
  have t20 := pq e6 z5 (by decide)
  clear e6 z5
  refine wpAnyH_ready (rs := [4, 7]) (by kernel_rfl) (by simp) ?_
  refine AllReadyH.cons (o := put2_o4) rfl (fun K hK => ?_) (AllReadyH.cons (o := put2_o7) rfl (fun K hK => ?_) (AllReadyH.nil))
  · clear h2
    have X := exec_load (P := Try.prog) (a := a6) (o := put2_o4) rfl t17 LA
    rw [if_pos (by rfl), Oper.wp, X]
    show K _ _
    clear X
    refine hK.out _ _ (h0) (fun hHeld => ?_)
    clear hK K
    change wpAnyH _ _ _ _ _ _ _ (a6.put (some 18) (.slice (some ⟨g, 0, none⟩) L.length cap)) _
    obtain ⟨a7, e7⟩ : ∃ act, act = a6.put (some 18) (.slice (some ⟨g, 0, none⟩) L.length cap) := ⟨_, rfl⟩
    rw [← e7] at h1 ⊢
    have z7 := pz e7 z6
    replace t14 := pk e7 t14 (by decide)
    replace t20 := pk e7 t20 (by decide)
    clear t17
    have t18 := pq e7 z6 (by decide)
    clear e7 z6
    refine wpAnyH_ready (rs := [7]) (by kernel_rfl) (by simp) ?_
    refine AllReadyH.cons (o := put2_o7) rfl (fun K hK => ?_) AllReadyH.nil
    have X := exec_buildSlice (P := Try.prog) (a := a7) (o := put2_o7) rfl t20 EB
    rw [if_pos (by rfl), Oper.wp, X]
    show K _ _
    clear X
    refine hK.out _ _ (S1) (fun hHeld => ?_)
    clear hK K
    change wpAnyH _ _ _ _ _ _ _ (a7.put (some 21) (lv)) _
    obtain ⟨a8, e8⟩ : ∃ act, act = a7.put (some 21) (lv) := ⟨_, rfl⟩
    rw [← e8] at h1 ⊢
    have z8 := pz e8 z7
    replace t14 := pk e8 t14 (by decide)
    replace t18 := pk e8 t18 (by decide)
    clear t20
    have t21 := pq e8 z7 (by decide)
    clear e8 z7
    refine wpAnyH_ready (rs := [8]) (by kernel_rfl) (by simp) ?_
    refine AllReadyH.cons (o := put2_o8) rfl (fun K hK => ?_) AllReadyH.nil
    have X := exec_append (P := Try.prog) (a := a8) (o := put2_o8) rfl t18 t21 EA
    rw [if_pos (by rfl), Oper.wp, X]
    show K _ _
    clear X
    refine hK.out _ _ (S2) (fun hHeld => ?_)
    clear hK K
    change wpAnyH _ _ _ _ _ _ _ (a8.put (some 22) (qv)) _
    obtain ⟨a9, e9⟩ : ∃ act, act = a8.put (some 22) (qv) := ⟨_, rfl⟩
    rw [← e9] at h1 ⊢
    have z9 := pz e9 z8
    replace t14 := pk e9 t14 (by decide)
    clear t18 t21
    have t22 := pq e9 z8 (by decide)
    clear e9 z8
    refine wpAnyH_take (i := 9) (oi := put2_o9) (v := .pointer (some ⟨rb, ro, none⟩)) rfl (by kernel_rfl) (by kernel_rfl) (by kernel_rfl) (fun _ _ _ h => h) (Or.inl ⟨by rfl, fun w1 hw => exec_nilCheck rfl t14⟩) hHeld ?_
    change wpAnyH _ _ _ _ _ _ _ (a9.put (some 23) (.pointer (some ⟨rb, ro, none⟩))) _
    obtain ⟨a10, e10⟩ : ∃ act, act = a9.put (some 23) (.pointer (some ⟨rb, ro, none⟩)) := ⟨_, rfl⟩
    rw [← e10] at h1 ⊢
    have z10 := pz e10 z9
    replace t22 := pk e10 t22 (by decide)
    clear t14
    have t23 := pq e10 z9 (by decide)
    clear e10 z9
    refine wpAnyH_take (i := 10) (oi := put2_o10) (v := .pointer (some ⟨rb, ro + 0, none⟩)) rfl (by kernel_rfl) (by kernel_rfl) (by kernel_rfl) (fun _ _ _ h => h) (Or.inl ⟨by rfl, fun w1 hw => exec_fieldAt rfl t23 (fg_87_0 _ _ _)⟩) hHeld ?_
    change wpAnyH _ _ _ _ _ _ _ (a10.put (some 24) (.pointer (some ⟨rb, ro + 0, none⟩))) _
    obtain ⟨a11, e11⟩ : ∃ act, act = a10.put (some 24) (.pointer (some ⟨rb, ro + 0, none⟩)) := ⟨_, rfl⟩
    rw [← e11] at h1 ⊢
    have z11 := pz e11 z10
    replace t22 := pk e11 t22 (by decide)
    clear t23
    have t24 := pq e11 z10 (by decide)
    clear e11 z10
    refine wpAnyH_ready (rs := [11]) (by kernel_rfl) (by simp) ?_
    refine AllReadyH.cons (o := put2_o11) rfl (fun K hK => ?_) AllReadyH.nil
    have X := exec_store (P := Try.prog) (a := a11) (o := put2_o11) rfl t24 t22 ES
    rw [if_pos (by rfl), Oper.wp, X]
    show K _ _
    clear X
    refine hK.out _ _ (S3) (fun hHeld => ?_)
    clear hK K
    exact wpAnyH_done (by kernel_rfl) (NoPanic.normal (h1 _ _ (rfl) rfl)) _
  · clear h1
    have X := exec_buildSlice (P := Try.prog) (a := a6) (o := put2_o7) rfl t20 EB
    rw [if_pos (by rfl), Oper.wp, X]
    show K _ _
    clear X
    refine hK.out _ _ (S1) (fun hHeld => ?_)
    clear hK K
    change wpAnyH _ _ _ _ _ _ _ (a6.put (some 21) (lv)) _
    obtain ⟨a13, e13⟩ : ∃ act, act = a6.put (some 21) (lv) := ⟨_, rfl⟩
    rw [← e13] at h2 ⊢
    have z13 := pz e13 z6
    replace t14 := pk e13 t14 (by decide)
    replace t17 := pk e13 t17 (by decide)
    clear t20
    have t21 := pq e13 z6 (by decide)
    clear e13 z6
    refine wpAnyH_ready (rs := [4]) (by kernel_rfl) (by simp) ?_
    refine AllReadyH.cons (o := put2_o4) rfl (fun K hK => ?_) AllReadyH.nil
    have X := exec_load (P := Try.prog) (a := a13) (o := put2_o4) rfl t17 LB
    rw [if_pos (by rfl), Oper.wp, X]
    show K _ _
    clear X
    refine hK.out _ _ (S1) (fun hHeld => ?_)
    clear hK K
    change wpAnyH _ _ _ _ _ _ _ (a13.put (some 18) (.slice (some ⟨g, 0, none⟩) L.length cap)) _
    obtain ⟨a14, e14⟩ : ∃ act, act = a13.put (some 18) (.slice (some ⟨g, 0, none⟩) L.length cap) := ⟨_, rfl⟩
    rw [← e14] at h2 ⊢
    have z14 := pz e14 z13
    replace t14 := pk e14 t14 (by decide)
    replace t21 := pk e14 t21 (by decide)
    clear t17
    have t18 := pq e14 z13 (by decide)
    clear e14 z13
    refine wpAnyH_ready (rs := [8]) (by kernel_rfl) (by simp) ?_
    refine AllReadyH.cons (o := put2_o8) rfl (fun K hK => ?_) AllReadyH.nil
    have X := exec_append (P := Try.prog) (a := a14) (o := put2_o8) rfl t18 t21 EA
    rw [if_pos (by rfl), Oper.wp, X]
    show K _ _
    clear X
    refine hK.out _ _ (S2) (fun hHeld => ?_)
    clear hK K
    change wpAnyH _ _ _ _ _ _ _ (a14.put (some 22) (qv)) _
    obtain ⟨a15, e15⟩ : ∃ act, act = a14.put (some 22) (qv) := ⟨_, rfl⟩
    rw [← e15] at h2 ⊢
    have z15 := pz e15 z14
    replace t14 := pk e15 t14 (by decide)
    clear t21 t18
    have t22 := pq e15 z14 (by decide)
    clear e15 z14
    refine wpAnyH_take (i := 9) (oi := put2_o9) (v := .pointer (some ⟨rb, ro, none⟩)) rfl (by kernel_rfl) (by kernel_rfl) (by kernel_rfl) (fun _ _ _ h => h) (Or.inl ⟨by rfl, fun w1 hw => exec_nilCheck rfl t14⟩) hHeld ?_
    change wpAnyH _ _ _ _ _ _ _ (a15.put (some 23) (.pointer (some ⟨rb, ro, none⟩))) _
    obtain ⟨a16, e16⟩ : ∃ act, act = a15.put (some 23) (.pointer (some ⟨rb, ro, none⟩)) := ⟨_, rfl⟩
    rw [← e16] at h2 ⊢
    have z16 := pz e16 z15
    replace t22 := pk e16 t22 (by decide)
    clear t14
    have t23 := pq e16 z15 (by decide)
    clear e16 z15
    refine wpAnyH_take (i := 10) (oi := put2_o10) (v := .pointer (some ⟨rb, ro + 0, none⟩)) rfl (by kernel_rfl) (by kernel_rfl) (by kernel_rfl) (fun _ _ _ h => h) (Or.inl ⟨by rfl, fun w1 hw => exec_fieldAt rfl t23 (fg_87_0 _ _ _)⟩) hHeld ?_
    change wpAnyH _ _ _ _ _ _ _ (a16.put (some 24) (.pointer (some ⟨rb, ro + 0, none⟩))) _
    obtain ⟨a17, e17⟩ : ∃ act, act = a16.put (some 24) (.pointer (some ⟨rb, ro + 0, none⟩)) := ⟨_, rfl⟩
    rw [← e17] at h2 ⊢
    have z17 := pz e17 z16
    replace t22 := pk e17 t22 (by decide)
    clear t23
    have t24 := pq e17 z16 (by decide)
    clear e17 z16
    refine wpAnyH_ready (rs := [11]) (by kernel_rfl) (by simp) ?_
    refine AllReadyH.cons (o := put2_o11) rfl (fun K hK => ?_) AllReadyH.nil
    have X := exec_store (P := Try.prog) (a := a17) (o := put2_o11) rfl t24 t22 ES
    rw [if_pos (by rfl), Oper.wp, X]
    show K _ _
    clear X
    refine hK.out _ _ (S3) (fun hHeld => ?_)
    clear hK K
    exact wpAnyH_done (by kernel_rfl) (NoPanic.normal (h2 _ _ (rfl) rfl)) _
def put3_o0 : Oper := { dst := some 25, op := Op.move (Operand.tmp 0), type := 114, pos := "row.go:65", after := #[], guard := none }
def put3_o1 : Oper := { dst := some 26, op := Op.nilCheck (Operand.tmp 25), type := 0, pos := "row.go:65", after := #[{ on := 0, ground := Ground.data }], guard := none }
def put3_o2 : Oper := { dst := some 27, op := Op.fieldAddr 87 (Operand.tmp 26) 0, type := 0, pos := "row.go:65", after := #[{ on := 1, ground := Ground.data }], guard := none }
def put3_o3 : Oper := { dst := some 28, op := Op.load 85 (Operand.tmp 27), type := 85, pos := "row.go:65", after := #[{ on := 2, ground := Ground.data }], guard := none }
def put3_o4 : Oper := { dst := some 29, op := Op.move (Operand.tmp 1), type := 3, pos := "row.go:65", after := #[], guard := none }
def put3_o5 : Oper := { dst := some 30, op := Op.indexAddr 85 (Operand.tmp 28) (Operand.tmp 29), type := 0, pos := "row.go:65", after := #[{ on := 3, ground := Ground.data }, { on := 4, ground := Ground.data }], guard := none }
def put3_o6 : Oper := { dst := some 31, op := Op.fieldAddr 113 (Operand.tmp 30) 3, type := 0, pos := "row.go:65", after := #[{ on := 5, ground := Ground.data }], guard := none }
def put3_o7 : Oper := { dst := some 32, op := Op.indexAddr 111 (Operand.tmp 31) (Operand.const (Value.int IntKind.i64 1)), type := 0, pos := "row.go:65", after := #[{ on := 6, ground := Ground.data }], guard := none }
def put3_o8 : Oper := { dst := some 33, op := Op.load 3 (Operand.tmp 32), type := 3, pos := "row.go:65", after := #[{ on := 7, ground := Ground.data }], guard := none }
def put3_o9 : Oper := { dst := some 8, op := Op.assign (Operand.tmp 33), type := 3, pos := "row.go:65", after := #[{ on := 8, ground := Ground.data }, { on := 0, ground := Ground.phase }, { on := 1, ground := Ground.phase }, { on := 2, ground := Ground.phase }, { on := 3, ground := Ground.phase }, { on := 4, ground := Ground.phase }, { on := 5, ground := Ground.phase }, { on := 6, ground := Ground.phase }, { on := 7, ground := Ground.phase }, { on := 8, ground := Ground.phase }], guard := none }
def put3_ops : Array Oper := #[put3_o0, put3_o1, put3_o2, put3_o3, put3_o4, put3_o5, put3_o6, put3_o7, put3_o8, put3_o9]
set_option maxRecDepth 100000 in
set_option maxHeartbeats 4000000 in
theorem put3 {rb ro g cap : Nat} {L : List Sp} {i : Nat} (a : Act) (w : World) (Q : Exit → Act → World → Prop) (zz : a.tmps.size = 50)
    (t0 : a.tmps.getD 0 undef = .pointer (some ⟨rb, ro, none⟩))
    (t1 : a.tmps.getD 1 undef = .int .i64 (i : Int))
    (hR : SqAt w rb ro g cap L) (hi : i < L.length)
    (h : ∀ (a' : Act) (w' : World), w' = w → a' = ((((((((((a).put (some 25) (.pointer (some ⟨rb, ro, none⟩))).put (some 26) (.pointer (some ⟨rb, ro, none⟩))).put (some 27) (.pointer (some ⟨rb, ro + 0, none⟩))).put (some 28) (.slice (some ⟨g, 0, none⟩) (L).length cap)).put (some 29) (.int .i64 (i : Int))).put (some 30) (.pointer (some ⟨g, 73 * i, none⟩))).put (some 31) (.pointer (some ⟨g, 73 * i + 69, none⟩))).put (some 32) (.pointer (some ⟨g, 73 * i + 69 + nb true, none⟩))).put (some 33) (.int .i64 (dn (gt L i) true : Int))).put (some 8) (.int .i64 (dn (gt L i) true : Int)) → Q .normal a' w') :
    (Code.region 3 put3_ops false).wp Try.prog Q a w := by
  refine z0 rfl ?_
  refine zv rfl (exec_move rfl (zi t0 rfl)) ?_
  refine zv rfl (exec_nilCheck rfl (zg zz rfl)) ?_
  refine zv rfl (exec_fieldAt rfl (zg zz rfl) (fg_87_0 _ _ _)) ?_
  refine zv rfl (exec_load rfl (zg zz rfl) (R_sl hR)) ?_
  refine zv rfl (exec_move rfl (zi t1 rfl)) ?_
  refine zv rfl (exec_indexAt rfl (zg zz rfl) (zg zz rfl) (R_ix hi hR.len _)) ?_
  refine zv rfl (exec_fieldAt rfl (zg zz rfl) (fg_113_3 _ _ _)) ?_
  refine zv rfl (exec_indexAt rfl (zg zz rfl) rfl (ix_a1 _ _)) ?_
  refine zv rfl (exec_load rfl (zg zz rfl) (R_dn hR hi true)) ?_
  refine zv rfl (exec_assign rfl (zg zz rfl)) ?_
  exact ze rfl (h _ _ (rfl) rfl)
def put6_o0 : Oper := { dst := some 40, op := Op.move (Operand.tmp 0), type := 114, pos := "row.go:68", after := #[], guard := none }
def put6_o1 : Oper := { dst := some 41, op := Op.move (Operand.tmp 0), type := 114, pos := "row.go:68", after := #[], guard := none }
def put6_o2 : Oper := { dst := some 42, op := Op.move (Operand.tmp 8), type := 3, pos := "row.go:68", after := #[], guard := none }
def put6_o3 : Oper := { dst := some 43, op := Op.call { callee := Callee.value (Operand.func 77), args := #[Operand.tmp 41, Operand.tmp 42], argTypes := #[114, 3] }, type := 3, pos := "row.go:68", after := #[{ on := 1, ground := Ground.data }, { on := 2, ground := Ground.data }], guard := none }
def put6_o4 : Oper := { dst := some 44, op := Op.move (Operand.tmp 7), type := 3, pos := "row.go:68", after := #[], guard := none }
def put6_o5 : Oper := { dst := some 45, op := Op.call { callee := Callee.value (Operand.func 76), args := #[Operand.tmp 40, Operand.tmp 43, Operand.const (Value.int IntKind.i64 0), Operand.tmp 44], argTypes := #[114, 3, 3, 3] }, type := 0, pos := "row.go:68", after := #[{ on := 0, ground := Ground.data }, { on := 3, ground := Ground.data }, { on := 4, ground := Ground.data }, { on := 3, ground := Ground.chain }], guard := none }
def put6_ops : Array Oper := #[put6_o0, put6_o1, put6_o2, put6_o3, put6_o4, put6_o5]
set_option maxRecDepth 100000 in
set_option maxHeartbeats 4000000 in
theorem put6 {rb ro n i j : Nat} (Fin : World → Prop) (a : Act) (w : World) (Q : Exit → Act → World → Prop) (zz : a.tmps.size = 50)
    (t0 : a.tmps.getD 0 undef = .pointer (some ⟨rb, ro, none⟩))
    (t7 : a.tmps.getD 7 undef = .int .i64 (n : Int))
    (t8 : a.tmps.getD 8 undef = .int .i64 (i : Int))
    (CF : Calls Try.prog 77 #[.pointer (some ⟨rb, ro, none⟩), .int .i64 (i : Int)] w fun e w' => e = .returned (.int .i64 (j : Int)) ∧ Calls Try.prog 76 #[.pointer (some ⟨rb, ro, none⟩), .int .i64 (j : Int), .int .i64 0, .int .i64 (n : Int)] w' fun e2 w2 => e2 = .returned (.tuple #[]) ∧ Fin w2)
    (h : ∀ (a' : Act) (w' : World), Fin w' → a' = ((((((a).put (some 40) (.pointer (some ⟨rb, ro, none⟩))).put (some 41) (.pointer (some ⟨rb, ro, none⟩))).put (some 42) (.int .i64 (i : Int))).put (some 43) (.int .i64 (j : Int))).put (some 44) (.int .i64 (n : Int))).put (some 45) (.tuple #[]) → Q .normal a' w') :
    (Code.region 6 put6_ops false).wp Try.prog Q a w := by
  refine z0 rfl ?_
  refine zv rfl (exec_move rfl (zi t0 rfl)) ?_
  refine zv rfl (exec_move rfl (zi t0 rfl)) ?_
  refine zv rfl (exec_move rfl (zi t8 rfl)) ?_
  refine zc rfl (exec_c2 rfl (zg zz rfl) (zg zz rfl)) (CF) (fun e x3 hx => ?_)
  obtain ⟨rfl, CH⟩ := hx
  refine ⟨_, rfl, ?_⟩
  refine zv rfl (exec_move rfl (zi t7 rfl)) ?_
  refine zc rfl (exec_c4 rfl (zg zz rfl) (zg zz rfl) rfl (zg zz rfl)) (CH) (fun e x5 hx => ?_)
  obtain ⟨rfl, HF⟩ := hx
  refine ⟨_, rfl, ?_⟩
  exact ze rfl (h _ _ (HF) rfl)
end Go.Proofs.Ytlejbdepoemcjaa
