import Derived.Test.YtlejbdepoemcjaaZr
import Derived.Test.YtlejbdepoemcjaaXb
namespace Go.Proofs.Ytlejbdepoemcjaa
open Go.RowKit Sq
set_option linter.unusedVariables false
set_option linter.unusedSimpArgs false

def RS (rb ro g cap i : Nat) (L : List Sp) (w' : World) : Prop := (Instr.loadAt 85 (.pointer (some ⟨rb, ro + 0, none⟩))).run Try.prog w' = .ok (.slice (some ⟨g, 0, none⟩) L.length cap) w' ∧ (Instr.loadAt 3 (.pointer (some ⟨g, 73 * i + 68, none⟩))).run Try.prog w' = .ok (.int .i64 ((gt L i).up : Int)) w'
def TS (rb ro g cap i : Nat) (c : Bool) (L : List Sp) (w' : World) : Prop := (Instr.loadAt 85 (.pointer (some ⟨rb, ro + 0, none⟩))).run Try.prog w' = .ok (.slice (some ⟨g, 0, none⟩) L.length cap) w' ∧ (Instr.loadAt 3 (.pointer (some ⟨g, 73 * i + 69 + nb true, none⟩))).run Try.prog w' = .ok (.int .i64 (dn (gt L i) true : Int)) w' ∧ (Instr.loadAt 3 (.pointer (some ⟨g, 73 * (dn (gt L i) true) + 71 + nb c, none⟩))).run Try.prog w' = .ok (.int .i64 (ct (gt L (dn (gt L i) true)) c : Int)) w'
def weight1_o0 : Oper := { dst := some 5, op := Op.move (Operand.tmp 0), type := 114, pos := "row.go:187", after := #[], guard := none }
def weight1_o1 : Oper := { dst := some 6, op := Op.nilCheck (Operand.tmp 5), type := 0, pos := "row.go:187", after := #[{ on := 0, ground := Ground.data }], guard := none }
def weight1_o2 : Oper := { dst := some 7, op := Op.fieldAddr 87 (Operand.tmp 6) 0, type := 0, pos := "row.go:187", after := #[{ on := 1, ground := Ground.data }], guard := none }
def weight1_o3 : Oper := { dst := some 8, op := Op.load 85 (Operand.tmp 7), type := 85, pos := "row.go:187", after := #[{ on := 2, ground := Ground.data }], guard := none }
def weight1_o4 : Oper := { dst := some 9, op := Op.move (Operand.tmp 1), type := 3, pos := "row.go:187", after := #[], guard := none }
def weight1_o5 : Oper := { dst := some 10, op := Op.indexAddr 85 (Operand.tmp 8) (Operand.tmp 9), type := 0, pos := "row.go:187", after := #[{ on := 3, ground := Ground.data }, { on := 4, ground := Ground.data }], guard := none }
def weight1_o6 : Oper := { dst := some 11, op := Op.fieldAddr 113 (Operand.tmp 10) 4, type := 0, pos := "row.go:187", after := #[{ on := 5, ground := Ground.data }], guard := none }
def weight1_o7 : Oper := { dst := some 12, op := Op.indexAddr 111 (Operand.tmp 11) (Operand.const (Value.int IntKind.i64 0)), type := 0, pos := "row.go:187", after := #[{ on := 6, ground := Ground.data }], guard := none }
def weight1_o8 : Oper := { dst := some 13, op := Op.load 3 (Operand.tmp 12), type := 3, pos := "row.go:187", after := #[{ on := 7, ground := Ground.data }], guard := none }
def weight1_o9 : Oper := { dst := some 14, op := Op.binOp BinOp.add 3 (Operand.tmp 13) (Operand.const (Value.int IntKind.i64 1)) 3, type := 3, pos := "row.go:187", after := #[{ on := 8, ground := Ground.data }], guard := none }
def weight1_o10 : Oper := { dst := some 4, op := Op.assign (Operand.tmp 14), type := 3, pos := "row.go:187", after := #[{ on := 9, ground := Ground.data }, { on := 0, ground := Ground.phase }, { on := 1, ground := Ground.phase }, { on := 2, ground := Ground.phase }, { on := 3, ground := Ground.phase }, { on := 4, ground := Ground.phase }, { on := 5, ground := Ground.phase }, { on := 6, ground := Ground.phase }, { on := 7, ground := Ground.phase }, { on := 8, ground := Ground.phase }, { on := 9, ground := Ground.phase }], guard := none }
def weight1_ops : Array Oper := #[weight1_o0, weight1_o1, weight1_o2, weight1_o3, weight1_o4, weight1_o5, weight1_o6, weight1_o7, weight1_o8, weight1_o9, weight1_o10]
set_option maxRecDepth 100000 in
set_option maxHeartbeats 4000000 in
theorem weight1 {rb ro g cap : Nat} {L : List Sp} {i : Nat} (a : Act) (w : World) (Q : Exit → Act → World → Prop) (zz : a.tmps.size = 15)
    (t0 : a.tmps.getD 0 undef = .pointer (some ⟨rb, ro, none⟩))
    (t1 : a.tmps.getD 1 undef = .int .i64 (i : Int))
    (hR : SqAt w rb ro g cap L) (hi : i < L.length) (hs : ct (gt L i) false + 1 ≤ 9223372036854775807)
    (h : ∀ (a' : Act) (w' : World), w' = w → a' = (((((((((((a).put (some 5) (.pointer (some ⟨rb, ro, none⟩))).put (some 6) (.pointer (some ⟨rb, ro, none⟩))).put (some 7) (.pointer (some ⟨rb, ro + 0, none⟩))).put (some 8) (.slice (some ⟨g, 0, none⟩) (L).length cap)).put (some 9) (.int .i64 (i : Int))).put (some 10) (.pointer (some ⟨g, 73 * i, none⟩))).put (some 11) (.pointer (some ⟨g, 73 * i + 71, none⟩))).put (some 12) (.pointer (some ⟨g, 73 * i + 71 + nb false, none⟩))).put (some 13) (.int .i64 (ct (gt L i) false : Int))).put (some 14) (.int .i64 ((ct (gt L i) false + 1 : Nat) : Int))).put (some 4) (.int .i64 ((ct (gt L i) false + 1 : Nat) : Int)) → Q .normal a' w') :
    (Code.region 1 weight1_ops false).wp Try.prog Q a w := by
  refine z0 rfl ?_
  refine zv rfl (exec_move rfl (zi t0 rfl)) ?_
  refine zv rfl (exec_nilCheck rfl (zg zz rfl)) ?_
  refine zv rfl (exec_fieldAt rfl (zg zz rfl) (fg_87_0 _ _ _)) ?_
  refine zv rfl (exec_load rfl (zg zz rfl) (R_sl hR)) ?_
  refine zv rfl (exec_move rfl (zi t1 rfl)) ?_
  refine zv rfl (exec_indexAt rfl (zg zz rfl) (zg zz rfl) (R_ix hi hR.len _)) ?_
  refine zv rfl (exec_fieldAt rfl (zg zz rfl) (fg_113_4 _ _ _)) ?_
  refine zv rfl (exec_indexAt rfl (zg zz rfl) rfl (ix_a0 _ _)) ?_
  refine zv rfl (exec_load rfl (zg zz rfl) (R_ct hR hi false)) ?_
  refine zv (v := .int .i64 ((ct (gt L i) false + 1 : Nat) : Int)) rfl (ex_addN (q := 1) rfl (zg zz rfl) rfl hs) ?_
  refine zv rfl (exec_assign rfl (zg zz rfl)) ?_
  exact ze rfl (h _ _ (rfl) rfl)
def under1_o0 : Oper := { dst := some 9, op := Op.move (Operand.tmp 0), type := 114, pos := "row.go:174", after := #[], guard := none }
def under1_o1 : Oper := { dst := some 10, op := Op.nilCheck (Operand.tmp 9), type := 0, pos := "row.go:174", after := #[{ on := 0, ground := Ground.data }], guard := none }
def under1_o2 : Oper := { dst := some 11, op := Op.fieldAddr 87 (Operand.tmp 10) 0, type := 0, pos := "row.go:174", after := #[{ on := 1, ground := Ground.data }], guard := none }
def under1_o3 : Oper := { dst := some 12, op := Op.load 85 (Operand.tmp 11), type := 85, pos := "row.go:174", after := #[{ on := 2, ground := Ground.data }], guard := none }
def under1_o4 : Oper := { dst := some 13, op := Op.move (Operand.tmp 0), type := 114, pos := "row.go:174", after := #[], guard := none }
def under1_o5 : Oper := { dst := some 14, op := Op.nilCheck (Operand.tmp 13), type := 0, pos := "row.go:174", after := #[{ on := 4, ground := Ground.data }], guard := none }
def under1_o6 : Oper := { dst := some 15, op := Op.fieldAddr 87 (Operand.tmp 14) 0, type := 0, pos := "row.go:174", after := #[{ on := 5, ground := Ground.data }], guard := none }
def under1_o7 : Oper := { dst := some 16, op := Op.load 85 (Operand.tmp 15), type := 85, pos := "row.go:174", after := #[{ on := 6, ground := Ground.data }], guard := none }
def under1_o8 : Oper := { dst := some 17, op := Op.move (Operand.tmp 1), type := 3, pos := "row.go:174", after := #[], guard := none }
def under1_o9 : Oper := { dst := some 18, op := Op.move (Operand.tmp 2), type := 3, pos := "row.go:174", after := #[], guard := none }
def under1_o10 : Oper := { dst := some 19, op := Op.indexAddr 85 (Operand.tmp 16) (Operand.tmp 17), type := 0, pos := "row.go:174", after := #[{ on := 7, ground := Ground.data }, { on := 8, ground := Ground.data }], guard := none }
def under1_o11 : Oper := { dst := some 20, op := Op.fieldAddr 113 (Operand.tmp 19) 3, type := 0, pos := "row.go:174", after := #[{ on := 10, ground := Ground.data }], guard := none }
def under1_o12 : Oper := { dst := some 21, op := Op.indexAddr 111 (Operand.tmp 20) (Operand.tmp 18), type := 0, pos := "row.go:174", after := #[{ on := 11, ground := Ground.data }, { on := 9, ground := Ground.data }], guard := none }
def under1_o13 : Oper := { dst := some 22, op := Op.load 3 (Operand.tmp 21), type := 3, pos := "row.go:174", after := #[{ on := 12, ground := Ground.data }], guard := none }
def under1_o14 : Oper := { dst := some 23, op := Op.move (Operand.tmp 3), type := 3, pos := "row.go:174", after := #[], guard := none }
def under1_o15 : Oper := { dst := some 24, op := Op.indexAddr 85 (Operand.tmp 12) (Operand.tmp 22), type := 0, pos := "row.go:174", after := #[{ on := 3, ground := Ground.data }, { on := 13, ground := Ground.data }], guard := none }
def under1_o16 : Oper := { dst := some 25, op := Op.fieldAddr 113 (Operand.tmp 24) 4, type := 0, pos := "row.go:174", after := #[{ on := 15, ground := Ground.data }], guard := none }
def under1_o17 : Oper := { dst := some 26, op := Op.indexAddr 111 (Operand.tmp 25) (Operand.tmp 23), type := 0, pos := "row.go:174", after := #[{ on := 16, ground := Ground.data }, { on := 14, ground := Ground.data }], guard := none }
def under1_o18 : Oper := { dst := some 27, op := Op.load 3 (Operand.tmp 26), type := 3, pos := "row.go:174", after := #[{ on := 17, ground := Ground.data }], guard := none }
def under1_o19 : Oper := { dst := some 8, op := Op.assign (Operand.tmp 27), type := 3, pos := "row.go:174", after := #[{ on := 18, ground := Ground.data }, { on := 0, ground := Ground.phase }, { on := 1, ground := Ground.phase }, { on := 2, ground := Ground.phase }, { on := 3, ground := Ground.phase }, { on := 4, ground := Ground.phase }, { on := 5, ground := Ground.phase }, { on := 6, ground := Ground.phase }, { on := 7, ground := Ground.phase }, { on := 8, ground := Ground.phase }, { on := 9, ground := Ground.phase }, { on := 10, ground := Ground.phase }, { on := 11, ground := Ground.phase }, { on := 12, ground := Ground.phase }, { on := 13, ground := Ground.phase }, { on := 14, ground := Ground.phase }, { on := 15, ground := Ground.phase }, { on := 16, ground := Ground.phase }, { on := 17, ground := Ground.phase }, { on := 18, ground := Ground.phase }], guard := none }
def under1_ops : Array Oper := #[under1_o0, under1_o1, under1_o2, under1_o3, under1_o4, under1_o5, under1_o6, under1_o7, under1_o8, under1_o9, under1_o10, under1_o11, under1_o12, under1_o13, under1_o14, under1_o15, under1_o16, under1_o17, under1_o18, under1_o19]
set_option maxRecDepth 100000 in
set_option maxHeartbeats 4000000 in
theorem under1 {rb ro g cap : Nat} {L : List Sp} {i : Nat} {b c : Bool} (a : Act) (w : World) (Q : Exit → Act → World → Prop) (zz : a.tmps.size = 28)
    (t0 : a.tmps.getD 0 undef = .pointer (some ⟨rb, ro, none⟩))
    (t1 : a.tmps.getD 1 undef = .int .i64 (i : Int))
    (t2 : a.tmps.getD 2 undef = .int .i64 (nb b : Int))
    (t3 : a.tmps.getD 3 undef = .int .i64 (nb c : Int))
    (hR : SqAt w rb ro g cap L) (hi : i < L.length) (hd : dn (gt L i) b < L.length)
    (h : ∀ (a' : Act) (w' : World), w' = w.drew → a' = ((((((((((((((((((((a).put (some 9) (.pointer (some ⟨rb, ro, none⟩))).put (some 10) (.pointer (some ⟨rb, ro, none⟩))).put (some 11) (.pointer (some ⟨rb, ro + 0, none⟩))).put (some 12) (.slice (some ⟨g, 0, none⟩) (L).length cap)).put (some 13) (.pointer (some ⟨rb, ro, none⟩))).put (some 14) (.pointer (some ⟨rb, ro, none⟩))).put (some 15) (.pointer (some ⟨rb, ro + 0, none⟩))).put (some 16) (.slice (some ⟨g, 0, none⟩) (L).length cap)).put (some 17) (.int .i64 (i : Int))).put (some 18) (.int .i64 (nb b : Int))).put (some 19) (.pointer (some ⟨g, 73 * i, none⟩))).put (some 20) (.pointer (some ⟨g, 73 * i + 69, none⟩))).put (some 21) (.pointer (some ⟨g, 73 * i + 69 + nb b, none⟩))).put (some 22) (.int .i64 (dn (gt L i) b : Int))).put (some 23) (.int .i64 (nb c : Int))).put (some 24) (.pointer (some ⟨g, 73 * (dn (gt L i) b), none⟩))).put (some 25) (.pointer (some ⟨g, 73 * (dn (gt L i) b) + 71, none⟩))).put (some 26) (.pointer (some ⟨g, 73 * (dn (gt L i) b) + 71 + nb c, none⟩))).put (some 27) (.int .i64 (ct (gt L (dn (gt L i) b)) c : Int))).put (some 8) (.int .i64 (ct (gt L (dn (gt L i) b)) c : Int)) → Q .normal a' w') :
    (Code.region 1 under1_ops true).wp Try.prog Q a w := by
  refine y0 (fun w' => w' = w.drew) (rfl) (fun hHeld => ?_)
  refine yv 0 rfl rfl (fun w1 hw => exec_move rfl (zi t0 rfl)) hHeld ?_
  refine yv 1 rfl rfl (fun w1 hw => exec_nilCheck rfl (zg zz rfl)) hHeld ?_
  refine yv 2 rfl rfl (fun w1 hw => exec_fieldAt rfl (zg zz rfl) (fg_87_0 _ _ _)) hHeld ?_
  refine yv 3 rfl rfl (fun w1 hw => exec_load rfl (zg zz rfl) (R_sl (hw ▸ hR.drew))) hHeld ?_
  refine yv 4 rfl rfl (fun w1 hw => exec_move rfl (zi t0 rfl)) hHeld ?_
  refine yv 5 rfl rfl (fun w1 hw => exec_nilCheck rfl (zg zz rfl)) hHeld ?_
  refine yv 6 rfl rfl (fun w1 hw => exec_fieldAt rfl (zg zz rfl) (fg_87_0 _ _ _)) hHeld ?_
  refine yv 7 rfl rfl (fun w1 hw => exec_load rfl (zg zz rfl) (R_sl (hw ▸ hR.drew))) hHeld ?_
  refine yv 8 rfl rfl (fun w1 hw => exec_move rfl (zi t1 rfl)) hHeld ?_
  refine yv 9 rfl rfl (fun w1 hw => exec_move rfl (zi t2 rfl)) hHeld ?_
  refine yv 10 rfl rfl (fun w1 hw => exec_indexAt rfl (zg zz rfl) (zg zz rfl) (R_ix hi hR.len _)) hHeld ?_
  refine yv 11 rfl rfl (fun w1 hw => exec_fieldAt rfl (zg zz rfl) (fg_113_3 _ _ _)) hHeld ?_
  refine yv 12 rfl rfl (fun w1 hw => exec_indexAt rfl (zg zz rfl) (zg zz rfl) (ix_ar _ b _)) hHeld ?_
  refine yv 13 rfl rfl (fun w1 hw => exec_load rfl (zg zz rfl) (R_dn (hw ▸ hR.drew) hi b)) hHeld ?_
  refine yv 14 rfl rfl (fun w1 hw => exec_move rfl (zi t3 rfl)) hHeld ?_
  refine yv 15 rfl rfl (fun w1 hw => exec_indexAt rfl (zg zz rfl) (zg zz rfl) (R_ix hd hR.len _)) hHeld ?_
  refine yv 16 rfl rfl (fun w1 hw => exec_fieldAt rfl (zg zz rfl) (fg_113_4 _ _ _)) hHeld ?_
  refine yv 17 rfl rfl (fun w1 hw => exec_indexAt rfl (zg zz rfl) (zg zz rfl) (ix_ar _ c _)) hHeld ?_
  refine yv 18 rfl rfl (fun w1 hw => exec_load rfl (zg zz rfl) (R_ct (hw ▸ hR.drew) hd c)) hHeld ?_
  refine yv 19 rfl rfl (fun w1 hw => exec_assign rfl (zg zz rfl)) hHeld ?_
  exact ye rfl (h _ _ (hHeld) rfl)
def own1a_o0 : Oper := { dst := some 7, op := Op.move (Operand.tmp 2), type := 3, pos := "row.go:179", after := #[], guard := none }
def own1a_o1 : Oper := { dst := some 8, op := Op.binOp BinOp.eql 3 (Operand.tmp 7) (Operand.const (Value.int IntKind.i64 0)) 3, type := 4, pos := "row.go:179", after := #[{ on := 0, ground := Ground.data }], guard := none }
def own1a_o2 : Oper := { dst := some 9, op := Op.move (Operand.tmp 8), type := 4, pos := "row.go:179", after := #[{ on := 1, ground := Ground.data }], guard := none }
def own1a_o3 : Oper := { dst := some 10, op := Op.move (Operand.tmp 0), type := 114, pos := "row.go:179", after := #[{ on := 2, ground := Ground.guard }], guard := some (2, false) }
def own1a_o4 : Oper := { dst := some 11, op := Op.nilCheck (Operand.tmp 10), type := 0, pos := "row.go:179", after := #[{ on := 3, ground := Ground.data }, { on := 2, ground := Ground.guard }], guard := some (2, false) }
def own1a_o5 : Oper := { dst := some 12, op := Op.fieldAddr 87 (Operand.tmp 11) 0, type := 0, pos := "row.go:179", after := #[{ on := 4, ground := Ground.data }, { on := 2, ground := Ground.guard }], guard := some (2, false) }
def own1a_o6 : Oper := { dst := some 13, op := Op.load 85 (Operand.tmp 12), type := 85, pos := "row.go:179", after := #[{ on := 5, ground := Ground.data }, { on := 2, ground := Ground.guard }], guard := some (2, false) }
def own1a_o7 : Oper := { dst := some 14, op := Op.move (Operand.tmp 1), type := 3, pos := "row.go:179", after := #[{ on := 2, ground := Ground.guard }], guard := some (2, false) }
def own1a_o8 : Oper := { dst := some 15, op := Op.indexAddr 85 (Operand.tmp 13) (Operand.tmp 14), type := 0, pos := "row.go:179", after := #[{ on := 6, ground := Ground.data }, { on := 7, ground := Ground.data }, { on := 2, ground := Ground.guard }], guard := some (2, false) }
def own1a_o9 : Oper := { dst := some 16, op := Op.fieldAddr 113 (Operand.tmp 15) 1, type := 0, pos := "row.go:179", after := #[{ on := 8, ground := Ground.data }, { on := 2, ground := Ground.guard }], guard := some (2, false) }
def own1a_o10 : Oper := { dst := some 17, op := Op.load 4 (Operand.tmp 16), type := 4, pos := "row.go:179", after := #[{ on := 9, ground := Ground.data }, { on := 2, ground := Ground.guard }], guard := some (2, false) }
def own1a_o11 : Oper := { dst := some 18, op := Op.pick (Operand.tmp 9) (Operand.const (Value.bool true)) (Operand.tmp 17), type := 4, pos := "row.go:179", after := #[{ on := 2, ground := Ground.data }, { on := 10, ground := Ground.data }], guard := none }
def own1a_ops : Array Oper := #[own1a_o0, own1a_o1, own1a_o2, own1a_o3, own1a_o4, own1a_o5, own1a_o6, own1a_o7, own1a_o8, own1a_o9, own1a_o10, own1a_o11]
set_option maxRecDepth 100000 in
set_option maxHeartbeats 4000000 in
theorem own1a {rb ro i : Nat} {c : Bool} (a : Act) (w : World) (Q : Exit → Act → World → Prop) (zz : a.tmps.size = 19)
    (t0 : a.tmps.getD 0 undef = .pointer (some ⟨rb, ro, none⟩))
    (t1 : a.tmps.getD 1 undef = .int .i64 (i : Int))
    (t2 : a.tmps.getD 2 undef = .int .i64 (nb c : Int))
    (hc : decide ((nb c : Int) = 0) = true)
    (h : ∀ (a' : Act) (w' : World), w' = w → a' = ((((((((((((a).put (some 7) (.int .i64 (nb c : Int))).put (some 8) (.bool true)).put (some 9) (.bool true)).put (some 10) (undef)).put (some 11) (undef)).put (some 12) (undef)).put (some 13) (undef)).put (some 14) (undef)).put (some 15) (undef)).put (some 16) (undef)).put (some 17) (undef)).put (some 18) (.bool true) → Q .normal a' w') :
    (Code.region 1 own1a_ops false).wp Try.prog Q a w := by
  refine z0 rfl ?_
  refine zv rfl (exec_move rfl (zi t2 rfl)) ?_
  refine zv (v := .bool true) rfl (ex_eql rfl (zg zz rfl) rfl hc) ?_
  refine zv rfl (exec_move rfl (zg zz rfl)) ?_
  refine zn (zx zz rfl rfl rfl (zg zz rfl)) ?_
  refine zn (zx zz rfl rfl rfl (zg zz rfl)) ?_
  refine zn (zx zz rfl rfl rfl (zg zz rfl)) ?_
  refine zn (zx zz rfl rfl rfl (zg zz rfl)) ?_
  refine zn (zx zz rfl rfl rfl (zg zz rfl)) ?_
  refine zn (zx zz rfl rfl rfl (zg zz rfl)) ?_
  refine zn (zx zz rfl rfl rfl (zg zz rfl)) ?_
  refine zn (zx zz rfl rfl rfl (zg zz rfl)) ?_
  refine zv rfl (exec_pickT rfl (zg zz rfl) rfl) ?_
  exact ze rfl (h _ _ (rfl) rfl)
def own1b_o0 : Oper := { dst := some 7, op := Op.move (Operand.tmp 2), type := 3, pos := "row.go:179", after := #[], guard := none }
def own1b_o1 : Oper := { dst := some 8, op := Op.binOp BinOp.eql 3 (Operand.tmp 7) (Operand.const (Value.int IntKind.i64 0)) 3, type := 4, pos := "row.go:179", after := #[{ on := 0, ground := Ground.data }], guard := none }
def own1b_o2 : Oper := { dst := some 9, op := Op.move (Operand.tmp 8), type := 4, pos := "row.go:179", after := #[{ on := 1, ground := Ground.data }], guard := none }
def own1b_o3 : Oper := { dst := some 10, op := Op.move (Operand.tmp 0), type := 114, pos := "row.go:179", after := #[{ on := 2, ground := Ground.guard }], guard := some (2, false) }
def own1b_o4 : Oper := { dst := some 11, op := Op.nilCheck (Operand.tmp 10), type := 0, pos := "row.go:179", after := #[{ on := 3, ground := Ground.data }, { on := 2, ground := Ground.guard }], guard := some (2, false) }
def own1b_o5 : Oper := { dst := some 12, op := Op.fieldAddr 87 (Operand.tmp 11) 0, type := 0, pos := "row.go:179", after := #[{ on := 4, ground := Ground.data }, { on := 2, ground := Ground.guard }], guard := some (2, false) }
def own1b_o6 : Oper := { dst := some 13, op := Op.load 85 (Operand.tmp 12), type := 85, pos := "row.go:179", after := #[{ on := 5, ground := Ground.data }, { on := 2, ground := Ground.guard }], guard := some (2, false) }
def own1b_o7 : Oper := { dst := some 14, op := Op.move (Operand.tmp 1), type := 3, pos := "row.go:179", after := #[{ on := 2, ground := Ground.guard }], guard := some (2, false) }
def own1b_o8 : Oper := { dst := some 15, op := Op.indexAddr 85 (Operand.tmp 13) (Operand.tmp 14), type := 0, pos := "row.go:179", after := #[{ on := 6, ground := Ground.data }, { on := 7, ground := Ground.data }, { on := 2, ground := Ground.guard }], guard := some (2, false) }
def own1b_o9 : Oper := { dst := some 16, op := Op.fieldAddr 113 (Operand.tmp 15) 1, type := 0, pos := "row.go:179", after := #[{ on := 8, ground := Ground.data }, { on := 2, ground := Ground.guard }], guard := some (2, false) }
def own1b_o10 : Oper := { dst := some 17, op := Op.load 4 (Operand.tmp 16), type := 4, pos := "row.go:179", after := #[{ on := 9, ground := Ground.data }, { on := 2, ground := Ground.guard }], guard := some (2, false) }
def own1b_o11 : Oper := { dst := some 18, op := Op.pick (Operand.tmp 9) (Operand.const (Value.bool true)) (Operand.tmp 17), type := 4, pos := "row.go:179", after := #[{ on := 2, ground := Ground.data }, { on := 10, ground := Ground.data }], guard := none }
def own1b_ops : Array Oper := #[own1b_o0, own1b_o1, own1b_o2, own1b_o3, own1b_o4, own1b_o5, own1b_o6, own1b_o7, own1b_o8, own1b_o9, own1b_o10, own1b_o11]
set_option maxRecDepth 100000 in
set_option maxHeartbeats 4000000 in
theorem own1b {rb ro g cap : Nat} {L : List Sp} {i : Nat} {c : Bool} (a : Act) (w : World) (Q : Exit → Act → World → Prop) (zz : a.tmps.size = 19)
    (t0 : a.tmps.getD 0 undef = .pointer (some ⟨rb, ro, none⟩))
    (t1 : a.tmps.getD 1 undef = .int .i64 (i : Int))
    (t2 : a.tmps.getD 2 undef = .int .i64 (nb c : Int))
    (hR : SqAt w rb ro g cap L) (hi : i < L.length) (hc : decide ((nb c : Int) = 0) = false)
    (h : ∀ (a' : Act) (w' : World), w' = w → a' = ((((((((((((a).put (some 7) (.int .i64 (nb c : Int))).put (some 8) (.bool false)).put (some 9) (.bool false)).put (some 10) (.pointer (some ⟨rb, ro, none⟩))).put (some 11) (.pointer (some ⟨rb, ro, none⟩))).put (some 12) (.pointer (some ⟨rb, ro + 0, none⟩))).put (some 13) (.slice (some ⟨g, 0, none⟩) (L).length cap)).put (some 14) (.int .i64 (i : Int))).put (some 15) (.pointer (some ⟨g, 73 * i, none⟩))).put (some 16) (.pointer (some ⟨g, 73 * i + 67, none⟩))).put (some 17) (.bool (gt L i).sh)).put (some 18) (.bool (gt L i).sh) → Q .normal a' w') :
    (Code.region 1 own1b_ops false).wp Try.prog Q a w := by
  refine z0 rfl ?_
  refine zv rfl (exec_move rfl (zi t2 rfl)) ?_
  refine zv (v := .bool false) rfl (ex_eql rfl (zg zz rfl) rfl hc) ?_
  refine zv rfl (exec_move rfl (zg zz rfl)) ?_
  refine zv (zw zz rfl rfl rfl (zg zz rfl)) (exec_move rfl (zi t0 rfl)) ?_
  refine zv (zw zz rfl rfl rfl (zg zz rfl)) (exec_nilCheck rfl (zg zz rfl)) ?_
  refine zv (zw zz rfl rfl rfl (zg zz rfl)) (exec_fieldAt rfl (zg zz rfl) (fg_87_0 _ _ _)) ?_
  refine zv (zw zz rfl rfl rfl (zg zz rfl)) (exec_load rfl (zg zz rfl) (R_sl hR)) ?_
  refine zv (zw zz rfl rfl rfl (zg zz rfl)) (exec_move rfl (zi t1 rfl)) ?_
  refine zv (zw zz rfl rfl rfl (zg zz rfl)) (exec_indexAt rfl (zg zz rfl) (zg zz rfl) (R_ix hi hR.len _)) ?_
  refine zv (zw zz rfl rfl rfl (zg zz rfl)) (exec_fieldAt rfl (zg zz rfl) (fg_113_1 _ _ _)) ?_
  refine zv (zw zz rfl rfl rfl (zg zz rfl)) (exec_load rfl (zg zz rfl) (R_sh hR hi)) ?_
  refine zv rfl (exec_pickF rfl (zg zz rfl) (zg zz rfl)) ?_
  exact ze rfl (h _ _ (rfl) rfl)
def upTo1_o0 : Oper := { dst := some 7, op := Op.move (Operand.tmp 0), type := 114, pos := "row.go:169", after := #[], guard := none }
def upTo1_o1 : Oper := { dst := some 8, op := Op.move (Operand.tmp 1), type := 3, pos := "row.go:169", after := #[], guard := none }
def upTo1_o2 : Oper := { dst := some 9, op := Op.move (Operand.tmp 2), type := 3, pos := "row.go:169", after := #[], guard := none }
def upTo1_o3 : Oper := { dst := some 10, op := Op.call { callee := Callee.value (Operand.func 97), args := #[Operand.tmp 7, Operand.tmp 8, Operand.const (Value.int IntKind.i64 0), Operand.tmp 9], argTypes := #[114, 3, 3, 3] }, type := 3, pos := "row.go:169", after := #[{ on := 0, ground := Ground.data }, { on := 1, ground := Ground.data }, { on := 2, ground := Ground.data }], guard := none }
def upTo1_o4 : Oper := { dst := some 11, op := Op.move (Operand.tmp 0), type := 114, pos := "row.go:169", after := #[], guard := none }
def upTo1_o5 : Oper := { dst := some 12, op := Op.move (Operand.tmp 1), type := 3, pos := "row.go:169", after := #[], guard := none }
def upTo1_o6 : Oper := { dst := some 13, op := Op.move (Operand.tmp 2), type := 3, pos := "row.go:169", after := #[], guard := none }
def upTo1_o7 : Oper := { dst := some 14, op := Op.call { callee := Callee.value (Operand.func 101), args := #[Operand.tmp 11, Operand.tmp 12, Operand.tmp 13], argTypes := #[114, 3, 3] }, type := 3, pos := "row.go:169", after := #[{ on := 4, ground := Ground.data }, { on := 5, ground := Ground.data }, { on := 6, ground := Ground.data }, { on := 3, ground := Ground.chain }], guard := none }
def upTo1_o8 : Oper := { dst := some 15, op := Op.binOp BinOp.add 3 (Operand.tmp 10) (Operand.tmp 14) 3, type := 3, pos := "row.go:169", after := #[{ on := 3, ground := Ground.data }, { on := 7, ground := Ground.data }], guard := none }
def upTo1_o9 : Oper := { dst := some 6, op := Op.assign (Operand.tmp 15), type := 3, pos := "row.go:169", after := #[{ on := 8, ground := Ground.data }, { on := 7, ground := Ground.chain }, { on := 0, ground := Ground.phase }, { on := 1, ground := Ground.phase }, { on := 2, ground := Ground.phase }, { on := 3, ground := Ground.phase }, { on := 4, ground := Ground.phase }, { on := 5, ground := Ground.phase }, { on := 6, ground := Ground.phase }, { on := 7, ground := Ground.phase }, { on := 8, ground := Ground.phase }], guard := none }
def upTo1_ops : Array Oper := #[upTo1_o0, upTo1_o1, upTo1_o2, upTo1_o3, upTo1_o4, upTo1_o5, upTo1_o6, upTo1_o7, upTo1_o8, upTo1_o9]
set_option maxRecDepth 100000 in
set_option maxHeartbeats 4000000 in
theorem upTo1 {rb ro i u o : Nat} {c : Bool} (a : Act) (w : World) (Q : Exit → Act → World → Prop) (zz : a.tmps.size = 16)
    (t0 : a.tmps.getD 0 undef = .pointer (some ⟨rb, ro, none⟩))
    (t1 : a.tmps.getD 1 undef = .int .i64 (i : Int))
    (t2 : a.tmps.getD 2 undef = .int .i64 (nb c : Int))
    (CU : Calls Try.prog 97 #[.pointer (some ⟨rb, ro, none⟩), .int .i64 (i : Int), .int .i64 0, .int .i64 (nb c : Int)] w fun e w' => e = .returned (.int .i64 (u : Int)) ∧ Qt w w' ∧ Calls Try.prog 101 #[.pointer (some ⟨rb, ro, none⟩), .int .i64 (i : Int), .int .i64 (nb c : Int)] w' fun e2 w2 => e2 = .returned (.int .i64 (o : Int)) ∧ Qt w' w2) (hs : u + o ≤ 9223372036854775807)
    (h : ∀ (a' : Act) (w' : World), Qt w w' → a' = ((((((((((a).put (some 7) (.pointer (some ⟨rb, ro, none⟩))).put (some 8) (.int .i64 (i : Int))).put (some 9) (.int .i64 (nb c : Int))).put (some 10) (.int .i64 (u : Int))).put (some 11) (.pointer (some ⟨rb, ro, none⟩))).put (some 12) (.int .i64 (i : Int))).put (some 13) (.int .i64 (nb c : Int))).put (some 14) (.int .i64 (o : Int))).put (some 15) (.int .i64 ((u + o : Nat) : Int))).put (some 6) (.int .i64 ((u + o : Nat) : Int)) → Q .normal a' w') :
    (Code.region 1 upTo1_ops false).wp Try.prog Q a w := by
  refine z0 rfl ?_
  refine zv rfl (exec_move rfl (zi t0 rfl)) ?_
  refine zv rfl (exec_move rfl (zi t1 rfl)) ?_
  refine zv rfl (exec_move rfl (zi t2 rfl)) ?_
  refine zc rfl (exec_c4 rfl (zg zz rfl) (zg zz rfl) rfl (zg zz rfl)) (CU) (fun e x3 hx => ?_)
  obtain ⟨rfl, q1, CO⟩ := hx
  refine ⟨_, rfl, ?_⟩
  refine zv rfl (exec_move rfl (zi t0 rfl)) ?_
  refine zv rfl (exec_move rfl (zi t1 rfl)) ?_
  refine zv rfl (exec_move rfl (zi t2 rfl)) ?_
  refine zc rfl (exec_c3 rfl (zg zz rfl) (zg zz rfl) (zg zz rfl)) (CO) (fun e x7 hx => ?_)
  obtain ⟨rfl, q2⟩ := hx
  refine ⟨_, rfl, ?_⟩
  refine zv (v := .int .i64 ((u + o : Nat) : Int)) rfl (ex_addN rfl (zg zz rfl) (zg zz rfl) hs) ?_
  refine zv rfl (exec_assign rfl (zg zz rfl)) ?_
  exact ze rfl (h _ _ (q1.trans q2) rfl)
def side1_o0 : Oper := { dst := some 5, op := Op.move (Operand.tmp 0), type := 114, pos := "row.go:134", after := #[], guard := none }
def side1_o1 : Oper := { dst := some 6, op := Op.nilCheck (Operand.tmp 5), type := 0, pos := "row.go:134", after := #[{ on := 0, ground := Ground.data }], guard := none }
def side1_o2 : Oper := { dst := some 7, op := Op.fieldAddr 87 (Operand.tmp 6) 0, type := 0, pos := "row.go:134", after := #[{ on := 1, ground := Ground.data }], guard := none }
def side1_o3 : Oper := { dst := some 8, op := Op.load 85 (Operand.tmp 7), type := 85, pos := "row.go:134", after := #[{ on := 2, ground := Ground.data }], guard := none }
def side1_o4 : Oper := { dst := some 9, op := Op.move (Operand.tmp 0), type := 114, pos := "row.go:134", after := #[], guard := none }
def side1_o5 : Oper := { dst := some 10, op := Op.nilCheck (Operand.tmp 9), type := 0, pos := "row.go:134", after := #[{ on := 4, ground := Ground.data }], guard := none }
def side1_o6 : Oper := { dst := some 11, op := Op.fieldAddr 87 (Operand.tmp 10) 0, type := 0, pos := "row.go:134", after := #[{ on := 5, ground := Ground.data }], guard := none }
def side1_o7 : Oper := { dst := some 12, op := Op.load 85 (Operand.tmp 11), type := 85, pos := "row.go:134", after := #[{ on := 6, ground := Ground.data }], guard := none }
def side1_o8 : Oper := { dst := some 13, op := Op.move (Operand.tmp 1), type := 3, pos := "row.go:134", after := #[], guard := none }
def side1_o9 : Oper := { dst := some 14, op := Op.indexAddr 85 (Operand.tmp 12) (Operand.tmp 13), type := 0, pos := "row.go:134", after := #[{ on := 7, ground := Ground.data }, { on := 8, ground := Ground.data }], guard := none }
def side1_o10 : Oper := { dst := some 15, op := Op.fieldAddr 113 (Operand.tmp 14) 2, type := 0, pos := "row.go:134", after := #[{ on := 9, ground := Ground.data }], guard := none }
def side1_o11 : Oper := { dst := some 16, op := Op.load 3 (Operand.tmp 15), type := 3, pos := "row.go:134", after := #[{ on := 10, ground := Ground.data }], guard := none }
def side1_o12 : Oper := { dst := some 17, op := Op.indexAddr 85 (Operand.tmp 8) (Operand.tmp 16), type := 0, pos := "row.go:134", after := #[{ on := 3, ground := Ground.data }, { on := 11, ground := Ground.data }], guard := none }
def side1_o13 : Oper := { dst := some 18, op := Op.fieldAddr 113 (Operand.tmp 17) 3, type := 0, pos := "row.go:134", after := #[{ on := 12, ground := Ground.data }], guard := none }
def side1_o14 : Oper := { dst := some 19, op := Op.indexAddr 111 (Operand.tmp 18) (Operand.const (Value.int IntKind.i64 0)), type := 0, pos := "row.go:134", after := #[{ on := 13, ground := Ground.data }], guard := none }
def side1_o15 : Oper := { dst := some 20, op := Op.load 3 (Operand.tmp 19), type := 3, pos := "row.go:134", after := #[{ on := 14, ground := Ground.data }], guard := none }
def side1_o16 : Oper := { dst := some 21, op := Op.move (Operand.tmp 1), type := 3, pos := "row.go:134", after := #[], guard := none }
def side1_o17 : Oper := { dst := some 22, op := Op.binOp BinOp.eql 3 (Operand.tmp 20) (Operand.tmp 21) 3, type := 4, pos := "row.go:134", after := #[{ on := 15, ground := Ground.data }, { on := 16, ground := Ground.data }], guard := none }
def side1_ops : Array Oper := #[side1_o0, side1_o1, side1_o2, side1_o3, side1_o4, side1_o5, side1_o6, side1_o7, side1_o8, side1_o9, side1_o10, side1_o11, side1_o12, side1_o13, side1_o14, side1_o15, side1_o16, side1_o17]
set_option maxRecDepth 100000 in
set_option maxHeartbeats 4000000 in
theorem side1 {rb ro g cap : Nat} {L : List Sp} {i : Nat} {r : Bool} (a : Act) (w : World) (Q : Exit → Act → World → Prop) (zz : a.tmps.size = 23)
    (t0 : a.tmps.getD 0 undef = .pointer (some ⟨rb, ro, none⟩))
    (t1 : a.tmps.getD 1 undef = .int .i64 (i : Int))
    (hR : SqAt w rb ro g cap L) (hi : i < L.length) (hu : (gt L i).up < L.length) (hr : decide ((dn (gt L (gt L i).up) false : Int) = (i : Int)) = r)
    (h : ∀ (a' : Act) (w' : World), w' = w.drew → a' = ((((((((((((((((((a).put (some 5) (.pointer (some ⟨rb, ro, none⟩))).put (some 6) (.pointer (some ⟨rb, ro, none⟩))).put (some 7) (.pointer (some ⟨rb, ro + 0, none⟩))).put (some 8) (.slice (some ⟨g, 0, none⟩) (L).length cap)).put (some 9) (.pointer (some ⟨rb, ro, none⟩))).put (some 10) (.pointer (some ⟨rb, ro, none⟩))).put (some 11) (.pointer (some ⟨rb, ro + 0, none⟩))).put (some 12) (.slice (some ⟨g, 0, none⟩) (L).length cap)).put (some 13) (.int .i64 (i : Int))).put (some 14) (.pointer (some ⟨g, 73 * i, none⟩))).put (some 15) (.pointer (some ⟨g, 73 * i + 68, none⟩))).put (some 16) (.int .i64 ((gt L i).up : Int))).put (some 17) (.pointer (some ⟨g, 73 * ((gt L i).up), none⟩))).put (some 18) (.pointer (some ⟨g, 73 * ((gt L i).up) + 69, none⟩))).put (some 19) (.pointer (some ⟨g, 73 * ((gt L i).up) + 69 + nb false, none⟩))).put (some 20) (.int .i64 (dn (gt L ((gt L i).up)) false : Int))).put (some 21) (.int .i64 (i : Int))).put (some 22) (.bool r) → Q .normal a' w') :
    (Code.region 1 side1_ops true).wp Try.prog Q a w := by
  refine y0 (fun w' => w' = w.drew) (rfl) (fun hHeld => ?_)
  refine yv 0 rfl rfl (fun w1 hw => exec_move rfl (zi t0 rfl)) hHeld ?_
  refine yv 1 rfl rfl (fun w1 hw => exec_nilCheck rfl (zg zz rfl)) hHeld ?_
  refine yv 2 rfl rfl (fun w1 hw => exec_fieldAt rfl (zg zz rfl) (fg_87_0 _ _ _)) hHeld ?_
  refine yv 3 rfl rfl (fun w1 hw => exec_load rfl (zg zz rfl) (R_sl (hw ▸ hR.drew))) hHeld ?_
  refine yv 4 rfl rfl (fun w1 hw => exec_move rfl (zi t0 rfl)) hHeld ?_
  refine yv 5 rfl rfl (fun w1 hw => exec_nilCheck rfl (zg zz rfl)) hHeld ?_
  refine yv 6 rfl rfl (fun w1 hw => exec_fieldAt rfl (zg zz rfl) (fg_87_0 _ _ _)) hHeld ?_
  refine yv 7 rfl rfl (fun w1 hw => exec_load rfl (zg zz rfl) (R_sl (hw ▸ hR.drew))) hHeld ?_
  refine yv 8 rfl rfl (fun w1 hw => exec_move rfl (zi t1 rfl)) hHeld ?_
  refine yv 9 rfl rfl (fun w1 hw => exec_indexAt rfl (zg zz rfl) (zg zz rfl) (R_ix hi hR.len _)) hHeld ?_
  refine yv 10 rfl rfl (fun w1 hw => exec_fieldAt rfl (zg zz rfl) (fg_113_2 _ _ _)) hHeld ?_
  refine yv 11 rfl rfl (fun w1 hw => exec_load rfl (zg zz rfl) (R_up (hw ▸ hR.drew) hi)) hHeld ?_
  refine yv 12 rfl rfl (fun w1 hw => exec_indexAt rfl (zg zz rfl) (zg zz rfl) (R_ix hu hR.len _)) hHeld ?_
  refine yv 13 rfl rfl (fun w1 hw => exec_fieldAt rfl (zg zz rfl) (fg_113_3 _ _ _)) hHeld ?_
  refine yv 14 rfl rfl (fun w1 hw => exec_indexAt rfl (zg zz rfl) rfl (ix_a0 _ _)) hHeld ?_
  refine yv 15 rfl rfl (fun w1 hw => exec_load rfl (zg zz rfl) (R_dn (hw ▸ hR.drew) hu false)) hHeld ?_
  refine yv 16 rfl rfl (fun w1 hw => exec_move rfl (zi t1 rfl)) hHeld ?_
  refine yv (v := .bool r) 17 rfl rfl (fun w1 hw => ex_eql rfl (zg zz rfl) (zg zz rfl) hr) hHeld ?_
  exact ye rfl (h _ _ (hHeld) rfl)
def hang0_o0 : Oper := { dst := some 8, op := Op.move (Operand.tmp 0), type := 114, pos := "row.go:142", after := #[], guard := none }
def hang0_o1 : Oper := { dst := some 9, op := Op.nilCheck (Operand.tmp 8), type := 0, pos := "row.go:142", after := #[{ on := 0, ground := Ground.data }], guard := none }
def hang0_o2 : Oper := { dst := some 10, op := Op.fieldAddr 87 (Operand.tmp 9) 0, type := 0, pos := "row.go:142", after := #[{ on := 1, ground := Ground.data }], guard := none }
def hang0_o3 : Oper := { dst := some 11, op := Op.load 85 (Operand.tmp 10), type := 85, pos := "row.go:142", after := #[{ on := 2, ground := Ground.data }], guard := none }
def hang0_o4 : Oper := { dst := some 12, op := Op.move (Operand.tmp 1), type := 3, pos := "row.go:142", after := #[], guard := none }
def hang0_o5 : Oper := { dst := some 13, op := Op.move (Operand.tmp 2), type := 3, pos := "row.go:142", after := #[], guard := none }
def hang0_o6 : Oper := { dst := some 14, op := Op.move (Operand.tmp 3), type := 3, pos := "row.go:142", after := #[], guard := none }
def hang0_o7 : Oper := { dst := some 15, op := Op.indexAddr 85 (Operand.tmp 11) (Operand.tmp 12), type := 0, pos := "row.go:142", after := #[{ on := 3, ground := Ground.data }, { on := 4, ground := Ground.data }], guard := none }
def hang0_o8 : Oper := { dst := some 16, op := Op.fieldAddr 113 (Operand.tmp 15) 3, type := 0, pos := "row.go:142", after := #[{ on := 7, ground := Ground.data }], guard := none }
def hang0_o9 : Oper := { dst := some 17, op := Op.indexAddr 111 (Operand.tmp 16) (Operand.tmp 13), type := 0, pos := "row.go:142", after := #[{ on := 8, ground := Ground.data }, { on := 5, ground := Ground.data }, { on := 0, ground := Ground.phase }, { on := 1, ground := Ground.phase }, { on := 2, ground := Ground.phase }, { on := 3, ground := Ground.phase }, { on := 4, ground := Ground.phase }, { on := 5, ground := Ground.phase }, { on := 6, ground := Ground.phase }], guard := none }
def hang0_o10 : Oper := { dst := none, op := Op.store 3 (Operand.tmp 17) (Operand.tmp 14), type := 0, pos := "row.go:142", after := #[{ on := 9, ground := Ground.data }, { on := 6, ground := Ground.data }, { on := 0, ground := Ground.phase }, { on := 1, ground := Ground.phase }, { on := 2, ground := Ground.phase }, { on := 3, ground := Ground.phase }, { on := 4, ground := Ground.phase }, { on := 5, ground := Ground.phase }, { on := 6, ground := Ground.phase }], guard := none }
def hang0_ops : Array Oper := #[hang0_o0, hang0_o1, hang0_o2, hang0_o3, hang0_o4, hang0_o5, hang0_o6, hang0_o7, hang0_o8, hang0_o9, hang0_o10]
set_option maxRecDepth 100000 in
set_option maxHeartbeats 4000000 in
theorem hang0 {rb ro g cap : Nat} {L : List Sp} {u p : Nat} {b : Bool} {w2 : World} (a : Act) (w : World) (Q : Exit → Act → World → Prop) (zz : a.tmps.size = 28)
    (t0 : a.tmps.getD 0 undef = .pointer (some ⟨rb, ro, none⟩))
    (t1 : a.tmps.getD 1 undef = .int .i64 (u : Int))
    (t2 : a.tmps.getD 2 undef = .int .i64 (nb b : Int))
    (t3 : a.tmps.getD 3 undef = .int .i64 (p : Int))
    (hR : SqAt w rb ro g cap L) (hu : u < L.length) (ES : (Instr.storeAt 3 (.pointer (some ⟨g, 73 * u + 69 + nb b, none⟩)) (.int .i64 (p : Int))).run Try.prog w = .ok () w2)
    (h : ∀ (a' : Act) (w' : World), w' = w2 → a' = ((((((((((a).put (some 8) (.pointer (some ⟨rb, ro, none⟩))).put (some 9) (.pointer (some ⟨rb, ro, none⟩))).put (some 10) (.pointer (some ⟨rb, ro + 0, none⟩))).put (some 11) (.slice (some ⟨g, 0, none⟩) (L).length cap)).put (some 12) (.int .i64 (u : Int))).put (some 13) (.int .i64 (nb b : Int))).put (some 14) (.int .i64 (p : Int))).put (some 15) (.pointer (some ⟨g, 73 * u, none⟩))).put (some 16) (.pointer (some ⟨g, 73 * u + 69, none⟩))).put (some 17) (.pointer (some ⟨g, 73 * u + 69 + nb b, none⟩)) → Q .normal a' w') :
    (Code.region 0 hang0_ops false).wp Try.prog Q a w := by
  refine z0 rfl ?_
  refine zv rfl (exec_move rfl (zi t0 rfl)) ?_
  refine zv rfl (exec_nilCheck rfl (zg zz rfl)) ?_
  refine zv rfl (exec_fieldAt rfl (zg zz rfl) (fg_87_0 _ _ _)) ?_
  refine zv rfl (exec_load rfl (zg zz rfl) (R_sl hR)) ?_
  refine zv rfl (exec_move rfl (zi t1 rfl)) ?_
  refine zv rfl (exec_move rfl (zi t2 rfl)) ?_
  refine zv rfl (exec_move rfl (zi t3 rfl)) ?_
  refine zv rfl (exec_indexAt rfl (zg zz rfl) (zg zz rfl) (R_ix hu hR.len _)) ?_
  refine zv rfl (exec_fieldAt rfl (zg zz rfl) (fg_113_3 _ _ _)) ?_
  refine zv rfl (exec_indexAt rfl (zg zz rfl) (zg zz rfl) (ix_ar _ b _)) ?_
  refine zs rfl (exec_store rfl (zg zz rfl) (zg zz rfl) ES) ?_
  exact ze rfl (h _ _ (rfl) rfl)
def hang2_o0 : Oper := { dst := some 20, op := Op.move (Operand.tmp 0), type := 114, pos := "row.go:144", after := #[], guard := none }
def hang2_o1 : Oper := { dst := some 21, op := Op.nilCheck (Operand.tmp 20), type := 0, pos := "row.go:144", after := #[{ on := 0, ground := Ground.data }], guard := none }
def hang2_o2 : Oper := { dst := some 22, op := Op.fieldAddr 87 (Operand.tmp 21) 0, type := 0, pos := "row.go:144", after := #[{ on := 1, ground := Ground.data }], guard := none }
def hang2_o3 : Oper := { dst := some 23, op := Op.load 85 (Operand.tmp 22), type := 85, pos := "row.go:144", after := #[{ on := 2, ground := Ground.data }], guard := none }
def hang2_o4 : Oper := { dst := some 24, op := Op.move (Operand.tmp 3), type := 3, pos := "row.go:144", after := #[], guard := none }
def hang2_o5 : Oper := { dst := some 25, op := Op.move (Operand.tmp 1), type := 3, pos := "row.go:144", after := #[], guard := none }
def hang2_o6 : Oper := { dst := some 26, op := Op.indexAddr 85 (Operand.tmp 23) (Operand.tmp 24), type := 0, pos := "row.go:144", after := #[{ on := 3, ground := Ground.data }, { on := 4, ground := Ground.data }, { on := 0, ground := Ground.phase }, { on := 1, ground := Ground.phase }, { on := 2, ground := Ground.phase }, { on := 3, ground := Ground.phase }, { on := 4, ground := Ground.phase }, { on := 5, ground := Ground.phase }], guard := none }
def hang2_o7 : Oper := { dst := some 27, op := Op.fieldAddr 113 (Operand.tmp 26) 2, type := 0, pos := "row.go:144", after := #[{ on := 6, ground := Ground.data }, { on := 0, ground := Ground.phase }, { on := 1, ground := Ground.phase }, { on := 2, ground := Ground.phase }, { on := 3, ground := Ground.phase }, { on := 4, ground := Ground.phase }, { on := 5, ground := Ground.phase }], guard := none }
def hang2_o8 : Oper := { dst := none, op := Op.store 3 (Operand.tmp 27) (Operand.tmp 25), type := 0, pos := "row.go:144", after := #[{ on := 7, ground := Ground.data }, { on := 5, ground := Ground.data }, { on := 0, ground := Ground.phase }, { on := 1, ground := Ground.phase }, { on := 2, ground := Ground.phase }, { on := 3, ground := Ground.phase }, { on := 4, ground := Ground.phase }, { on := 5, ground := Ground.phase }], guard := none }
def hang2_ops : Array Oper := #[hang2_o0, hang2_o1, hang2_o2, hang2_o3, hang2_o4, hang2_o5, hang2_o6, hang2_o7, hang2_o8]
set_option maxRecDepth 100000 in
set_option maxHeartbeats 4000000 in
theorem hang2 {rb ro g cap : Nat} {L : List Sp} {u p : Nat} {w2 : World} (a : Act) (w : World) (Q : Exit → Act → World → Prop) (zz : a.tmps.size = 28)
    (t0 : a.tmps.getD 0 undef = .pointer (some ⟨rb, ro, none⟩))
    (t1 : a.tmps.getD 1 undef = .int .i64 (u : Int))
    (t3 : a.tmps.getD 3 undef = .int .i64 (p : Int))
    (hR : SqAt w rb ro g cap L) (hp : p < L.length) (ES : (Instr.storeAt 3 (.pointer (some ⟨g, 73 * p + 68, none⟩)) (.int .i64 (u : Int))).run Try.prog w = .ok () w2)
    (h : ∀ (a' : Act) (w' : World), w' = w2 → a' = ((((((((a).put (some 20) (.pointer (some ⟨rb, ro, none⟩))).put (some 21) (.pointer (some ⟨rb, ro, none⟩))).put (some 22) (.pointer (some ⟨rb, ro + 0, none⟩))).put (some 23) (.slice (some ⟨g, 0, none⟩) (L).length cap)).put (some 24) (.int .i64 (p : Int))).put (some 25) (.int .i64 (u : Int))).put (some 26) (.pointer (some ⟨g, 73 * p, none⟩))).put (some 27) (.pointer (some ⟨g, 73 * p + 68, none⟩)) → Q .normal a' w') :
    (Code.region 2 hang2_ops false).wp Try.prog Q a w := by
  refine z0 rfl ?_
  refine zv rfl (exec_move rfl (zi t0 rfl)) ?_
  refine zv rfl (exec_nilCheck rfl (zg zz rfl)) ?_
  refine zv rfl (exec_fieldAt rfl (zg zz rfl) (fg_87_0 _ _ _)) ?_
  refine zv rfl (exec_load rfl (zg zz rfl) (R_sl hR)) ?_
  refine zv rfl (exec_move rfl (zi t3 rfl)) ?_
  refine zv rfl (exec_move rfl (zi t1 rfl)) ?_
  refine zv rfl (exec_indexAt rfl (zg zz rfl) (zg zz rfl) (R_ix hp hR.len _)) ?_
  refine zv rfl (exec_fieldAt rfl (zg zz rfl) (fg_113_2 _ _ _)) ?_
  refine zs rfl (exec_store rfl (zg zz rfl) (zg zz rfl) ES) ?_
  exact ze rfl (h _ _ (rfl) rfl)
def first1_o0 : Oper := { dst := some 5, op := Op.move (Operand.tmp 0), type := 114, pos := "row.go:126", after := #[], guard := none }
def first1_o1 : Oper := { dst := some 6, op := Op.nilCheck (Operand.tmp 5), type := 0, pos := "row.go:126", after := #[{ on := 0, ground := Ground.data }], guard := none }
def first1_o2 : Oper := { dst := some 7, op := Op.fieldAddr 87 (Operand.tmp 6) 0, type := 0, pos := "row.go:126", after := #[{ on := 1, ground := Ground.data }], guard := none }
def first1_o3 : Oper := { dst := some 8, op := Op.load 85 (Operand.tmp 7), type := 85, pos := "row.go:126", after := #[{ on := 2, ground := Ground.data }], guard := none }
def first1_o4 : Oper := { dst := some 9, op := Op.move (Operand.tmp 1), type := 3, pos := "row.go:126", after := #[], guard := none }
def first1_o5 : Oper := { dst := some 10, op := Op.indexAddr 85 (Operand.tmp 8) (Operand.tmp 9), type := 0, pos := "row.go:126", after := #[{ on := 3, ground := Ground.data }, { on := 4, ground := Ground.data }], guard := none }
def first1_o6 : Oper := { dst := some 11, op := Op.fieldAddr 113 (Operand.tmp 10) 3, type := 0, pos := "row.go:126", after := #[{ on := 5, ground := Ground.data }], guard := none }
def first1_o7 : Oper := { dst := some 12, op := Op.indexAddr 111 (Operand.tmp 11) (Operand.const (Value.int IntKind.i64 0)), type := 0, pos := "row.go:126", after := #[{ on := 6, ground := Ground.data }], guard := none }
def first1_o8 : Oper := { dst := some 13, op := Op.load 3 (Operand.tmp 12), type := 3, pos := "row.go:126", after := #[{ on := 7, ground := Ground.data }], guard := none }
def first1_o9 : Oper := { dst := some 14, op := Op.binOp BinOp.neq 3 (Operand.tmp 13) (Operand.const (Value.int IntKind.i64 0)) 3, type := 4, pos := "row.go:126", after := #[{ on := 8, ground := Ground.data }], guard := none }
def first1_ops : Array Oper := #[first1_o0, first1_o1, first1_o2, first1_o3, first1_o4, first1_o5, first1_o6, first1_o7, first1_o8, first1_o9]
set_option maxRecDepth 100000 in
set_option maxHeartbeats 4000000 in
theorem first1 {rb ro g cap : Nat} {L : List Sp} {i : Nat} {r : Bool} (a : Act) (w : World) (Q : Exit → Act → World → Prop) (zz : a.tmps.size = 25)
    (t0 : a.tmps.getD 0 undef = .pointer (some ⟨rb, ro, none⟩))
    (t1 : a.tmps.getD 1 undef = .int .i64 (i : Int))
    (hR : SqAt w rb ro g cap L) (hi : i < L.length) (hr : decide ((dn (gt L i) false : Int) ≠ 0) = r)
    (h : ∀ (a' : Act) (w' : World), w' = w → a' = ((((((((((a).put (some 5) (.pointer (some ⟨rb, ro, none⟩))).put (some 6) (.pointer (some ⟨rb, ro, none⟩))).put (some 7) (.pointer (some ⟨rb, ro + 0, none⟩))).put (some 8) (.slice (some ⟨g, 0, none⟩) (L).length cap)).put (some 9) (.int .i64 (i : Int))).put (some 10) (.pointer (some ⟨g, 73 * i, none⟩))).put (some 11) (.pointer (some ⟨g, 73 * i + 69, none⟩))).put (some 12) (.pointer (some ⟨g, 73 * i + 69 + nb false, none⟩))).put (some 13) (.int .i64 (dn (gt L i) false : Int))).put (some 14) (.bool r) → Q .normal a' w') :
    (Code.region 1 first1_ops false).wp Try.prog Q a w := by
  refine z0 rfl ?_
  refine zv rfl (exec_move rfl (zi t0 rfl)) ?_
  refine zv rfl (exec_nilCheck rfl (zg zz rfl)) ?_
  refine zv rfl (exec_fieldAt rfl (zg zz rfl) (fg_87_0 _ _ _)) ?_
  refine zv rfl (exec_load rfl (zg zz rfl) (R_sl hR)) ?_
  refine zv rfl (exec_move rfl (zi t1 rfl)) ?_
  refine zv rfl (exec_indexAt rfl (zg zz rfl) (zg zz rfl) (R_ix hi hR.len _)) ?_
  refine zv rfl (exec_fieldAt rfl (zg zz rfl) (fg_113_3 _ _ _)) ?_
  refine zv rfl (exec_indexAt rfl (zg zz rfl) rfl (ix_a0 _ _)) ?_
  refine zv rfl (exec_load rfl (zg zz rfl) (R_dn hR hi false)) ?_
  refine zv (v := .bool r) rfl (ex_neq rfl (zg zz rfl) rfl hr) ?_
  exact ze rfl (h _ _ (rfl) rfl)
def first2_o0 : Oper := { dst := some 15, op := Op.move (Operand.tmp 0), type := 114, pos := "row.go:127", after := #[], guard := none }
def first2_o1 : Oper := { dst := some 16, op := Op.nilCheck (Operand.tmp 15), type := 0, pos := "row.go:127", after := #[{ on := 0, ground := Ground.data }], guard := none }
def first2_o2 : Oper := { dst := some 17, op := Op.fieldAddr 87 (Operand.tmp 16) 0, type := 0, pos := "row.go:127", after := #[{ on := 1, ground := Ground.data }], guard := none }
def first2_o3 : Oper := { dst := some 18, op := Op.load 85 (Operand.tmp 17), type := 85, pos := "row.go:127", after := #[{ on := 2, ground := Ground.data }], guard := none }
def first2_o4 : Oper := { dst := some 19, op := Op.move (Operand.tmp 1), type := 3, pos := "row.go:127", after := #[], guard := none }
def first2_o5 : Oper := { dst := some 20, op := Op.indexAddr 85 (Operand.tmp 18) (Operand.tmp 19), type := 0, pos := "row.go:127", after := #[{ on := 3, ground := Ground.data }, { on := 4, ground := Ground.data }], guard := none }
def first2_o6 : Oper := { dst := some 21, op := Op.fieldAddr 113 (Operand.tmp 20) 3, type := 0, pos := "row.go:127", after := #[{ on := 5, ground := Ground.data }], guard := none }
def first2_o7 : Oper := { dst := some 22, op := Op.indexAddr 111 (Operand.tmp 21) (Operand.const (Value.int IntKind.i64 0)), type := 0, pos := "row.go:127", after := #[{ on := 6, ground := Ground.data }], guard := none }
def first2_o8 : Oper := { dst := some 23, op := Op.load 3 (Operand.tmp 22), type := 3, pos := "row.go:127", after := #[{ on := 7, ground := Ground.data }], guard := none }
def first2_o9 : Oper := { dst := some 1, op := Op.assign (Operand.tmp 23), type := 3, pos := "row.go:127", after := #[{ on := 8, ground := Ground.data }, { on := 0, ground := Ground.phase }, { on := 1, ground := Ground.phase }, { on := 2, ground := Ground.phase }, { on := 3, ground := Ground.phase }, { on := 4, ground := Ground.phase }, { on := 5, ground := Ground.phase }, { on := 6, ground := Ground.phase }, { on := 7, ground := Ground.phase }, { on := 8, ground := Ground.phase }], guard := none }
def first2_ops : Array Oper := #[first2_o0, first2_o1, first2_o2, first2_o3, first2_o4, first2_o5, first2_o6, first2_o7, first2_o8, first2_o9]
set_option maxRecDepth 100000 in
set_option maxHeartbeats 4000000 in
theorem first2 {rb ro g cap : Nat} {L : List Sp} {i : Nat} (a : Act) (w : World) (Q : Exit → Act → World → Prop) (zz : a.tmps.size = 25)
    (t0 : a.tmps.getD 0 undef = .pointer (some ⟨rb, ro, none⟩))
    (t1 : a.tmps.getD 1 undef = .int .i64 (i : Int))
    (hR : SqAt w rb ro g cap L) (hi : i < L.length)
    (h : ∀ (a' : Act) (w' : World), w' = w → a' = ((((((((((a).put (some 15) (.pointer (some ⟨rb, ro, none⟩))).put (some 16) (.pointer (some ⟨rb, ro, none⟩))).put (some 17) (.pointer (some ⟨rb, ro + 0, none⟩))).put (some 18) (.slice (some ⟨g, 0, none⟩) (L).length cap)).put (some 19) (.int .i64 (i : Int))).put (some 20) (.pointer (some ⟨g, 73 * i, none⟩))).put (some 21) (.pointer (some ⟨g, 73 * i + 69, none⟩))).put (some 22) (.pointer (some ⟨g, 73 * i + 69 + nb false, none⟩))).put (some 23) (.int .i64 (dn (gt L i) false : Int))).put (some 1) (.int .i64 (dn (gt L i) false : Int)) → Q .normal a' w') :
    (Code.region 2 first2_ops false).wp Try.prog Q a w := by
  refine z0 rfl ?_
  refine zv rfl (exec_move rfl (zi t0 rfl)) ?_
  refine zv rfl (exec_nilCheck rfl (zg zz rfl)) ?_
  refine zv rfl (exec_fieldAt rfl (zg zz rfl) (fg_87_0 _ _ _)) ?_
  refine zv rfl (exec_load rfl (zg zz rfl) (R_sl hR)) ?_
  refine zv rfl (exec_move rfl (zi t1 rfl)) ?_
  refine zv rfl (exec_indexAt rfl (zg zz rfl) (zg zz rfl) (R_ix hi hR.len _)) ?_
  refine zv rfl (exec_fieldAt rfl (zg zz rfl) (fg_113_3 _ _ _)) ?_
  refine zv rfl (exec_indexAt rfl (zg zz rfl) rfl (ix_a0 _ _)) ?_
  refine zv rfl (exec_load rfl (zg zz rfl) (R_dn hR hi false)) ?_
  refine zv rfl (exec_assign rfl (zg zz rfl)) ?_
  exact ze rfl (h _ _ (rfl) rfl)
def replace0_o0 : Oper := { dst := some 6, op := Op.move (Operand.tmp 0), type := 114, pos := "row.go:150", after := #[], guard := none }
def replace0_o1 : Oper := { dst := some 7, op := Op.move (Operand.tmp 0), type := 114, pos := "row.go:150", after := #[], guard := none }
def replace0_o2 : Oper := { dst := some 8, op := Op.nilCheck (Operand.tmp 7), type := 0, pos := "row.go:150", after := #[{ on := 1, ground := Ground.data }], guard := none }
def replace0_o3 : Oper := { dst := some 9, op := Op.fieldAddr 87 (Operand.tmp 8) 0, type := 0, pos := "row.go:150", after := #[{ on := 2, ground := Ground.data }], guard := none }
def replace0_o4 : Oper := { dst := some 10, op := Op.load 85 (Operand.tmp 9), type := 85, pos := "row.go:150", after := #[{ on := 3, ground := Ground.data }], guard := none }
def replace0_o5 : Oper := { dst := some 11, op := Op.move (Operand.tmp 1), type := 3, pos := "row.go:150", after := #[], guard := none }
def replace0_o6 : Oper := { dst := some 12, op := Op.indexAddr 85 (Operand.tmp 10) (Operand.tmp 11), type := 0, pos := "row.go:150", after := #[{ on := 4, ground := Ground.data }, { on := 5, ground := Ground.data }], guard := none }
def replace0_o7 : Oper := { dst := some 13, op := Op.fieldAddr 113 (Operand.tmp 12) 2, type := 0, pos := "row.go:150", after := #[{ on := 6, ground := Ground.data }], guard := none }
def replace0_o8 : Oper := { dst := some 14, op := Op.load 3 (Operand.tmp 13), type := 3, pos := "row.go:150", after := #[{ on := 7, ground := Ground.data }], guard := none }
def replace0_o9 : Oper := { dst := some 15, op := Op.move (Operand.tmp 0), type := 114, pos := "row.go:150", after := #[], guard := none }
def replace0_o10 : Oper := { dst := some 16, op := Op.move (Operand.tmp 1), type := 3, pos := "row.go:150", after := #[], guard := none }
def replace0_o11 : Oper := { dst := some 17, op := Op.call { callee := Callee.value (Operand.func 92), args := #[Operand.tmp 15, Operand.tmp 16], argTypes := #[114, 3] }, type := 3, pos := "row.go:150", after := #[{ on := 9, ground := Ground.data }, { on := 10, ground := Ground.data }], guard := none }
def replace0_o12 : Oper := { dst := some 18, op := Op.move (Operand.tmp 2), type := 3, pos := "row.go:150", after := #[], guard := none }
def replace0_o13 : Oper := { dst := some 19, op := Op.call { callee := Callee.value (Operand.func 76), args := #[Operand.tmp 6, Operand.tmp 14, Operand.tmp 17, Operand.tmp 18], argTypes := #[114, 3, 3, 3] }, type := 0, pos := "row.go:150", after := #[{ on := 0, ground := Ground.data }, { on := 8, ground := Ground.data }, { on := 11, ground := Ground.data }, { on := 12, ground := Ground.data }, { on := 11, ground := Ground.chain }], guard := none }
def replace0_ops : Array Oper := #[replace0_o0, replace0_o1, replace0_o2, replace0_o3, replace0_o4, replace0_o5, replace0_o6, replace0_o7, replace0_o8, replace0_o9, replace0_o10, replace0_o11, replace0_o12, replace0_o13]
set_option maxRecDepth 100000 in
set_option maxHeartbeats 4000000 in
theorem replace0 {rb ro g cap : Nat} {L : List Sp} {i p : Nat} {s : Bool} (Fin : World → Prop) (a : Act) (w : World) (Q : Exit → Act → World → Prop) (zz : a.tmps.size = 20)
    (t0 : a.tmps.getD 0 undef = .pointer (some ⟨rb, ro, none⟩))
    (t1 : a.tmps.getD 1 undef = .int .i64 (i : Int))
    (t2 : a.tmps.getD 2 undef = .int .i64 (p : Int))
    (hi : i < L.length) (hl : L.length ≤ 1400000000000) (h0 : RS rb ro g cap i L w.drew) (CS : Calls Try.prog 92 #[.pointer (some ⟨rb, ro, none⟩), .int .i64 (i : Int)] w.drew fun e w' => e = .returned (.int .i64 (nb s : Int)) ∧ RS rb ro g cap i L w' ∧ Calls Try.prog 76 #[.pointer (some ⟨rb, ro, none⟩), .int .i64 ((gt L i).up : Int), .int .i64 (nb s : Int), .int .i64 (p : Int)] w' fun e2 w2 => e2 = .returned (.tuple #[]) ∧ RS rb ro g cap i L w2 ∧ Fin w2)
    (h : ∀ (a' : Act) (w' : World), Fin w' → a' = ((((((((((((((a).put (some 6) (.pointer (some ⟨rb, ro, none⟩))).put (some 7) (.pointer (some ⟨rb, ro, none⟩))).put (some 8) (.pointer (some ⟨rb, ro, none⟩))).put (some 9) (.pointer (some ⟨rb, ro + 0, none⟩))).put (some 10) (.slice (some ⟨g, 0, none⟩) L.length cap)).put (some 11) (.int .i64 (i : Int))).put (some 12) (.pointer (some ⟨g, 73 * i, none⟩))).put (some 13) (.pointer (some ⟨g, 73 * i + 68, none⟩))).put (some 14) (.int .i64 ((gt L i).up : Int))).put (some 15) (.pointer (some ⟨rb, ro, none⟩))).put (some 16) (.int .i64 (i : Int))).put (some 18) (.int .i64 (p : Int))).put (some 17) (.int .i64 (nb s : Int))).put (some 19) (.tuple #[]) → Q .normal a' w') :
    (Code.region 0 replace0_ops true).wp Try.prog Q a w := by
  refine y0 (fun w' => (Instr.loadAt 85 (.pointer (some ⟨rb, ro + 0, none⟩))).run Try.prog w' = .ok (.slice (some ⟨g, 0, none⟩) L.length cap) w' ∧ (Instr.loadAt 3 (.pointer (some ⟨g, 73 * i + 68, none⟩))).run Try.prog w' = .ok (.int .i64 ((gt L i).up : Int)) w') (h0) (fun hHeld => ?_)
  refine yv 0 rfl rfl (fun w1 hw => exec_move rfl (zi t0 rfl)) hHeld ?_
  refine yv 1 rfl rfl (fun w1 hw => exec_move rfl (zi t0 rfl)) hHeld ?_
  refine yv 2 rfl rfl (fun w1 hw => exec_nilCheck rfl (zg zz rfl)) hHeld ?_
  refine yv 3 rfl rfl (fun w1 hw => exec_fieldAt rfl (zg zz rfl) (fg_87_0 _ _ _)) hHeld ?_
  refine yv 4 rfl rfl (fun w1 hw => exec_load rfl (zg zz rfl) hw.1) hHeld ?_
  refine yv 5 rfl rfl (fun w1 hw => exec_move rfl (zi t1 rfl)) hHeld ?_
  refine yv 6 rfl rfl (fun w1 hw => exec_indexAt rfl (zg zz rfl) (zg zz rfl) (R_ix hi hl _)) hHeld ?_
  refine yv 7 rfl rfl (fun w1 hw => exec_fieldAt rfl (zg zz rfl) (fg_113_2 _ _ _)) hHeld ?_
  refine yv 8 rfl rfl (fun w1 hw => exec_load rfl (zg zz rfl) hw.2) hHeld ?_
  refine yv 9 rfl rfl (fun w1 hw => exec_move rfl (zi t0 rfl)) hHeld ?_
  refine yv 10 rfl rfl (fun w1 hw => exec_move rfl (zi t1 rfl)) hHeld ?_
  refine yv 12 rfl rfl (fun w1 hw => exec_move rfl (zi t2 rfl)) hHeld ?_
  refine yc 11 rfl rfl (exec_c2 rfl (zg zz rfl) (zg zz rfl)) (CS) (fun e x11 hx => ?_)
  obtain ⟨rfl, S1, CH⟩ := hx
  refine ⟨_, rfl, S1, fun hHeld => ?_⟩
  refine yc 13 rfl rfl (exec_c4 rfl (zg zz rfl) (zg zz rfl) (zg zz rfl) (zg zz rfl)) (CH) (fun e x13 hx => ?_)
  obtain ⟨rfl, S2, HF⟩ := hx
  refine ⟨_, rfl, S2, fun hHeld => ?_⟩
  exact ye rfl (h _ _ (HF) rfl)
def tally3_o0 : Oper := { dst := some 8, op := Op.move (Operand.tmp 0), type := 114, pos := "row.go:163", after := #[], guard := none }
def tally3_o1 : Oper := { dst := some 9, op := Op.nilCheck (Operand.tmp 8), type := 0, pos := "row.go:163", after := #[{ on := 0, ground := Ground.data }], guard := none }
def tally3_o2 : Oper := { dst := some 10, op := Op.fieldAddr 87 (Operand.tmp 9) 0, type := 0, pos := "row.go:163", after := #[{ on := 1, ground := Ground.data }], guard := none }
def tally3_o3 : Oper := { dst := some 11, op := Op.load 85 (Operand.tmp 10), type := 85, pos := "row.go:163", after := #[{ on := 2, ground := Ground.data }], guard := none }
def tally3_o4 : Oper := { dst := some 12, op := Op.move (Operand.tmp 1), type := 3, pos := "row.go:163", after := #[], guard := none }
def tally3_o5 : Oper := { dst := some 13, op := Op.move (Operand.tmp 4), type := 3, pos := "row.go:163", after := #[], guard := none }
def tally3_o6 : Oper := { dst := some 14, op := Op.move (Operand.tmp 0), type := 114, pos := "row.go:163", after := #[], guard := none }
def tally3_o7 : Oper := { dst := some 15, op := Op.move (Operand.tmp 1), type := 3, pos := "row.go:163", after := #[], guard := none }
def tally3_o8 : Oper := { dst := some 16, op := Op.move (Operand.tmp 4), type := 3, pos := "row.go:163", after := #[], guard := none }
def tally3_o9 : Oper := { dst := some 17, op := Op.call { callee := Callee.value (Operand.func 98), args := #[Operand.tmp 14, Operand.tmp 15, Operand.tmp 16], argTypes := #[114, 3, 3] }, type := 3, pos := "row.go:163", after := #[{ on := 6, ground := Ground.data }, { on := 7, ground := Ground.data }, { on := 8, ground := Ground.data }], guard := none }
def tally3_o10 : Oper := { dst := some 18, op := Op.move (Operand.tmp 0), type := 114, pos := "row.go:163", after := #[], guard := none }
def tally3_o11 : Oper := { dst := some 19, op := Op.nilCheck (Operand.tmp 18), type := 0, pos := "row.go:163", after := #[{ on := 10, ground := Ground.data }], guard := none }
def tally3_o12 : Oper := { dst := some 20, op := Op.fieldAddr 87 (Operand.tmp 19) 0, type := 0, pos := "row.go:163", after := #[{ on := 11, ground := Ground.data }], guard := none }
def tally3_o13 : Oper := { dst := some 21, op := Op.load 85 (Operand.tmp 20), type := 85, pos := "row.go:163", after := #[{ on := 12, ground := Ground.data }], guard := none }
def tally3_o14 : Oper := { dst := some 22, op := Op.move (Operand.tmp 0), type := 114, pos := "row.go:163", after := #[], guard := none }
def tally3_o15 : Oper := { dst := some 23, op := Op.nilCheck (Operand.tmp 22), type := 0, pos := "row.go:163", after := #[{ on := 14, ground := Ground.data }], guard := none }
def tally3_o16 : Oper := { dst := some 24, op := Op.fieldAddr 87 (Operand.tmp 23) 0, type := 0, pos := "row.go:163", after := #[{ on := 15, ground := Ground.data }], guard := none }
def tally3_o17 : Oper := { dst := some 25, op := Op.load 85 (Operand.tmp 24), type := 85, pos := "row.go:163", after := #[{ on := 16, ground := Ground.data }], guard := none }
def tally3_o18 : Oper := { dst := some 26, op := Op.move (Operand.tmp 1), type := 3, pos := "row.go:163", after := #[], guard := none }
def tally3_o19 : Oper := { dst := some 27, op := Op.indexAddr 85 (Operand.tmp 25) (Operand.tmp 26), type := 0, pos := "row.go:163", after := #[{ on := 17, ground := Ground.data }, { on := 18, ground := Ground.data }], guard := none }
def tally3_o20 : Oper := { dst := some 28, op := Op.fieldAddr 113 (Operand.tmp 27) 3, type := 0, pos := "row.go:163", after := #[{ on := 19, ground := Ground.data }], guard := none }
def tally3_o21 : Oper := { dst := some 29, op := Op.indexAddr 111 (Operand.tmp 28) (Operand.const (Value.int IntKind.i64 1)), type := 0, pos := "row.go:163", after := #[{ on := 20, ground := Ground.data }], guard := none }
def tally3_o22 : Oper := { dst := some 30, op := Op.load 3 (Operand.tmp 29), type := 3, pos := "row.go:163", after := #[{ on := 21, ground := Ground.data }], guard := none }
def tally3_o23 : Oper := { dst := some 31, op := Op.move (Operand.tmp 4), type := 3, pos := "row.go:163", after := #[], guard := none }
def tally3_o24 : Oper := { dst := some 32, op := Op.indexAddr 85 (Operand.tmp 21) (Operand.tmp 30), type := 0, pos := "row.go:163", after := #[{ on := 13, ground := Ground.data }, { on := 22, ground := Ground.data }], guard := none }
def tally3_o25 : Oper := { dst := some 33, op := Op.fieldAddr 113 (Operand.tmp 32) 4, type := 0, pos := "row.go:163", after := #[{ on := 24, ground := Ground.data }], guard := none }
def tally3_o26 : Oper := { dst := some 34, op := Op.indexAddr 111 (Operand.tmp 33) (Operand.tmp 31), type := 0, pos := "row.go:163", after := #[{ on := 25, ground := Ground.data }, { on := 23, ground := Ground.data }], guard := none }
def tally3_o27 : Oper := { dst := some 35, op := Op.load 3 (Operand.tmp 34), type := 3, pos := "row.go:163", after := #[{ on := 26, ground := Ground.data }], guard := none }
def tally3_o28 : Oper := { dst := some 36, op := Op.binOp BinOp.add 3 (Operand.tmp 17) (Operand.tmp 35) 3, type := 3, pos := "row.go:163", after := #[{ on := 9, ground := Ground.data }, { on := 27, ground := Ground.data }], guard := none }
def tally3_o29 : Oper := { dst := some 37, op := Op.indexAddr 85 (Operand.tmp 11) (Operand.tmp 12), type := 0, pos := "row.go:163", after := #[{ on := 3, ground := Ground.data }, { on := 4, ground := Ground.data }], guard := none }
def tally3_o30 : Oper := { dst := some 38, op := Op.fieldAddr 113 (Operand.tmp 37) 4, type := 0, pos := "row.go:163", after := #[{ on := 29, ground := Ground.data }], guard := none }
def tally3_o31 : Oper := { dst := some 39, op := Op.indexAddr 111 (Operand.tmp 38) (Operand.tmp 13), type := 0, pos := "row.go:163", after := #[{ on := 30, ground := Ground.data }, { on := 5, ground := Ground.data }, { on := 0, ground := Ground.phase }, { on := 1, ground := Ground.phase }, { on := 2, ground := Ground.phase }, { on := 3, ground := Ground.phase }, { on := 4, ground := Ground.phase }, { on := 5, ground := Ground.phase }, { on := 6, ground := Ground.phase }, { on := 7, ground := Ground.phase }, { on := 8, ground := Ground.phase }, { on := 9, ground := Ground.phase }, { on := 10, ground := Ground.phase }, { on := 11, ground := Ground.phase }, { on := 12, ground := Ground.phase }, { on := 13, ground := Ground.phase }, { on := 14, ground := Ground.phase }, { on := 15, ground := Ground.phase }, { on := 16, ground := Ground.phase }, { on := 17, ground := Ground.phase }, { on := 18, ground := Ground.phase }, { on := 19, ground := Ground.phase }, { on := 20, ground := Ground.phase }, { on := 21, ground := Ground.phase }, { on := 22, ground := Ground.phase }, { on := 23, ground := Ground.phase }, { on := 24, ground := Ground.phase }, { on := 25, ground := Ground.phase }, { on := 26, ground := Ground.phase }, { on := 27, ground := Ground.phase }, { on := 28, ground := Ground.phase }], guard := none }
def tally3_o32 : Oper := { dst := none, op := Op.store 3 (Operand.tmp 39) (Operand.tmp 36), type := 0, pos := "row.go:163", after := #[{ on := 31, ground := Ground.data }, { on := 28, ground := Ground.data }, { on := 9, ground := Ground.chain }, { on := 0, ground := Ground.phase }, { on := 1, ground := Ground.phase }, { on := 2, ground := Ground.phase }, { on := 3, ground := Ground.phase }, { on := 4, ground := Ground.phase }, { on := 5, ground := Ground.phase }, { on := 6, ground := Ground.phase }, { on := 7, ground := Ground.phase }, { on := 8, ground := Ground.phase }, { on := 9, ground := Ground.phase }, { on := 10, ground := Ground.phase }, { on := 11, ground := Ground.phase }, { on := 12, ground := Ground.phase }, { on := 13, ground := Ground.phase }, { on := 14, ground := Ground.phase }, { on := 15, ground := Ground.phase }, { on := 16, ground := Ground.phase }, { on := 17, ground := Ground.phase }, { on := 18, ground := Ground.phase }, { on := 19, ground := Ground.phase }, { on := 20, ground := Ground.phase }, { on := 21, ground := Ground.phase }, { on := 22, ground := Ground.phase }, { on := 23, ground := Ground.phase }, { on := 24, ground := Ground.phase }, { on := 25, ground := Ground.phase }, { on := 26, ground := Ground.phase }, { on := 27, ground := Ground.phase }, { on := 28, ground := Ground.phase }], guard := none }
def tally3_ops : Array Oper := #[tally3_o0, tally3_o1, tally3_o2, tally3_o3, tally3_o4, tally3_o5, tally3_o6, tally3_o7, tally3_o8, tally3_o9, tally3_o10, tally3_o11, tally3_o12, tally3_o13, tally3_o14, tally3_o15, tally3_o16, tally3_o17, tally3_o18, tally3_o19, tally3_o20, tally3_o21, tally3_o22, tally3_o23, tally3_o24, tally3_o25, tally3_o26, tally3_o27, tally3_o28, tally3_o29, tally3_o30, tally3_o31, tally3_o32]
set_option maxRecDepth 100000 in
set_option maxHeartbeats 4000000 in
theorem tally3 {rb ro g cap : Nat} {L : List Sp} {i u : Nat} {c : Bool} (Fin : World → Prop) (a : Act) (w : World) (Q : Exit → Act → World → Prop) (zz : a.tmps.size = 41)
    (t0 : a.tmps.getD 0 undef = .pointer (some ⟨rb, ro, none⟩))
    (t1 : a.tmps.getD 1 undef = .int .i64 (i : Int))
    (t4 : a.tmps.getD 4 undef = .int .i64 (nb c : Int))
    (hi : i < L.length) (hl : L.length ≤ 1400000000000) (hd : dn (gt L i) true < L.length) (h0 : TS rb ro g cap i c L w.drew) (hs : u + ct (gt L (dn (gt L i) true)) c ≤ 9223372036854775807) (CU : Calls Try.prog 98 #[.pointer (some ⟨rb, ro, none⟩), .int .i64 (i : Int), .int .i64 (nb c : Int)] w.drew fun e w' => e = .returned (.int .i64 (u : Int)) ∧ TS rb ro g cap i c L w' ∧ ∃ w2, (Instr.storeAt 3 (.pointer (some ⟨g, 73 * i + 71 + nb c, none⟩)) (.int .i64 ((u + ct (gt L (dn (gt L i) true)) c : Nat) : Int))).run Try.prog w' = .ok () w2 ∧ TS rb ro g cap i c L w2 ∧ Fin w2)
    (h : ∀ (a' : Act) (w' : World), Fin w' → a' = ((((((((((((((((((((((((((((((((a).put (some 8) (.pointer (some ⟨rb, ro, none⟩))).put (some 9) (.pointer (some ⟨rb, ro, none⟩))).put (some 10) (.pointer (some ⟨rb, ro + 0, none⟩))).put (some 11) (.slice (some ⟨g, 0, none⟩) L.length cap)).put (some 12) (.int .i64 (i : Int))).put (some 13) (.int .i64 (nb c : Int))).put (some 14) (.pointer (some ⟨rb, ro, none⟩))).put (some 15) (.int .i64 (i : Int))).put (some 16) (.int .i64 (nb c : Int))).put (some 18) (.pointer (some ⟨rb, ro, none⟩))).put (some 19) (.pointer (some ⟨rb, ro, none⟩))).put (some 20) (.pointer (some ⟨rb, ro + 0, none⟩))).put (some 21) (.slice (some ⟨g, 0, none⟩) L.length cap)).put (some 22) (.pointer (some ⟨rb, ro, none⟩))).put (some 23) (.pointer (some ⟨rb, ro, none⟩))).put (some 24) (.pointer (some ⟨rb, ro + 0, none⟩))).put (some 25) (.slice (some ⟨g, 0, none⟩) L.length cap)).put (some 26) (.int .i64 (i : Int))).put (some 27) (.pointer (some ⟨g, 73 * i, none⟩))).put (some 28) (.pointer (some ⟨g, 73 * i + 69, none⟩))).put (some 29) (.pointer (some ⟨g, 73 * i + 69 + nb true, none⟩))).put (some 30) (.int .i64 (dn (gt L i) true : Int))).put (some 31) (.int .i64 (nb c : Int))).put (some 32) (.pointer (some ⟨g, 73 * (dn (gt L i) true), none⟩))).put (some 33) (.pointer (some ⟨g, 73 * (dn (gt L i) true) + 71, none⟩))).put (some 34) (.pointer (some ⟨g, 73 * (dn (gt L i) true) + 71 + nb c, none⟩))).put (some 35) (.int .i64 (ct (gt L (dn (gt L i) true)) c : Int))).put (some 37) (.pointer (some ⟨g, 73 * i, none⟩))).put (some 38) (.pointer (some ⟨g, 73 * i + 71, none⟩))).put (some 17) (.int .i64 (u : Int))).put (some 36) (.int .i64 ((u + ct (gt L (dn (gt L i) true)) c : Nat) : Int))).put (some 39) (.pointer (some ⟨g, 73 * i + 71 + nb c, none⟩)) → Q .normal a' w') :
    (Code.region 3 tally3_ops true).wp Try.prog Q a w := by
  refine y0 (fun w' => TS rb ro g cap i c L w') (h0) (fun hHeld => ?_)
  refine yv 0 rfl rfl (fun w1 hw => exec_move rfl (zi t0 rfl)) hHeld ?_
  refine yv 1 rfl rfl (fun w1 hw => exec_nilCheck rfl (zg zz rfl)) hHeld ?_
  refine yv 2 rfl rfl (fun w1 hw => exec_fieldAt rfl (zg zz rfl) (fg_87_0 _ _ _)) hHeld ?_
  refine yv 3 rfl rfl (fun w1 hw => exec_load rfl (zg zz rfl) hw.1) hHeld ?_
  refine yv 4 rfl rfl (fun w1 hw => exec_move rfl (zi t1 rfl)) hHeld ?_
  refine yv 5 rfl rfl (fun w1 hw => exec_move rfl (zi t4 rfl)) hHeld ?_
  refine yv 6 rfl rfl (fun w1 hw => exec_move rfl (zi t0 rfl)) hHeld ?_
  refine yv 7 rfl rfl (fun w1 hw => exec_move rfl (zi t1 rfl)) hHeld ?_
  refine yv 8 rfl rfl (fun w1 hw => exec_move rfl (zi t4 rfl)) hHeld ?_
  refine yv 10 rfl rfl (fun w1 hw => exec_move rfl (zi t0 rfl)) hHeld ?_
  refine yv 11 rfl rfl (fun w1 hw => exec_nilCheck rfl (zg zz rfl)) hHeld ?_
  refine yv 12 rfl rfl (fun w1 hw => exec_fieldAt rfl (zg zz rfl) (fg_87_0 _ _ _)) hHeld ?_
  refine yv 13 rfl rfl (fun w1 hw => exec_load rfl (zg zz rfl) hw.1) hHeld ?_
  refine yv 14 rfl rfl (fun w1 hw => exec_move rfl (zi t0 rfl)) hHeld ?_
  refine yv 15 rfl rfl (fun w1 hw => exec_nilCheck rfl (zg zz rfl)) hHeld ?_
  refine yv 16 rfl rfl (fun w1 hw => exec_fieldAt rfl (zg zz rfl) (fg_87_0 _ _ _)) hHeld ?_
  refine yv 17 rfl rfl (fun w1 hw => exec_load rfl (zg zz rfl) hw.1) hHeld ?_
  refine yv 18 rfl rfl (fun w1 hw => exec_move rfl (zi t1 rfl)) hHeld ?_
  refine yv 19 rfl rfl (fun w1 hw => exec_indexAt rfl (zg zz rfl) (zg zz rfl) (R_ix hi hl _)) hHeld ?_
  refine yv 20 rfl rfl (fun w1 hw => exec_fieldAt rfl (zg zz rfl) (fg_113_3 _ _ _)) hHeld ?_
  refine yv 21 rfl rfl (fun w1 hw => exec_indexAt rfl (zg zz rfl) rfl (ix_a1 _ _)) hHeld ?_
  refine yv 22 rfl rfl (fun w1 hw => exec_load rfl (zg zz rfl) hw.2.1) hHeld ?_
  refine yv 23 rfl rfl (fun w1 hw => exec_move rfl (zi t4 rfl)) hHeld ?_
  refine yv 24 rfl rfl (fun w1 hw => exec_indexAt rfl (zg zz rfl) (zg zz rfl) (R_ix hd hl _)) hHeld ?_
  refine yv 25 rfl rfl (fun w1 hw => exec_fieldAt rfl (zg zz rfl) (fg_113_4 _ _ _)) hHeld ?_
  refine yv 26 rfl rfl (fun w1 hw => exec_indexAt rfl (zg zz rfl) (zg zz rfl) (ix_ar _ c _)) hHeld ?_
  refine yv 27 rfl rfl (fun w1 hw => exec_load rfl (zg zz rfl) hw.2.2) hHeld ?_
  refine yv 29 rfl rfl (fun w1 hw => exec_indexAt rfl (zg zz rfl) (zg zz rfl) (R_ix hi hl _)) hHeld ?_
  refine yv 30 rfl rfl (fun w1 hw => exec_fieldAt rfl (zg zz rfl) (fg_113_4 _ _ _)) hHeld ?_
  refine yc 9 rfl rfl (exec_c3 rfl (zg zz rfl) (zg zz rfl) (zg zz rfl)) (CU) (fun e x9 hx => ?_)
  obtain ⟨rfl, S1, w2, ES, S2, HF⟩ := hx
  refine ⟨_, rfl, S1, fun hHeld => ?_⟩
  refine yv (v := .int .i64 ((u + ct (gt L (dn (gt L i) true)) c : Nat) : Int)) 28 rfl rfl (fun w1 hw => ex_addN rfl (zg zz rfl) (zg zz rfl) hs) hHeld ?_
  refine yv 31 rfl rfl (fun w1 hw => exec_indexAt rfl (zg zz rfl) (zg zz rfl) (ix_ar _ c _)) hHeld ?_
  refine ys 32 rfl rfl (exec_store rfl (zg zz rfl) (zg zz rfl) ES) (S2) (fun hHeld => ?_)
  exact ye rfl (h _ _ (HF) rfl)
end Go.Proofs.Ytlejbdepoemcjaa
