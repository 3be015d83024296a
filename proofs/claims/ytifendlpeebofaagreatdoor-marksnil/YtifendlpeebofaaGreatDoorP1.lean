import Derived.Test.YtifendlpeebofaaGreatDoorP0
set_option linter.unusedSimpArgs false
set_option linter.unusedVariables false
set_option maxRecDepth 100000
set_option maxHeartbeats 4000000
namespace Go.Proofs.YtifendlpeebofaaGreatDoor
open Go.RowKit Sq
def RS (rb ro g cap i : Nat) (L : List Sp) (w' : World) : Prop := (Instr.loadAt 73 (.pointer (some ⟨rb, ro + 0, none⟩))).run Tryz.prog w' = .ok (.slice (some ⟨g, 0, none⟩) L.length cap) w' ∧ (Instr.loadAt 3 (.pointer (some ⟨g, 73 * i + 68, none⟩))).run Tryz.prog w' = .ok (.int .i64 ((gt L i).up : Int)) w'
def TS (rb ro g cap i : Nat) (c : Bool) (L : List Sp) (w' : World) : Prop := (Instr.loadAt 73 (.pointer (some ⟨rb, ro + 0, none⟩))).run Tryz.prog w' = .ok (.slice (some ⟨g, 0, none⟩) L.length cap) w' ∧ (Instr.loadAt 3 (.pointer (some ⟨g, 73 * i + 69 + nb true, none⟩))).run Tryz.prog w' = .ok (.int .i64 (dn (gt L i) true : Int)) w' ∧ (Instr.loadAt 3 (.pointer (some ⟨g, 73 * (dn (gt L i) true) + 71 + nb c, none⟩))).run Tryz.prog w' = .ok (.int .i64 (ct (gt L (dn (gt L i) true)) c : Int)) w'
def weight1_o0 : Oper := ⟨some 5, .move (.tmp 0), 129, "row.go:187", #[], none⟩
def weight1_o1 : Oper := ⟨some 6, .nilCheck (.tmp 5), 0, "row.go:187", #[⟨0, .data⟩], none⟩
def weight1_o2 : Oper := ⟨some 7, .fieldAddr 75 (.tmp 6) 0, 0, "row.go:187", #[⟨1, .data⟩], none⟩
def weight1_o3 : Oper := ⟨some 8, .load 73 (.tmp 7), 73, "row.go:187", #[⟨2, .data⟩], none⟩
def weight1_o4 : Oper := ⟨some 9, .move (.tmp 1), 3, "row.go:187", #[], none⟩
def weight1_o5 : Oper := ⟨some 10, .indexAddr 73 (.tmp 8) (.tmp 9), 0, "row.go:187", #[⟨3, .data⟩, ⟨4, .data⟩], none⟩
def weight1_o6 : Oper := ⟨some 11, .fieldAddr 128 (.tmp 10) 4, 0, "row.go:187", #[⟨5, .data⟩], none⟩
def weight1_o7 : Oper := ⟨some 12, .indexAddr 126 (.tmp 11) (Operand.const (Value.int IntKind.i64 0)), 0, "row.go:187", #[⟨6, .data⟩], none⟩
def weight1_o8 : Oper := ⟨some 13, .load 3 (.tmp 12), 3, "row.go:187", #[⟨7, .data⟩], none⟩
def weight1_o9 : Oper := ⟨some 14, .binOp BinOp.add 3 (.tmp 13) (Operand.const (Value.int IntKind.i64 1)) 3, 3, "row.go:187", #[⟨8, .data⟩], none⟩
def weight1_o10 : Oper := ⟨some 4, .assign (.tmp 14), 3, "row.go:187", #[⟨9, .data⟩, ⟨0, .phase⟩, ⟨1, .phase⟩, ⟨2, .phase⟩, ⟨3, .phase⟩, ⟨4, .phase⟩, ⟨5, .phase⟩, ⟨6, .phase⟩, ⟨7, .phase⟩, ⟨8, .phase⟩, ⟨9, .phase⟩], none⟩
def weight1_ops : Array Oper := #[weight1_o0, weight1_o1, weight1_o2, weight1_o3, weight1_o4, weight1_o5, weight1_o6, weight1_o7, weight1_o8, weight1_o9, weight1_o10]
theorem weight1 {rb ro g cap : Nat} {L : List Sp} {i : Nat} (a : Act) (w : World) (Q : Exit → Act → World → Prop) (zz : a.tmps.size = 15)
    (t0 : a.tmps.getD 0 undef = .pointer (some ⟨rb, ro, none⟩))
    (t1 : a.tmps.getD 1 undef = .int .i64 (i : Int))
    (hR : SqAt w rb ro g cap L) (hi : i < L.length) (hs : ct (gt L i) false + 1 ≤ 9223372036854775807)
    (h : ∀ (a' : Act) (w' : World), w' = w → a' = (((((((((((a).put (some 5) (.pointer (some ⟨rb, ro, none⟩))).put (some 6) (.pointer (some ⟨rb, ro, none⟩))).put (some 7) (.pointer (some ⟨rb, ro + 0, none⟩))).put (some 8) (.slice (some ⟨g, 0, none⟩) (L).length cap)).put (some 9) (.int .i64 (i : Int))).put (some 10) (.pointer (some ⟨g, 73 * i, none⟩))).put (some 11) (.pointer (some ⟨g, 73 * i + 71, none⟩))).put (some 12) (.pointer (some ⟨g, 73 * i + 71 + nb false, none⟩))).put (some 13) (.int .i64 (ct (gt L i) false : Int))).put (some 14) (.int .i64 ((ct (gt L i) false + 1 : Nat) : Int))).put (some 4) (.int .i64 ((ct (gt L i) false + 1 : Nat) : Int)) → Q .normal a' w') :
    (Code.region 1 weight1_ops false).wp Tryz.prog Q a w := by
  refine z0 rfl ?_
  refine zv rfl (xmv rfl (zi t0 rfl)) ?_
  refine zv rfl (xnc rfl (zg zz rfl)) ?_
  refine zv rfl (xfa rfl (zg zz rfl) (fg_75_0 _ _ _)) ?_
  refine zv rfl (xld rfl (zg zz rfl) (R_sl hR)) ?_
  refine zv rfl (xmv rfl (zi t1 rfl)) ?_
  refine zv rfl (xia rfl (zg zz rfl) (zg zz rfl) (R_ix hi hR.len _)) ?_
  refine zv rfl (xfa rfl (zg zz rfl) (fg_128_4 _ _ _)) ?_
  refine zv rfl (xia rfl (zg zz rfl) rfl (ix_a0 _ _)) ?_
  refine zv rfl (xld rfl (zg zz rfl) (R_ct hR hi false)) ?_
  refine zv (v := .int .i64 ((ct (gt L i) false + 1 : Nat) : Int)) rfl (ex_addN (q := 1) rfl (zg zz rfl) rfl hs) ?_
  refine zv rfl (xas rfl (zg zz rfl)) ?_
  exact ze rfl (h _ _ (rfl) rfl)
def under1_o0 : Oper := ⟨some 9, .move (.tmp 0), 129, "row.go:174", #[], none⟩
def under1_o1 : Oper := ⟨some 10, .nilCheck (.tmp 9), 0, "row.go:174", #[⟨0, .data⟩], none⟩
def under1_o2 : Oper := ⟨some 11, .fieldAddr 75 (.tmp 10) 0, 0, "row.go:174", #[⟨1, .data⟩], none⟩
def under1_o3 : Oper := ⟨some 12, .load 73 (.tmp 11), 73, "row.go:174", #[⟨2, .data⟩], none⟩
def under1_o4 : Oper := ⟨some 13, .move (.tmp 0), 129, "row.go:174", #[], none⟩
def under1_o5 : Oper := ⟨some 14, .nilCheck (.tmp 13), 0, "row.go:174", #[⟨4, .data⟩], none⟩
def under1_o6 : Oper := ⟨some 15, .fieldAddr 75 (.tmp 14) 0, 0, "row.go:174", #[⟨5, .data⟩], none⟩
def under1_o7 : Oper := ⟨some 16, .load 73 (.tmp 15), 73, "row.go:174", #[⟨6, .data⟩], none⟩
def under1_o8 : Oper := ⟨some 17, .move (.tmp 1), 3, "row.go:174", #[], none⟩
def under1_o9 : Oper := ⟨some 18, .move (.tmp 2), 3, "row.go:174", #[], none⟩
def under1_o10 : Oper := ⟨some 19, .indexAddr 73 (.tmp 16) (.tmp 17), 0, "row.go:174", #[⟨7, .data⟩, ⟨8, .data⟩], none⟩
def under1_o11 : Oper := ⟨some 20, .fieldAddr 128 (.tmp 19) 3, 0, "row.go:174", #[⟨10, .data⟩], none⟩
def under1_o12 : Oper := ⟨some 21, .indexAddr 126 (.tmp 20) (.tmp 18), 0, "row.go:174", #[⟨11, .data⟩, ⟨9, .data⟩], none⟩
def under1_o13 : Oper := ⟨some 22, .load 3 (.tmp 21), 3, "row.go:174", #[⟨12, .data⟩], none⟩
def under1_o14 : Oper := ⟨some 23, .move (.tmp 3), 3, "row.go:174", #[], none⟩
def under1_o15 : Oper := ⟨some 24, .indexAddr 73 (.tmp 12) (.tmp 22), 0, "row.go:174", #[⟨3, .data⟩, ⟨13, .data⟩], none⟩
def under1_o16 : Oper := ⟨some 25, .fieldAddr 128 (.tmp 24) 4, 0, "row.go:174", #[⟨15, .data⟩], none⟩
def under1_o17 : Oper := ⟨some 26, .indexAddr 126 (.tmp 25) (.tmp 23), 0, "row.go:174", #[⟨16, .data⟩, ⟨14, .data⟩], none⟩
def under1_o18 : Oper := ⟨some 27, .load 3 (.tmp 26), 3, "row.go:174", #[⟨17, .data⟩], none⟩
def under1_o19 : Oper := ⟨some 8, .assign (.tmp 27), 3, "row.go:174", #[⟨18, .data⟩, ⟨0, .phase⟩, ⟨1, .phase⟩, ⟨2, .phase⟩, ⟨3, .phase⟩, ⟨4, .phase⟩, ⟨5, .phase⟩, ⟨6, .phase⟩, ⟨7, .phase⟩, ⟨8, .phase⟩, ⟨9, .phase⟩, ⟨10, .phase⟩, ⟨11, .phase⟩, ⟨12, .phase⟩, ⟨13, .phase⟩, ⟨14, .phase⟩, ⟨15, .phase⟩, ⟨16, .phase⟩, ⟨17, .phase⟩, ⟨18, .phase⟩], none⟩
def under1_ops : Array Oper := #[under1_o0, under1_o1, under1_o2, under1_o3, under1_o4, under1_o5, under1_o6, under1_o7, under1_o8, under1_o9, under1_o10, under1_o11, under1_o12, under1_o13, under1_o14, under1_o15, under1_o16, under1_o17, under1_o18, under1_o19]
theorem under1 {rb ro g cap : Nat} {L : List Sp} {i : Nat} {b c : Bool} (a : Act) (w : World) (Q : Exit → Act → World → Prop) (zz : a.tmps.size = 28)
    (t0 : a.tmps.getD 0 undef = .pointer (some ⟨rb, ro, none⟩))
    (t1 : a.tmps.getD 1 undef = .int .i64 (i : Int))
    (t2 : a.tmps.getD 2 undef = .int .i64 (nb b : Int))
    (t3 : a.tmps.getD 3 undef = .int .i64 (nb c : Int))
    (hR : SqAt w rb ro g cap L) (hi : i < L.length) (hd : dn (gt L i) b < L.length)
    (h : ∀ (a' : Act) (w' : World), w' = w.drew → a' = ((((((((((((((((((((a).put (some 9) (.pointer (some ⟨rb, ro, none⟩))).put (some 10) (.pointer (some ⟨rb, ro, none⟩))).put (some 11) (.pointer (some ⟨rb, ro + 0, none⟩))).put (some 12) (.slice (some ⟨g, 0, none⟩) (L).length cap)).put (some 13) (.pointer (some ⟨rb, ro, none⟩))).put (some 14) (.pointer (some ⟨rb, ro, none⟩))).put (some 15) (.pointer (some ⟨rb, ro + 0, none⟩))).put (some 16) (.slice (some ⟨g, 0, none⟩) (L).length cap)).put (some 17) (.int .i64 (i : Int))).put (some 18) (.int .i64 (nb b : Int))).put (some 19) (.pointer (some ⟨g, 73 * i, none⟩))).put (some 20) (.pointer (some ⟨g, 73 * i + 69, none⟩))).put (some 21) (.pointer (some ⟨g, 73 * i + 69 + nb b, none⟩))).put (some 22) (.int .i64 (dn (gt L i) b : Int))).put (some 23) (.int .i64 (nb c : Int))).put (some 24) (.pointer (some ⟨g, 73 * (dn (gt L i) b), none⟩))).put (some 25) (.pointer (some ⟨g, 73 * (dn (gt L i) b) + 71, none⟩))).put (some 26) (.pointer (some ⟨g, 73 * (dn (gt L i) b) + 71 + nb c, none⟩))).put (some 27) (.int .i64 (ct (gt L (dn (gt L i) b)) c : Int))).put (some 8) (.int .i64 (ct (gt L (dn (gt L i) b)) c : Int)) → Q .normal a' w') :
    (Code.region 1 under1_ops true).wp Tryz.prog Q a w := by
  refine y0 (fun w' => w' = w.drew) (rfl) (fun hHeld => ?_)
  refine yv 0 rfl rfl (fun w1 hw => xmv rfl (zi t0 rfl)) hHeld ?_
  refine yv 1 rfl rfl (fun w1 hw => xnc rfl (zg zz rfl)) hHeld ?_
  refine yv 2 rfl rfl (fun w1 hw => xfa rfl (zg zz rfl) (fg_75_0 _ _ _)) hHeld ?_
  refine yv 3 rfl rfl (fun w1 hw => xld rfl (zg zz rfl) (R_sl (hw ▸ hR.drew))) hHeld ?_
  refine yv 4 rfl rfl (fun w1 hw => xmv rfl (zi t0 rfl)) hHeld ?_
  refine yv 5 rfl rfl (fun w1 hw => xnc rfl (zg zz rfl)) hHeld ?_
  refine yv 6 rfl rfl (fun w1 hw => xfa rfl (zg zz rfl) (fg_75_0 _ _ _)) hHeld ?_
  refine yv 7 rfl rfl (fun w1 hw => xld rfl (zg zz rfl) (R_sl (hw ▸ hR.drew))) hHeld ?_
  refine yv 8 rfl rfl (fun w1 hw => xmv rfl (zi t1 rfl)) hHeld ?_
  refine yv 9 rfl rfl (fun w1 hw => xmv rfl (zi t2 rfl)) hHeld ?_
  refine yv 10 rfl rfl (fun w1 hw => xia rfl (zg zz rfl) (zg zz rfl) (R_ix hi hR.len _)) hHeld ?_
  refine yv 11 rfl rfl (fun w1 hw => xfa rfl (zg zz rfl) (fg_128_3 _ _ _)) hHeld ?_
  refine yv 12 rfl rfl (fun w1 hw => xia rfl (zg zz rfl) (zg zz rfl) (ix_ar _ b _)) hHeld ?_
  refine yv 13 rfl rfl (fun w1 hw => xld rfl (zg zz rfl) (R_dn (hw ▸ hR.drew) hi b)) hHeld ?_
  refine yv 14 rfl rfl (fun w1 hw => xmv rfl (zi t3 rfl)) hHeld ?_
  refine yv 15 rfl rfl (fun w1 hw => xia rfl (zg zz rfl) (zg zz rfl) (R_ix hd hR.len _)) hHeld ?_
  refine yv 16 rfl rfl (fun w1 hw => xfa rfl (zg zz rfl) (fg_128_4 _ _ _)) hHeld ?_
  refine yv 17 rfl rfl (fun w1 hw => xia rfl (zg zz rfl) (zg zz rfl) (ix_ar _ c _)) hHeld ?_
  refine yv 18 rfl rfl (fun w1 hw => xld rfl (zg zz rfl) (R_ct (hw ▸ hR.drew) hd c)) hHeld ?_
  refine yv 19 rfl rfl (fun w1 hw => xas rfl (zg zz rfl)) hHeld ?_
  exact ye rfl (h _ _ (hHeld) rfl)
def own1a_o0 : Oper := ⟨some 7, .move (.tmp 2), 3, "row.go:179", #[], none⟩
def own1a_o1 : Oper := ⟨some 8, .binOp BinOp.eql 3 (.tmp 7) (Operand.const (Value.int IntKind.i64 0)) 3, 4, "row.go:179", #[⟨0, .data⟩], none⟩
def own1a_o2 : Oper := ⟨some 9, .move (.tmp 8), 4, "row.go:179", #[⟨1, .data⟩], none⟩
def own1a_o3 : Oper := ⟨some 10, .move (.tmp 0), 129, "row.go:179", #[⟨2, .guard⟩], some (2, false)⟩
def own1a_o4 : Oper := ⟨some 11, .nilCheck (.tmp 10), 0, "row.go:179", #[⟨3, .data⟩, ⟨2, .guard⟩], some (2, false)⟩
def own1a_o5 : Oper := ⟨some 12, .fieldAddr 75 (.tmp 11) 0, 0, "row.go:179", #[⟨4, .data⟩, ⟨2, .guard⟩], some (2, false)⟩
def own1a_o6 : Oper := ⟨some 13, .load 73 (.tmp 12), 73, "row.go:179", #[⟨5, .data⟩, ⟨2, .guard⟩], some (2, false)⟩
def own1a_o7 : Oper := ⟨some 14, .move (.tmp 1), 3, "row.go:179", #[⟨2, .guard⟩], some (2, false)⟩
def own1a_o8 : Oper := ⟨some 15, .indexAddr 73 (.tmp 13) (.tmp 14), 0, "row.go:179", #[⟨6, .data⟩, ⟨7, .data⟩, ⟨2, .guard⟩], some (2, false)⟩
def own1a_o9 : Oper := ⟨some 16, .fieldAddr 128 (.tmp 15) 1, 0, "row.go:179", #[⟨8, .data⟩, ⟨2, .guard⟩], some (2, false)⟩
def own1a_o10 : Oper := ⟨some 17, .load 4 (.tmp 16), 4, "row.go:179", #[⟨9, .data⟩, ⟨2, .guard⟩], some (2, false)⟩
def own1a_o11 : Oper := ⟨some 18, .pick (.tmp 9) (Operand.const (Value.bool true)) (.tmp 17), 4, "row.go:179", #[⟨2, .data⟩, ⟨10, .data⟩], none⟩
def own1a_ops : Array Oper := #[own1a_o0, own1a_o1, own1a_o2, own1a_o3, own1a_o4, own1a_o5, own1a_o6, own1a_o7, own1a_o8, own1a_o9, own1a_o10, own1a_o11]
theorem own1a {rb ro i : Nat} {c : Bool} (a : Act) (w : World) (Q : Exit → Act → World → Prop) (zz : a.tmps.size = 19)
    (t0 : a.tmps.getD 0 undef = .pointer (some ⟨rb, ro, none⟩))
    (t1 : a.tmps.getD 1 undef = .int .i64 (i : Int))
    (t2 : a.tmps.getD 2 undef = .int .i64 (nb c : Int))
    (hc : decide ((nb c : Int) = 0) = true)
    (h : ∀ (a' : Act) (w' : World), w' = w → a' = ((((((((((((a).put (some 7) (.int .i64 (nb c : Int))).put (some 8) (.bool true)).put (some 9) (.bool true)).put (some 10) (undef)).put (some 11) (undef)).put (some 12) (undef)).put (some 13) (undef)).put (some 14) (undef)).put (some 15) (undef)).put (some 16) (undef)).put (some 17) (undef)).put (some 18) (.bool true) → Q .normal a' w') :
    (Code.region 1 own1a_ops false).wp Tryz.prog Q a w := by
  refine z0 rfl ?_
  refine zv rfl (xmv rfl (zi t2 rfl)) ?_
  refine zv (v := .bool true) rfl (ex_eql rfl (zg zz rfl) rfl hc) ?_
  refine zv rfl (xmv rfl (zg zz rfl)) ?_
  refine zn (zx zz rfl rfl rfl (zg zz rfl)) ?_
  refine zn (zx zz rfl rfl rfl (zg zz rfl)) ?_
  refine zn (zx zz rfl rfl rfl (zg zz rfl)) ?_
  refine zn (zx zz rfl rfl rfl (zg zz rfl)) ?_
  refine zn (zx zz rfl rfl rfl (zg zz rfl)) ?_
  refine zn (zx zz rfl rfl rfl (zg zz rfl)) ?_
  refine zn (zx zz rfl rfl rfl (zg zz rfl)) ?_
  refine zn (zx zz rfl rfl rfl (zg zz rfl)) ?_
  refine zv rfl (exec_pickT rfl (zg zz rfl) rfl) ?_
  exact ze rfl (h _ _ (rfl) rfl)
theorem own1b {rb ro g cap : Nat} {L : List Sp} {i : Nat} {c : Bool} (a : Act) (w : World) (Q : Exit → Act → World → Prop) (zz : a.tmps.size = 19)
    (t0 : a.tmps.getD 0 undef = .pointer (some ⟨rb, ro, none⟩))
    (t1 : a.tmps.getD 1 undef = .int .i64 (i : Int))
    (t2 : a.tmps.getD 2 undef = .int .i64 (nb c : Int))
    (hR : SqAt w rb ro g cap L) (hi : i < L.length) (hc : decide ((nb c : Int) = 0) = false)
    (h : ∀ (a' : Act) (w' : World), w' = w → a' = ((((((((((((a).put (some 7) (.int .i64 (nb c : Int))).put (some 8) (.bool false)).put (some 9) (.bool false)).put (some 10) (.pointer (some ⟨rb, ro, none⟩))).put (some 11) (.pointer (some ⟨rb, ro, none⟩))).put (some 12) (.pointer (some ⟨rb, ro + 0, none⟩))).put (some 13) (.slice (some ⟨g, 0, none⟩) (L).length cap)).put (some 14) (.int .i64 (i : Int))).put (some 15) (.pointer (some ⟨g, 73 * i, none⟩))).put (some 16) (.pointer (some ⟨g, 73 * i + 67, none⟩))).put (some 17) (.bool (gt L i).sh)).put (some 18) (.bool (gt L i).sh) → Q .normal a' w') :
    (Code.region 1 own1a_ops false).wp Tryz.prog Q a w := by
  refine z0 rfl ?_
  refine zv rfl (xmv rfl (zi t2 rfl)) ?_
  refine zv (v := .bool false) rfl (ex_eql rfl (zg zz rfl) rfl hc) ?_
  refine zv rfl (xmv rfl (zg zz rfl)) ?_
  refine zv (zw zz rfl rfl rfl (zg zz rfl)) (xmv rfl (zi t0 rfl)) ?_
  refine zv (zw zz rfl rfl rfl (zg zz rfl)) (xnc rfl (zg zz rfl)) ?_
  refine zv (zw zz rfl rfl rfl (zg zz rfl)) (xfa rfl (zg zz rfl) (fg_75_0 _ _ _)) ?_
  refine zv (zw zz rfl rfl rfl (zg zz rfl)) (xld rfl (zg zz rfl) (R_sl hR)) ?_
  refine zv (zw zz rfl rfl rfl (zg zz rfl)) (xmv rfl (zi t1 rfl)) ?_
  refine zv (zw zz rfl rfl rfl (zg zz rfl)) (xia rfl (zg zz rfl) (zg zz rfl) (R_ix hi hR.len _)) ?_
  refine zv (zw zz rfl rfl rfl (zg zz rfl)) (xfa rfl (zg zz rfl) (fg_128_1 _ _ _)) ?_
  refine zv (zw zz rfl rfl rfl (zg zz rfl)) (xld rfl (zg zz rfl) (R_sh hR hi)) ?_
  refine zv rfl (exec_pickF rfl (zg zz rfl) (zg zz rfl)) ?_
  exact ze rfl (h _ _ (rfl) rfl)
def upTo1_o0 : Oper := ⟨some 7, .move (.tmp 0), 129, "row.go:169", #[], none⟩
def upTo1_o1 : Oper := ⟨some 8, .move (.tmp 1), 3, "row.go:169", #[], none⟩
def upTo1_o2 : Oper := ⟨some 9, .move (.tmp 2), 3, "row.go:169", #[], none⟩
def upTo1_o3 : Oper := ⟨some 10, .call { callee := Callee.value (Operand.func 126), args := #[.tmp 7, .tmp 8, Operand.const (Value.int IntKind.i64 0), .tmp 9], argTypes := #[129, 3, 3, 3] }, 3, "row.go:169", #[⟨0, .data⟩, ⟨1, .data⟩, ⟨2, .data⟩], none⟩
def upTo1_o4 : Oper := ⟨some 11, .move (.tmp 0), 129, "row.go:169", #[], none⟩
def upTo1_o5 : Oper := ⟨some 12, .move (.tmp 1), 3, "row.go:169", #[], none⟩
def upTo1_o6 : Oper := ⟨some 13, .move (.tmp 2), 3, "row.go:169", #[], none⟩
def upTo1_o7 : Oper := ⟨some 14, .call { callee := Callee.value (Operand.func 149), args := #[.tmp 11, .tmp 12, .tmp 13], argTypes := #[129, 3, 3] }, 3, "row.go:169", #[⟨4, .data⟩, ⟨5, .data⟩, ⟨6, .data⟩, ⟨3, .chain⟩], none⟩
def upTo1_o8 : Oper := ⟨some 15, .binOp BinOp.add 3 (.tmp 10) (.tmp 14) 3, 3, "row.go:169", #[⟨3, .data⟩, ⟨7, .data⟩], none⟩
def upTo1_o9 : Oper := ⟨some 6, .assign (.tmp 15), 3, "row.go:169", #[⟨8, .data⟩, ⟨7, .chain⟩, ⟨0, .phase⟩, ⟨1, .phase⟩, ⟨2, .phase⟩, ⟨3, .phase⟩, ⟨4, .phase⟩, ⟨5, .phase⟩, ⟨6, .phase⟩, ⟨7, .phase⟩, ⟨8, .phase⟩], none⟩
def upTo1_ops : Array Oper := #[upTo1_o0, upTo1_o1, upTo1_o2, upTo1_o3, upTo1_o4, upTo1_o5, upTo1_o6, upTo1_o7, upTo1_o8, upTo1_o9]
theorem upTo1 {rb ro i u o : Nat} {c : Bool} (a : Act) (w : World) (Q : Exit → Act → World → Prop) (zz : a.tmps.size = 16)
    (t0 : a.tmps.getD 0 undef = .pointer (some ⟨rb, ro, none⟩))
    (t1 : a.tmps.getD 1 undef = .int .i64 (i : Int))
    (t2 : a.tmps.getD 2 undef = .int .i64 (nb c : Int))
    (CU : Calls Tryz.prog 126 #[.pointer (some ⟨rb, ro, none⟩), .int .i64 (i : Int), .int .i64 0, .int .i64 (nb c : Int)] w fun e w' => e = .returned (.int .i64 (u : Int)) ∧ Qt w w' ∧ Calls Tryz.prog 149 #[.pointer (some ⟨rb, ro, none⟩), .int .i64 (i : Int), .int .i64 (nb c : Int)] w' fun e2 w2 => e2 = .returned (.int .i64 (o : Int)) ∧ Qt w' w2) (hs : u + o ≤ 9223372036854775807)
    (h : ∀ (a' : Act) (w' : World), Qt w w' → a' = ((((((((((a).put (some 7) (.pointer (some ⟨rb, ro, none⟩))).put (some 8) (.int .i64 (i : Int))).put (some 9) (.int .i64 (nb c : Int))).put (some 10) (.int .i64 (u : Int))).put (some 11) (.pointer (some ⟨rb, ro, none⟩))).put (some 12) (.int .i64 (i : Int))).put (some 13) (.int .i64 (nb c : Int))).put (some 14) (.int .i64 (o : Int))).put (some 15) (.int .i64 ((u + o : Nat) : Int))).put (some 6) (.int .i64 ((u + o : Nat) : Int)) → Q .normal a' w') :
    (Code.region 1 upTo1_ops false).wp Tryz.prog Q a w := by
  refine z0 rfl ?_
  refine zv rfl (xmv rfl (zi t0 rfl)) ?_
  refine zv rfl (xmv rfl (zi t1 rfl)) ?_
  refine zv rfl (xmv rfl (zi t2 rfl)) ?_
  refine zc rfl (exec_c4 rfl (zg zz rfl) (zg zz rfl) rfl (zg zz rfl)) (CU) (fun e x3 hx => ?_)
  obtain ⟨rfl, q1, CO⟩ := hx
  refine ⟨_, rfl, ?_⟩
  refine zv rfl (xmv rfl (zi t0 rfl)) ?_
  refine zv rfl (xmv rfl (zi t1 rfl)) ?_
  refine zv rfl (xmv rfl (zi t2 rfl)) ?_
  refine zc rfl (exec_c3 rfl (zg zz rfl) (zg zz rfl) (zg zz rfl)) (CO) (fun e x7 hx => ?_)
  obtain ⟨rfl, q2⟩ := hx
  refine ⟨_, rfl, ?_⟩
  refine zv (v := .int .i64 ((u + o : Nat) : Int)) rfl (ex_addN rfl (zg zz rfl) (zg zz rfl) hs) ?_
  refine zv rfl (xas rfl (zg zz rfl)) ?_
  exact ze rfl (h _ _ (q1.trans q2) rfl)
def side1_o0 : Oper := ⟨some 5, .move (.tmp 0), 129, "row.go:134", #[], none⟩
def side1_o1 : Oper := ⟨some 6, .nilCheck (.tmp 5), 0, "row.go:134", #[⟨0, .data⟩], none⟩
def side1_o2 : Oper := ⟨some 7, .fieldAddr 75 (.tmp 6) 0, 0, "row.go:134", #[⟨1, .data⟩], none⟩
def side1_o3 : Oper := ⟨some 8, .load 73 (.tmp 7), 73, "row.go:134", #[⟨2, .data⟩], none⟩
def side1_o4 : Oper := ⟨some 9, .move (.tmp 0), 129, "row.go:134", #[], none⟩
def side1_o5 : Oper := ⟨some 10, .nilCheck (.tmp 9), 0, "row.go:134", #[⟨4, .data⟩], none⟩
def side1_o6 : Oper := ⟨some 11, .fieldAddr 75 (.tmp 10) 0, 0, "row.go:134", #[⟨5, .data⟩], none⟩
def side1_o7 : Oper := ⟨some 12, .load 73 (.tmp 11), 73, "row.go:134", #[⟨6, .data⟩], none⟩
def side1_o8 : Oper := ⟨some 13, .move (.tmp 1), 3, "row.go:134", #[], none⟩
def side1_o9 : Oper := ⟨some 14, .indexAddr 73 (.tmp 12) (.tmp 13), 0, "row.go:134", #[⟨7, .data⟩, ⟨8, .data⟩], none⟩
def side1_o10 : Oper := ⟨some 15, .fieldAddr 128 (.tmp 14) 2, 0, "row.go:134", #[⟨9, .data⟩], none⟩
def side1_o11 : Oper := ⟨some 16, .load 3 (.tmp 15), 3, "row.go:134", #[⟨10, .data⟩], none⟩
def side1_o12 : Oper := ⟨some 17, .indexAddr 73 (.tmp 8) (.tmp 16), 0, "row.go:134", #[⟨3, .data⟩, ⟨11, .data⟩], none⟩
def side1_o13 : Oper := ⟨some 18, .fieldAddr 128 (.tmp 17) 3, 0, "row.go:134", #[⟨12, .data⟩], none⟩
def side1_o14 : Oper := ⟨some 19, .indexAddr 126 (.tmp 18) (Operand.const (Value.int IntKind.i64 0)), 0, "row.go:134", #[⟨13, .data⟩], none⟩
def side1_o15 : Oper := ⟨some 20, .load 3 (.tmp 19), 3, "row.go:134", #[⟨14, .data⟩], none⟩
def side1_o16 : Oper := ⟨some 21, .move (.tmp 1), 3, "row.go:134", #[], none⟩
def side1_o17 : Oper := ⟨some 22, .binOp BinOp.eql 3 (.tmp 20) (.tmp 21) 3, 4, "row.go:134", #[⟨15, .data⟩, ⟨16, .data⟩], none⟩
def side1_ops : Array Oper := #[side1_o0, side1_o1, side1_o2, side1_o3, side1_o4, side1_o5, side1_o6, side1_o7, side1_o8, side1_o9, side1_o10, side1_o11, side1_o12, side1_o13, side1_o14, side1_o15, side1_o16, side1_o17]
theorem side1 {rb ro g cap : Nat} {L : List Sp} {i : Nat} {r : Bool} (a : Act) (w : World) (Q : Exit → Act → World → Prop) (zz : a.tmps.size = 23)
    (t0 : a.tmps.getD 0 undef = .pointer (some ⟨rb, ro, none⟩))
    (t1 : a.tmps.getD 1 undef = .int .i64 (i : Int))
    (hR : SqAt w rb ro g cap L) (hi : i < L.length) (hu : (gt L i).up < L.length) (hr : decide ((dn (gt L (gt L i).up) false : Int) = (i : Int)) = r)
    (h : ∀ (a' : Act) (w' : World), w' = w.drew → a' = ((((((((((((((((((a).put (some 5) (.pointer (some ⟨rb, ro, none⟩))).put (some 6) (.pointer (some ⟨rb, ro, none⟩))).put (some 7) (.pointer (some ⟨rb, ro + 0, none⟩))).put (some 8) (.slice (some ⟨g, 0, none⟩) (L).length cap)).put (some 9) (.pointer (some ⟨rb, ro, none⟩))).put (some 10) (.pointer (some ⟨rb, ro, none⟩))).put (some 11) (.pointer (some ⟨rb, ro + 0, none⟩))).put (some 12) (.slice (some ⟨g, 0, none⟩) (L).length cap)).put (some 13) (.int .i64 (i : Int))).put (some 14) (.pointer (some ⟨g, 73 * i, none⟩))).put (some 15) (.pointer (some ⟨g, 73 * i + 68, none⟩))).put (some 16) (.int .i64 ((gt L i).up : Int))).put (some 17) (.pointer (some ⟨g, 73 * ((gt L i).up), none⟩))).put (some 18) (.pointer (some ⟨g, 73 * ((gt L i).up) + 69, none⟩))).put (some 19) (.pointer (some ⟨g, 73 * ((gt L i).up) + 69 + nb false, none⟩))).put (some 20) (.int .i64 (dn (gt L ((gt L i).up)) false : Int))).put (some 21) (.int .i64 (i : Int))).put (some 22) (.bool r) → Q .normal a' w') :
    (Code.region 1 side1_ops true).wp Tryz.prog Q a w := by
  refine y0 (fun w' => w' = w.drew) (rfl) (fun hHeld => ?_)
  refine yv 0 rfl rfl (fun w1 hw => xmv rfl (zi t0 rfl)) hHeld ?_
  refine yv 1 rfl rfl (fun w1 hw => xnc rfl (zg zz rfl)) hHeld ?_
  refine yv 2 rfl rfl (fun w1 hw => xfa rfl (zg zz rfl) (fg_75_0 _ _ _)) hHeld ?_
  refine yv 3 rfl rfl (fun w1 hw => xld rfl (zg zz rfl) (R_sl (hw ▸ hR.drew))) hHeld ?_
  refine yv 4 rfl rfl (fun w1 hw => xmv rfl (zi t0 rfl)) hHeld ?_
  refine yv 5 rfl rfl (fun w1 hw => xnc rfl (zg zz rfl)) hHeld ?_
  refine yv 6 rfl rfl (fun w1 hw => xfa rfl (zg zz rfl) (fg_75_0 _ _ _)) hHeld ?_
  refine yv 7 rfl rfl (fun w1 hw => xld rfl (zg zz rfl) (R_sl (hw ▸ hR.drew))) hHeld ?_
  refine yv 8 rfl rfl (fun w1 hw => xmv rfl (zi t1 rfl)) hHeld ?_
  refine yv 9 rfl rfl (fun w1 hw => xia rfl (zg zz rfl) (zg zz rfl) (R_ix hi hR.len _)) hHeld ?_
  refine yv 10 rfl rfl (fun w1 hw => xfa rfl (zg zz rfl) (fg_128_2 _ _ _)) hHeld ?_
  refine yv 11 rfl rfl (fun w1 hw => xld rfl (zg zz rfl) (R_up (hw ▸ hR.drew) hi)) hHeld ?_
  refine yv 12 rfl rfl (fun w1 hw => xia rfl (zg zz rfl) (zg zz rfl) (R_ix hu hR.len _)) hHeld ?_
  refine yv 13 rfl rfl (fun w1 hw => xfa rfl (zg zz rfl) (fg_128_3 _ _ _)) hHeld ?_
  refine yv 14 rfl rfl (fun w1 hw => xia rfl (zg zz rfl) rfl (ix_a0 _ _)) hHeld ?_
  refine yv 15 rfl rfl (fun w1 hw => xld rfl (zg zz rfl) (R_dn (hw ▸ hR.drew) hu false)) hHeld ?_
  refine yv 16 rfl rfl (fun w1 hw => xmv rfl (zi t1 rfl)) hHeld ?_
  refine yv (v := .bool r) 17 rfl rfl (fun w1 hw => ex_eql rfl (zg zz rfl) (zg zz rfl) hr) hHeld ?_
  exact ye rfl (h _ _ (hHeld) rfl)
def hang0_o0 : Oper := ⟨some 8, .move (.tmp 0), 129, "row.go:142", #[], none⟩
def hang0_o1 : Oper := ⟨some 9, .nilCheck (.tmp 8), 0, "row.go:142", #[⟨0, .data⟩], none⟩
def hang0_o2 : Oper := ⟨some 10, .fieldAddr 75 (.tmp 9) 0, 0, "row.go:142", #[⟨1, .data⟩], none⟩
def hang0_o3 : Oper := ⟨some 11, .load 73 (.tmp 10), 73, "row.go:142", #[⟨2, .data⟩], none⟩
def hang0_o4 : Oper := ⟨some 12, .move (.tmp 1), 3, "row.go:142", #[], none⟩
def hang0_o5 : Oper := ⟨some 13, .move (.tmp 2), 3, "row.go:142", #[], none⟩
def hang0_o6 : Oper := ⟨some 14, .move (.tmp 3), 3, "row.go:142", #[], none⟩
def hang0_o7 : Oper := ⟨some 15, .indexAddr 73 (.tmp 11) (.tmp 12), 0, "row.go:142", #[⟨3, .data⟩, ⟨4, .data⟩], none⟩
def hang0_o8 : Oper := ⟨some 16, .fieldAddr 128 (.tmp 15) 3, 0, "row.go:142", #[⟨7, .data⟩], none⟩
def hang0_o9 : Oper := ⟨some 17, .indexAddr 126 (.tmp 16) (.tmp 13), 0, "row.go:142", #[⟨8, .data⟩, ⟨5, .data⟩, ⟨0, .phase⟩, ⟨1, .phase⟩, ⟨2, .phase⟩, ⟨3, .phase⟩, ⟨4, .phase⟩, ⟨5, .phase⟩, ⟨6, .phase⟩], none⟩
def hang0_o10 : Oper := ⟨none, .store 3 (.tmp 17) (.tmp 14), 0, "row.go:142", #[⟨9, .data⟩, ⟨6, .data⟩, ⟨0, .phase⟩, ⟨1, .phase⟩, ⟨2, .phase⟩, ⟨3, .phase⟩, ⟨4, .phase⟩, ⟨5, .phase⟩, ⟨6, .phase⟩], none⟩
def hang0_ops : Array Oper := #[hang0_o0, hang0_o1, hang0_o2, hang0_o3, hang0_o4, hang0_o5, hang0_o6, hang0_o7, hang0_o8, hang0_o9, hang0_o10]
theorem hang0 {rb ro g cap : Nat} {L : List Sp} {u p : Nat} {b : Bool} {w2 : World} (a : Act) (w : World) (Q : Exit → Act → World → Prop) (zz : a.tmps.size = 28)
    (t0 : a.tmps.getD 0 undef = .pointer (some ⟨rb, ro, none⟩))
    (t1 : a.tmps.getD 1 undef = .int .i64 (u : Int))
    (t2 : a.tmps.getD 2 undef = .int .i64 (nb b : Int))
    (t3 : a.tmps.getD 3 undef = .int .i64 (p : Int))
    (hR : SqAt w rb ro g cap L) (hu : u < L.length) (ES : (Instr.storeAt 3 (.pointer (some ⟨g, 73 * u + 69 + nb b, none⟩)) (.int .i64 (p : Int))).run Tryz.prog w = .ok () w2)
    (h : ∀ (a' : Act) (w' : World), w' = w2 → a' = ((((((((((a).put (some 8) (.pointer (some ⟨rb, ro, none⟩))).put (some 9) (.pointer (some ⟨rb, ro, none⟩))).put (some 10) (.pointer (some ⟨rb, ro + 0, none⟩))).put (some 11) (.slice (some ⟨g, 0, none⟩) (L).length cap)).put (some 12) (.int .i64 (u : Int))).put (some 13) (.int .i64 (nb b : Int))).put (some 14) (.int .i64 (p : Int))).put (some 15) (.pointer (some ⟨g, 73 * u, none⟩))).put (some 16) (.pointer (some ⟨g, 73 * u + 69, none⟩))).put (some 17) (.pointer (some ⟨g, 73 * u + 69 + nb b, none⟩)) → Q .normal a' w') :
    (Code.region 0 hang0_ops false).wp Tryz.prog Q a w := by
  refine z0 rfl ?_
  refine zv rfl (xmv rfl (zi t0 rfl)) ?_
  refine zv rfl (xnc rfl (zg zz rfl)) ?_
  refine zv rfl (xfa rfl (zg zz rfl) (fg_75_0 _ _ _)) ?_
  refine zv rfl (xld rfl (zg zz rfl) (R_sl hR)) ?_
  refine zv rfl (xmv rfl (zi t1 rfl)) ?_
  refine zv rfl (xmv rfl (zi t2 rfl)) ?_
  refine zv rfl (xmv rfl (zi t3 rfl)) ?_
  refine zv rfl (xia rfl (zg zz rfl) (zg zz rfl) (R_ix hu hR.len _)) ?_
  refine zv rfl (xfa rfl (zg zz rfl) (fg_128_3 _ _ _)) ?_
  refine zv rfl (xia rfl (zg zz rfl) (zg zz rfl) (ix_ar _ b _)) ?_
  refine zs rfl (exec_store rfl (zg zz rfl) (zg zz rfl) ES) ?_
  exact ze rfl (h _ _ (rfl) rfl)
def hang2_o0 : Oper := ⟨some 20, .move (.tmp 0), 129, "row.go:144", #[], none⟩
def hang2_o1 : Oper := ⟨some 21, .nilCheck (.tmp 20), 0, "row.go:144", #[⟨0, .data⟩], none⟩
def hang2_o2 : Oper := ⟨some 22, .fieldAddr 75 (.tmp 21) 0, 0, "row.go:144", #[⟨1, .data⟩], none⟩
def hang2_o3 : Oper := ⟨some 23, .load 73 (.tmp 22), 73, "row.go:144", #[⟨2, .data⟩], none⟩
def hang2_o4 : Oper := ⟨some 24, .move (.tmp 3), 3, "row.go:144", #[], none⟩
def hang2_o5 : Oper := ⟨some 25, .move (.tmp 1), 3, "row.go:144", #[], none⟩
def hang2_o6 : Oper := ⟨some 26, .indexAddr 73 (.tmp 23) (.tmp 24), 0, "row.go:144", #[⟨3, .data⟩, ⟨4, .data⟩, ⟨0, .phase⟩, ⟨1, .phase⟩, ⟨2, .phase⟩, ⟨3, .phase⟩, ⟨4, .phase⟩, ⟨5, .phase⟩], none⟩
def hang2_o7 : Oper := ⟨some 27, .fieldAddr 128 (.tmp 26) 2, 0, "row.go:144", #[⟨6, .data⟩, ⟨0, .phase⟩, ⟨1, .phase⟩, ⟨2, .phase⟩, ⟨3, .phase⟩, ⟨4, .phase⟩, ⟨5, .phase⟩], none⟩
def hang2_o8 : Oper := ⟨none, .store 3 (.tmp 27) (.tmp 25), 0, "row.go:144", #[⟨7, .data⟩, ⟨5, .data⟩, ⟨0, .phase⟩, ⟨1, .phase⟩, ⟨2, .phase⟩, ⟨3, .phase⟩, ⟨4, .phase⟩, ⟨5, .phase⟩], none⟩
def hang2_ops : Array Oper := #[hang2_o0, hang2_o1, hang2_o2, hang2_o3, hang2_o4, hang2_o5, hang2_o6, hang2_o7, hang2_o8]
theorem hang2 {rb ro g cap : Nat} {L : List Sp} {u p : Nat} {w2 : World} (a : Act) (w : World) (Q : Exit → Act → World → Prop) (zz : a.tmps.size = 28)
    (t0 : a.tmps.getD 0 undef = .pointer (some ⟨rb, ro, none⟩))
    (t1 : a.tmps.getD 1 undef = .int .i64 (u : Int))
    (t3 : a.tmps.getD 3 undef = .int .i64 (p : Int))
    (hR : SqAt w rb ro g cap L) (hp : p < L.length) (ES : (Instr.storeAt 3 (.pointer (some ⟨g, 73 * p + 68, none⟩)) (.int .i64 (u : Int))).run Tryz.prog w = .ok () w2)
    (h : ∀ (a' : Act) (w' : World), w' = w2 → a' = ((((((((a).put (some 20) (.pointer (some ⟨rb, ro, none⟩))).put (some 21) (.pointer (some ⟨rb, ro, none⟩))).put (some 22) (.pointer (some ⟨rb, ro + 0, none⟩))).put (some 23) (.slice (some ⟨g, 0, none⟩) (L).length cap)).put (some 24) (.int .i64 (p : Int))).put (some 25) (.int .i64 (u : Int))).put (some 26) (.pointer (some ⟨g, 73 * p, none⟩))).put (some 27) (.pointer (some ⟨g, 73 * p + 68, none⟩)) → Q .normal a' w') :
    (Code.region 2 hang2_ops false).wp Tryz.prog Q a w := by
  refine z0 rfl ?_
  refine zv rfl (xmv rfl (zi t0 rfl)) ?_
  refine zv rfl (xnc rfl (zg zz rfl)) ?_
  refine zv rfl (xfa rfl (zg zz rfl) (fg_75_0 _ _ _)) ?_
  refine zv rfl (xld rfl (zg zz rfl) (R_sl hR)) ?_
  refine zv rfl (xmv rfl (zi t3 rfl)) ?_
  refine zv rfl (xmv rfl (zi t1 rfl)) ?_
  refine zv rfl (xia rfl (zg zz rfl) (zg zz rfl) (R_ix hp hR.len _)) ?_
  refine zv rfl (xfa rfl (zg zz rfl) (fg_128_2 _ _ _)) ?_
  refine zs rfl (exec_store rfl (zg zz rfl) (zg zz rfl) ES) ?_
  exact ze rfl (h _ _ (rfl) rfl)
def first1_o0 : Oper := ⟨some 5, .move (.tmp 0), 129, "row.go:126", #[], none⟩
def first1_o1 : Oper := ⟨some 6, .nilCheck (.tmp 5), 0, "row.go:126", #[⟨0, .data⟩], none⟩
def first1_o2 : Oper := ⟨some 7, .fieldAddr 75 (.tmp 6) 0, 0, "row.go:126", #[⟨1, .data⟩], none⟩
def first1_o3 : Oper := ⟨some 8, .load 73 (.tmp 7), 73, "row.go:126", #[⟨2, .data⟩], none⟩
def first1_o4 : Oper := ⟨some 9, .move (.tmp 1), 3, "row.go:126", #[], none⟩
def first1_o5 : Oper := ⟨some 10, .indexAddr 73 (.tmp 8) (.tmp 9), 0, "row.go:126", #[⟨3, .data⟩, ⟨4, .data⟩], none⟩
def first1_o6 : Oper := ⟨some 11, .fieldAddr 128 (.tmp 10) 3, 0, "row.go:126", #[⟨5, .data⟩], none⟩
def first1_o7 : Oper := ⟨some 12, .indexAddr 126 (.tmp 11) (Operand.const (Value.int IntKind.i64 0)), 0, "row.go:126", #[⟨6, .data⟩], none⟩
def first1_o8 : Oper := ⟨some 13, .load 3 (.tmp 12), 3, "row.go:126", #[⟨7, .data⟩], none⟩
def first1_o9 : Oper := ⟨some 14, .binOp BinOp.neq 3 (.tmp 13) (Operand.const (Value.int IntKind.i64 0)) 3, 4, "row.go:126", #[⟨8, .data⟩], none⟩
def first1_ops : Array Oper := #[first1_o0, first1_o1, first1_o2, first1_o3, first1_o4, first1_o5, first1_o6, first1_o7, first1_o8, first1_o9]
theorem first1 {rb ro g cap : Nat} {L : List Sp} {i : Nat} {r : Bool} (a : Act) (w : World) (Q : Exit → Act → World → Prop) (zz : a.tmps.size = 25)
    (t0 : a.tmps.getD 0 undef = .pointer (some ⟨rb, ro, none⟩))
    (t1 : a.tmps.getD 1 undef = .int .i64 (i : Int))
    (hR : SqAt w rb ro g cap L) (hi : i < L.length) (hr : decide ((dn (gt L i) false : Int) ≠ 0) = r)
    (h : ∀ (a' : Act) (w' : World), w' = w → a' = ((((((((((a).put (some 5) (.pointer (some ⟨rb, ro, none⟩))).put (some 6) (.pointer (some ⟨rb, ro, none⟩))).put (some 7) (.pointer (some ⟨rb, ro + 0, none⟩))).put (some 8) (.slice (some ⟨g, 0, none⟩) (L).length cap)).put (some 9) (.int .i64 (i : Int))).put (some 10) (.pointer (some ⟨g, 73 * i, none⟩))).put (some 11) (.pointer (some ⟨g, 73 * i + 69, none⟩))).put (some 12) (.pointer (some ⟨g, 73 * i + 69 + nb false, none⟩))).put (some 13) (.int .i64 (dn (gt L i) false : Int))).put (some 14) (.bool r) → Q .normal a' w') :
    (Code.region 1 first1_ops false).wp Tryz.prog Q a w := by
  refine z0 rfl ?_
  refine zv rfl (xmv rfl (zi t0 rfl)) ?_
  refine zv rfl (xnc rfl (zg zz rfl)) ?_
  refine zv rfl (xfa rfl (zg zz rfl) (fg_75_0 _ _ _)) ?_
  refine zv rfl (xld rfl (zg zz rfl) (R_sl hR)) ?_
  refine zv rfl (xmv rfl (zi t1 rfl)) ?_
  refine zv rfl (xia rfl (zg zz rfl) (zg zz rfl) (R_ix hi hR.len _)) ?_
  refine zv rfl (xfa rfl (zg zz rfl) (fg_128_3 _ _ _)) ?_
  refine zv rfl (xia rfl (zg zz rfl) rfl (ix_a0 _ _)) ?_
  refine zv rfl (xld rfl (zg zz rfl) (R_dn hR hi false)) ?_
  refine zv (v := .bool r) rfl (ex_neq rfl (zg zz rfl) rfl hr) ?_
  exact ze rfl (h _ _ (rfl) rfl)
def first2_o0 : Oper := ⟨some 15, .move (.tmp 0), 129, "row.go:127", #[], none⟩
def first2_o1 : Oper := ⟨some 16, .nilCheck (.tmp 15), 0, "row.go:127", #[⟨0, .data⟩], none⟩
def first2_o2 : Oper := ⟨some 17, .fieldAddr 75 (.tmp 16) 0, 0, "row.go:127", #[⟨1, .data⟩], none⟩
def first2_o3 : Oper := ⟨some 18, .load 73 (.tmp 17), 73, "row.go:127", #[⟨2, .data⟩], none⟩
def first2_o4 : Oper := ⟨some 19, .move (.tmp 1), 3, "row.go:127", #[], none⟩
def first2_o5 : Oper := ⟨some 20, .indexAddr 73 (.tmp 18) (.tmp 19), 0, "row.go:127", #[⟨3, .data⟩, ⟨4, .data⟩], none⟩
def first2_o6 : Oper := ⟨some 21, .fieldAddr 128 (.tmp 20) 3, 0, "row.go:127", #[⟨5, .data⟩], none⟩
def first2_o7 : Oper := ⟨some 22, .indexAddr 126 (.tmp 21) (Operand.const (Value.int IntKind.i64 0)), 0, "row.go:127", #[⟨6, .data⟩], none⟩
def first2_o8 : Oper := ⟨some 23, .load 3 (.tmp 22), 3, "row.go:127", #[⟨7, .data⟩], none⟩
def first2_o9 : Oper := ⟨some 1, .assign (.tmp 23), 3, "row.go:127", #[⟨8, .data⟩, ⟨0, .phase⟩, ⟨1, .phase⟩, ⟨2, .phase⟩, ⟨3, .phase⟩, ⟨4, .phase⟩, ⟨5, .phase⟩, ⟨6, .phase⟩, ⟨7, .phase⟩, ⟨8, .phase⟩], none⟩
def first2_ops : Array Oper := #[first2_o0, first2_o1, first2_o2, first2_o3, first2_o4, first2_o5, first2_o6, first2_o7, first2_o8, first2_o9]
theorem first2 {rb ro g cap : Nat} {L : List Sp} {i : Nat} (a : Act) (w : World) (Q : Exit → Act → World → Prop) (zz : a.tmps.size = 25)
    (t0 : a.tmps.getD 0 undef = .pointer (some ⟨rb, ro, none⟩))
    (t1 : a.tmps.getD 1 undef = .int .i64 (i : Int))
    (hR : SqAt w rb ro g cap L) (hi : i < L.length)
    (h : ∀ (a' : Act) (w' : World), w' = w → a' = ((((((((((a).put (some 15) (.pointer (some ⟨rb, ro, none⟩))).put (some 16) (.pointer (some ⟨rb, ro, none⟩))).put (some 17) (.pointer (some ⟨rb, ro + 0, none⟩))).put (some 18) (.slice (some ⟨g, 0, none⟩) (L).length cap)).put (some 19) (.int .i64 (i : Int))).put (some 20) (.pointer (some ⟨g, 73 * i, none⟩))).put (some 21) (.pointer (some ⟨g, 73 * i + 69, none⟩))).put (some 22) (.pointer (some ⟨g, 73 * i + 69 + nb false, none⟩))).put (some 23) (.int .i64 (dn (gt L i) false : Int))).put (some 1) (.int .i64 (dn (gt L i) false : Int)) → Q .normal a' w') :
    (Code.region 2 first2_ops false).wp Tryz.prog Q a w := by
  refine z0 rfl ?_
  refine zv rfl (xmv rfl (zi t0 rfl)) ?_
  refine zv rfl (xnc rfl (zg zz rfl)) ?_
  refine zv rfl (xfa rfl (zg zz rfl) (fg_75_0 _ _ _)) ?_
  refine zv rfl (xld rfl (zg zz rfl) (R_sl hR)) ?_
  refine zv rfl (xmv rfl (zi t1 rfl)) ?_
  refine zv rfl (xia rfl (zg zz rfl) (zg zz rfl) (R_ix hi hR.len _)) ?_
  refine zv rfl (xfa rfl (zg zz rfl) (fg_128_3 _ _ _)) ?_
  refine zv rfl (xia rfl (zg zz rfl) rfl (ix_a0 _ _)) ?_
  refine zv rfl (xld rfl (zg zz rfl) (R_dn hR hi false)) ?_
  refine zv rfl (xas rfl (zg zz rfl)) ?_
  exact ze rfl (h _ _ (rfl) rfl)
def replace0_o0 : Oper := ⟨some 6, .move (.tmp 0), 129, "row.go:150", #[], none⟩
def replace0_o1 : Oper := ⟨some 7, .move (.tmp 0), 129, "row.go:150", #[], none⟩
def replace0_o2 : Oper := ⟨some 8, .nilCheck (.tmp 7), 0, "row.go:150", #[⟨1, .data⟩], none⟩
def replace0_o3 : Oper := ⟨some 9, .fieldAddr 75 (.tmp 8) 0, 0, "row.go:150", #[⟨2, .data⟩], none⟩
def replace0_o4 : Oper := ⟨some 10, .load 73 (.tmp 9), 73, "row.go:150", #[⟨3, .data⟩], none⟩
def replace0_o5 : Oper := ⟨some 11, .move (.tmp 1), 3, "row.go:150", #[], none⟩
def replace0_o6 : Oper := ⟨some 12, .indexAddr 73 (.tmp 10) (.tmp 11), 0, "row.go:150", #[⟨4, .data⟩, ⟨5, .data⟩], none⟩
def replace0_o7 : Oper := ⟨some 13, .fieldAddr 128 (.tmp 12) 2, 0, "row.go:150", #[⟨6, .data⟩], none⟩
def replace0_o8 : Oper := ⟨some 14, .load 3 (.tmp 13), 3, "row.go:150", #[⟨7, .data⟩], none⟩
def replace0_o9 : Oper := ⟨some 15, .move (.tmp 0), 129, "row.go:150", #[], none⟩
def replace0_o10 : Oper := ⟨some 16, .move (.tmp 1), 3, "row.go:150", #[], none⟩
def replace0_o11 : Oper := ⟨some 17, .call { callee := Callee.value (Operand.func 127), args := #[.tmp 15, .tmp 16], argTypes := #[129, 3] }, 3, "row.go:150", #[⟨9, .data⟩, ⟨10, .data⟩], none⟩
def replace0_o12 : Oper := ⟨some 18, .move (.tmp 2), 3, "row.go:150", #[], none⟩
def replace0_o13 : Oper := ⟨some 19, .call { callee := Callee.value (Operand.func 72), args := #[.tmp 6, .tmp 14, .tmp 17, .tmp 18], argTypes := #[129, 3, 3, 3] }, 0, "row.go:150", #[⟨0, .data⟩, ⟨8, .data⟩, ⟨11, .data⟩, ⟨12, .data⟩, ⟨11, .chain⟩], none⟩
def replace0_ops : Array Oper := #[replace0_o0, replace0_o1, replace0_o2, replace0_o3, replace0_o4, replace0_o5, replace0_o6, replace0_o7, replace0_o8, replace0_o9, replace0_o10, replace0_o11, replace0_o12, replace0_o13]
theorem replace0 {rb ro g cap : Nat} {L : List Sp} {i p : Nat} {s : Bool} (Fin : World → Prop) (a : Act) (w : World) (Q : Exit → Act → World → Prop) (zz : a.tmps.size = 20)
    (t0 : a.tmps.getD 0 undef = .pointer (some ⟨rb, ro, none⟩))
    (t1 : a.tmps.getD 1 undef = .int .i64 (i : Int))
    (t2 : a.tmps.getD 2 undef = .int .i64 (p : Int))
    (hi : i < L.length) (hl : L.length ≤ 1400000000000) (h0 : RS rb ro g cap i L w.drew) (CS : Calls Tryz.prog 127 #[.pointer (some ⟨rb, ro, none⟩), .int .i64 (i : Int)] w.drew fun e w' => e = .returned (.int .i64 (nb s : Int)) ∧ RS rb ro g cap i L w' ∧ Calls Tryz.prog 72 #[.pointer (some ⟨rb, ro, none⟩), .int .i64 ((gt L i).up : Int), .int .i64 (nb s : Int), .int .i64 (p : Int)] w' fun e2 w2 => e2 = .returned (.tuple #[]) ∧ RS rb ro g cap i L w2 ∧ Fin w2)
    (h : ∀ (a' : Act) (w' : World), Fin w' → a' = ((((((((((((((a).put (some 6) (.pointer (some ⟨rb, ro, none⟩))).put (some 7) (.pointer (some ⟨rb, ro, none⟩))).put (some 8) (.pointer (some ⟨rb, ro, none⟩))).put (some 9) (.pointer (some ⟨rb, ro + 0, none⟩))).put (some 10) (.slice (some ⟨g, 0, none⟩) L.length cap)).put (some 11) (.int .i64 (i : Int))).put (some 12) (.pointer (some ⟨g, 73 * i, none⟩))).put (some 13) (.pointer (some ⟨g, 73 * i + 68, none⟩))).put (some 14) (.int .i64 ((gt L i).up : Int))).put (some 15) (.pointer (some ⟨rb, ro, none⟩))).put (some 16) (.int .i64 (i : Int))).put (some 18) (.int .i64 (p : Int))).put (some 17) (.int .i64 (nb s : Int))).put (some 19) (.tuple #[]) → Q .normal a' w') :
    (Code.region 0 replace0_ops true).wp Tryz.prog Q a w := by
  refine y0 (fun w' => (Instr.loadAt 73 (.pointer (some ⟨rb, ro + 0, none⟩))).run Tryz.prog w' = .ok (.slice (some ⟨g, 0, none⟩) L.length cap) w' ∧ (Instr.loadAt 3 (.pointer (some ⟨g, 73 * i + 68, none⟩))).run Tryz.prog w' = .ok (.int .i64 ((gt L i).up : Int)) w') (h0) (fun hHeld => ?_)
  refine yv 0 rfl rfl (fun w1 hw => xmv rfl (zi t0 rfl)) hHeld ?_
  refine yv 1 rfl rfl (fun w1 hw => xmv rfl (zi t0 rfl)) hHeld ?_
  refine yv 2 rfl rfl (fun w1 hw => xnc rfl (zg zz rfl)) hHeld ?_
  refine yv 3 rfl rfl (fun w1 hw => xfa rfl (zg zz rfl) (fg_75_0 _ _ _)) hHeld ?_
  refine yv 4 rfl rfl (fun w1 hw => xld rfl (zg zz rfl) hw.1) hHeld ?_
  refine yv 5 rfl rfl (fun w1 hw => xmv rfl (zi t1 rfl)) hHeld ?_
  refine yv 6 rfl rfl (fun w1 hw => xia rfl (zg zz rfl) (zg zz rfl) (R_ix hi hl _)) hHeld ?_
  refine yv 7 rfl rfl (fun w1 hw => xfa rfl (zg zz rfl) (fg_128_2 _ _ _)) hHeld ?_
  refine yv 8 rfl rfl (fun w1 hw => xld rfl (zg zz rfl) hw.2) hHeld ?_
  refine yv 9 rfl rfl (fun w1 hw => xmv rfl (zi t0 rfl)) hHeld ?_
  refine yv 10 rfl rfl (fun w1 hw => xmv rfl (zi t1 rfl)) hHeld ?_
  refine yv 12 rfl rfl (fun w1 hw => xmv rfl (zi t2 rfl)) hHeld ?_
  refine yc 11 rfl rfl (exec_c2 rfl (zg zz rfl) (zg zz rfl)) (CS) (fun e x11 hx => ?_)
  obtain ⟨rfl, S1, CH⟩ := hx
  refine ⟨_, rfl, S1, fun hHeld => ?_⟩
  refine yc 13 rfl rfl (exec_c4 rfl (zg zz rfl) (zg zz rfl) (zg zz rfl) (zg zz rfl)) (CH) (fun e x13 hx => ?_)
  obtain ⟨rfl, S2, HF⟩ := hx
  refine ⟨_, rfl, S2, fun hHeld => ?_⟩
  exact ye rfl (h _ _ (HF) rfl)
def tally3_o0 : Oper := ⟨some 8, .move (.tmp 0), 129, "row.go:163", #[], none⟩
def tally3_o1 : Oper := ⟨some 9, .nilCheck (.tmp 8), 0, "row.go:163", #[⟨0, .data⟩], none⟩
def tally3_o2 : Oper := ⟨some 10, .fieldAddr 75 (.tmp 9) 0, 0, "row.go:163", #[⟨1, .data⟩], none⟩
def tally3_o3 : Oper := ⟨some 11, .load 73 (.tmp 10), 73, "row.go:163", #[⟨2, .data⟩], none⟩
def tally3_o4 : Oper := ⟨some 12, .move (.tmp 1), 3, "row.go:163", #[], none⟩
def tally3_o5 : Oper := ⟨some 13, .move (.tmp 4), 3, "row.go:163", #[], none⟩
def tally3_o6 : Oper := ⟨some 14, .move (.tmp 0), 129, "row.go:163", #[], none⟩
def tally3_o7 : Oper := ⟨some 15, .move (.tmp 1), 3, "row.go:163", #[], none⟩
def tally3_o8 : Oper := ⟨some 16, .move (.tmp 4), 3, "row.go:163", #[], none⟩
def tally3_o9 : Oper := ⟨some 17, .call { callee := Callee.value (Operand.func 123), args := #[.tmp 14, .tmp 15, .tmp 16], argTypes := #[129, 3, 3] }, 3, "row.go:163", #[⟨6, .data⟩, ⟨7, .data⟩, ⟨8, .data⟩], none⟩
def tally3_o10 : Oper := ⟨some 18, .move (.tmp 0), 129, "row.go:163", #[], none⟩
def tally3_o11 : Oper := ⟨some 19, .nilCheck (.tmp 18), 0, "row.go:163", #[⟨10, .data⟩], none⟩
def tally3_o12 : Oper := ⟨some 20, .fieldAddr 75 (.tmp 19) 0, 0, "row.go:163", #[⟨11, .data⟩], none⟩
def tally3_o13 : Oper := ⟨some 21, .load 73 (.tmp 20), 73, "row.go:163", #[⟨12, .data⟩], none⟩
def tally3_o14 : Oper := ⟨some 22, .move (.tmp 0), 129, "row.go:163", #[], none⟩
def tally3_o15 : Oper := ⟨some 23, .nilCheck (.tmp 22), 0, "row.go:163", #[⟨14, .data⟩], none⟩
def tally3_o16 : Oper := ⟨some 24, .fieldAddr 75 (.tmp 23) 0, 0, "row.go:163", #[⟨15, .data⟩], none⟩
def tally3_o17 : Oper := ⟨some 25, .load 73 (.tmp 24), 73, "row.go:163", #[⟨16, .data⟩], none⟩
def tally3_o18 : Oper := ⟨some 26, .move (.tmp 1), 3, "row.go:163", #[], none⟩
def tally3_o19 : Oper := ⟨some 27, .indexAddr 73 (.tmp 25) (.tmp 26), 0, "row.go:163", #[⟨17, .data⟩, ⟨18, .data⟩], none⟩
def tally3_o20 : Oper := ⟨some 28, .fieldAddr 128 (.tmp 27) 3, 0, "row.go:163", #[⟨19, .data⟩], none⟩
def tally3_o21 : Oper := ⟨some 29, .indexAddr 126 (.tmp 28) (Operand.const (Value.int IntKind.i64 1)), 0, "row.go:163", #[⟨20, .data⟩], none⟩
def tally3_o22 : Oper := ⟨some 30, .load 3 (.tmp 29), 3, "row.go:163", #[⟨21, .data⟩], none⟩
def tally3_o23 : Oper := ⟨some 31, .move (.tmp 4), 3, "row.go:163", #[], none⟩
def tally3_o24 : Oper := ⟨some 32, .indexAddr 73 (.tmp 21) (.tmp 30), 0, "row.go:163", #[⟨13, .data⟩, ⟨22, .data⟩], none⟩
def tally3_o25 : Oper := ⟨some 33, .fieldAddr 128 (.tmp 32) 4, 0, "row.go:163", #[⟨24, .data⟩], none⟩
def tally3_o26 : Oper := ⟨some 34, .indexAddr 126 (.tmp 33) (.tmp 31), 0, "row.go:163", #[⟨25, .data⟩, ⟨23, .data⟩], none⟩
def tally3_o27 : Oper := ⟨some 35, .load 3 (.tmp 34), 3, "row.go:163", #[⟨26, .data⟩], none⟩
def tally3_o28 : Oper := ⟨some 36, .binOp BinOp.add 3 (.tmp 17) (.tmp 35) 3, 3, "row.go:163", #[⟨9, .data⟩, ⟨27, .data⟩], none⟩
def tally3_o29 : Oper := ⟨some 37, .indexAddr 73 (.tmp 11) (.tmp 12), 0, "row.go:163", #[⟨3, .data⟩, ⟨4, .data⟩], none⟩
def tally3_o30 : Oper := ⟨some 38, .fieldAddr 128 (.tmp 37) 4, 0, "row.go:163", #[⟨29, .data⟩], none⟩
def tally3_o31 : Oper := ⟨some 39, .indexAddr 126 (.tmp 38) (.tmp 13), 0, "row.go:163", #[⟨30, .data⟩, ⟨5, .data⟩, ⟨0, .phase⟩, ⟨1, .phase⟩, ⟨2, .phase⟩, ⟨3, .phase⟩, ⟨4, .phase⟩, ⟨5, .phase⟩, ⟨6, .phase⟩, ⟨7, .phase⟩, ⟨8, .phase⟩, ⟨9, .phase⟩, ⟨10, .phase⟩, ⟨11, .phase⟩, ⟨12, .phase⟩, ⟨13, .phase⟩, ⟨14, .phase⟩, ⟨15, .phase⟩, ⟨16, .phase⟩, ⟨17, .phase⟩, ⟨18, .phase⟩, ⟨19, .phase⟩, ⟨20, .phase⟩, ⟨21, .phase⟩, ⟨22, .phase⟩, ⟨23, .phase⟩, ⟨24, .phase⟩, ⟨25, .phase⟩, ⟨26, .phase⟩, ⟨27, .phase⟩, ⟨28, .phase⟩], none⟩
def tally3_o32 : Oper := ⟨none, .store 3 (.tmp 39) (.tmp 36), 0, "row.go:163", #[⟨31, .data⟩, ⟨28, .data⟩, ⟨9, .chain⟩, ⟨0, .phase⟩, ⟨1, .phase⟩, ⟨2, .phase⟩, ⟨3, .phase⟩, ⟨4, .phase⟩, ⟨5, .phase⟩, ⟨6, .phase⟩, ⟨7, .phase⟩, ⟨8, .phase⟩, ⟨9, .phase⟩, ⟨10, .phase⟩, ⟨11, .phase⟩, ⟨12, .phase⟩, ⟨13, .phase⟩, ⟨14, .phase⟩, ⟨15, .phase⟩, ⟨16, .phase⟩, ⟨17, .phase⟩, ⟨18, .phase⟩, ⟨19, .phase⟩, ⟨20, .phase⟩, ⟨21, .phase⟩, ⟨22, .phase⟩, ⟨23, .phase⟩, ⟨24, .phase⟩, ⟨25, .phase⟩, ⟨26, .phase⟩, ⟨27, .phase⟩, ⟨28, .phase⟩], none⟩
def tally3_ops : Array Oper := #[tally3_o0, tally3_o1, tally3_o2, tally3_o3, tally3_o4, tally3_o5, tally3_o6, tally3_o7, tally3_o8, tally3_o9, tally3_o10, tally3_o11, tally3_o12, tally3_o13, tally3_o14, tally3_o15, tally3_o16, tally3_o17, tally3_o18, tally3_o19, tally3_o20, tally3_o21, tally3_o22, tally3_o23, tally3_o24, tally3_o25, tally3_o26, tally3_o27, tally3_o28, tally3_o29, tally3_o30, tally3_o31, tally3_o32]
theorem tally3 {rb ro g cap : Nat} {L : List Sp} {i u : Nat} {c : Bool} (Fin : World → Prop) (a : Act) (w : World) (Q : Exit → Act → World → Prop) (zz : a.tmps.size = 41)
    (t0 : a.tmps.getD 0 undef = .pointer (some ⟨rb, ro, none⟩))
    (t1 : a.tmps.getD 1 undef = .int .i64 (i : Int))
    (t4 : a.tmps.getD 4 undef = .int .i64 (nb c : Int))
    (hi : i < L.length) (hl : L.length ≤ 1400000000000) (hd : dn (gt L i) true < L.length) (h0 : TS rb ro g cap i c L w.drew) (hs : u + ct (gt L (dn (gt L i) true)) c ≤ 9223372036854775807) (CU : Calls Tryz.prog 123 #[.pointer (some ⟨rb, ro, none⟩), .int .i64 (i : Int), .int .i64 (nb c : Int)] w.drew fun e w' => e = .returned (.int .i64 (u : Int)) ∧ TS rb ro g cap i c L w' ∧ ∃ w2, (Instr.storeAt 3 (.pointer (some ⟨g, 73 * i + 71 + nb c, none⟩)) (.int .i64 ((u + ct (gt L (dn (gt L i) true)) c : Nat) : Int))).run Tryz.prog w' = .ok () w2 ∧ TS rb ro g cap i c L w2 ∧ Fin w2)
    (h : ∀ (a' : Act) (w' : World), Fin w' → a' = ((((((((((((((((((((((((((((((((a).put (some 8) (.pointer (some ⟨rb, ro, none⟩))).put (some 9) (.pointer (some ⟨rb, ro, none⟩))).put (some 10) (.pointer (some ⟨rb, ro + 0, none⟩))).put (some 11) (.slice (some ⟨g, 0, none⟩) L.length cap)).put (some 12) (.int .i64 (i : Int))).put (some 13) (.int .i64 (nb c : Int))).put (some 14) (.pointer (some ⟨rb, ro, none⟩))).put (some 15) (.int .i64 (i : Int))).put (some 16) (.int .i64 (nb c : Int))).put (some 18) (.pointer (some ⟨rb, ro, none⟩))).put (some 19) (.pointer (some ⟨rb, ro, none⟩))).put (some 20) (.pointer (some ⟨rb, ro + 0, none⟩))).put (some 21) (.slice (some ⟨g, 0, none⟩) L.length cap)).put (some 22) (.pointer (some ⟨rb, ro, none⟩))).put (some 23) (.pointer (some ⟨rb, ro, none⟩))).put (some 24) (.pointer (some ⟨rb, ro + 0, none⟩))).put (some 25) (.slice (some ⟨g, 0, none⟩) L.length cap)).put (some 26) (.int .i64 (i : Int))).put (some 27) (.pointer (some ⟨g, 73 * i, none⟩))).put (some 28) (.pointer (some ⟨g, 73 * i + 69, none⟩))).put (some 29) (.pointer (some ⟨g, 73 * i + 69 + nb true, none⟩))).put (some 30) (.int .i64 (dn (gt L i) true : Int))).put (some 31) (.int .i64 (nb c : Int))).put (some 32) (.pointer (some ⟨g, 73 * (dn (gt L i) true), none⟩))).put (some 33) (.pointer (some ⟨g, 73 * (dn (gt L i) true) + 71, none⟩))).put (some 34) (.pointer (some ⟨g, 73 * (dn (gt L i) true) + 71 + nb c, none⟩))).put (some 35) (.int .i64 (ct (gt L (dn (gt L i) true)) c : Int))).put (some 37) (.pointer (some ⟨g, 73 * i, none⟩))).put (some 38) (.pointer (some ⟨g, 73 * i + 71, none⟩))).put (some 17) (.int .i64 (u : Int))).put (some 36) (.int .i64 ((u + ct (gt L (dn (gt L i) true)) c : Nat) : Int))).put (some 39) (.pointer (some ⟨g, 73 * i + 71 + nb c, none⟩)) → Q .normal a' w') :
    (Code.region 3 tally3_ops true).wp Tryz.prog Q a w := by
  refine y0 (fun w' => TS rb ro g cap i c L w') (h0) (fun hHeld => ?_)
  refine yv 0 rfl rfl (fun w1 hw => xmv rfl (zi t0 rfl)) hHeld ?_
  refine yv 1 rfl rfl (fun w1 hw => xnc rfl (zg zz rfl)) hHeld ?_
  refine yv 2 rfl rfl (fun w1 hw => xfa rfl (zg zz rfl) (fg_75_0 _ _ _)) hHeld ?_
  refine yv 3 rfl rfl (fun w1 hw => xld rfl (zg zz rfl) hw.1) hHeld ?_
  refine yv 4 rfl rfl (fun w1 hw => xmv rfl (zi t1 rfl)) hHeld ?_
  refine yv 5 rfl rfl (fun w1 hw => xmv rfl (zi t4 rfl)) hHeld ?_
  refine yv 6 rfl rfl (fun w1 hw => xmv rfl (zi t0 rfl)) hHeld ?_
  refine yv 7 rfl rfl (fun w1 hw => xmv rfl (zi t1 rfl)) hHeld ?_
  refine yv 8 rfl rfl (fun w1 hw => xmv rfl (zi t4 rfl)) hHeld ?_
  refine yv 10 rfl rfl (fun w1 hw => xmv rfl (zi t0 rfl)) hHeld ?_
  refine yv 11 rfl rfl (fun w1 hw => xnc rfl (zg zz rfl)) hHeld ?_
  refine yv 12 rfl rfl (fun w1 hw => xfa rfl (zg zz rfl) (fg_75_0 _ _ _)) hHeld ?_
  refine yv 13 rfl rfl (fun w1 hw => xld rfl (zg zz rfl) hw.1) hHeld ?_
  refine yv 14 rfl rfl (fun w1 hw => xmv rfl (zi t0 rfl)) hHeld ?_
  refine yv 15 rfl rfl (fun w1 hw => xnc rfl (zg zz rfl)) hHeld ?_
  refine yv 16 rfl rfl (fun w1 hw => xfa rfl (zg zz rfl) (fg_75_0 _ _ _)) hHeld ?_
  refine yv 17 rfl rfl (fun w1 hw => xld rfl (zg zz rfl) hw.1) hHeld ?_
  refine yv 18 rfl rfl (fun w1 hw => xmv rfl (zi t1 rfl)) hHeld ?_
  refine yv 19 rfl rfl (fun w1 hw => xia rfl (zg zz rfl) (zg zz rfl) (R_ix hi hl _)) hHeld ?_
  refine yv 20 rfl rfl (fun w1 hw => xfa rfl (zg zz rfl) (fg_128_3 _ _ _)) hHeld ?_
  refine yv 21 rfl rfl (fun w1 hw => xia rfl (zg zz rfl) rfl (ix_a1 _ _)) hHeld ?_
  refine yv 22 rfl rfl (fun w1 hw => xld rfl (zg zz rfl) hw.2.1) hHeld ?_
  refine yv 23 rfl rfl (fun w1 hw => xmv rfl (zi t4 rfl)) hHeld ?_
  refine yv 24 rfl rfl (fun w1 hw => xia rfl (zg zz rfl) (zg zz rfl) (R_ix hd hl _)) hHeld ?_
  refine yv 25 rfl rfl (fun w1 hw => xfa rfl (zg zz rfl) (fg_128_4 _ _ _)) hHeld ?_
  refine yv 26 rfl rfl (fun w1 hw => xia rfl (zg zz rfl) (zg zz rfl) (ix_ar _ c _)) hHeld ?_
  refine yv 27 rfl rfl (fun w1 hw => xld rfl (zg zz rfl) hw.2.2) hHeld ?_
  refine yv 29 rfl rfl (fun w1 hw => xia rfl (zg zz rfl) (zg zz rfl) (R_ix hi hl _)) hHeld ?_
  refine yv 30 rfl rfl (fun w1 hw => xfa rfl (zg zz rfl) (fg_128_4 _ _ _)) hHeld ?_
  refine yc 9 rfl rfl (exec_c3 rfl (zg zz rfl) (zg zz rfl) (zg zz rfl)) (CU) (fun e x9 hx => ?_)
  obtain ⟨rfl, S1, w2, ES, S2, HF⟩ := hx
  refine ⟨_, rfl, S1, fun hHeld => ?_⟩
  refine yv (v := .int .i64 ((u + ct (gt L (dn (gt L i) true)) c : Nat) : Int)) 28 rfl rfl (fun w1 hw => ex_addN rfl (zg zz rfl) (zg zz rfl) hs) hHeld ?_
  refine yv 31 rfl rfl (fun w1 hw => xia rfl (zg zz rfl) (zg zz rfl) (ix_ar _ c _)) hHeld ?_
  refine ys 32 rfl rfl (exec_store rfl (zg zz rfl) (zg zz rfl) ES) (S2) (fun hHeld => ?_)
  exact ye rfl (h _ _ (HF) rfl)
structure Fits (L : List Sp) : Prop where
  l : ∀ i, i < L.length → (gt L i).l < L.length
  r : ∀ i, i < L.length → (gt L i).r < L.length
  u : ∀ i, i < L.length → (gt L i).up < L.length
  c : ∀ i, i < L.length → ∀ w, ct (gt L i) w ≤ 2800000000000
section
variable {w : World} {rb ro g cap i : Nat} {L : List Sp}
theorem weight_any (h : SqAt w rb ro g cap L) (hi : i < L.length) (hc : ct (gt L i) false ≤ 5600000000000) : Calls Tryz.prog 124 #[.pointer (some ⟨rb, ro, none⟩), .int .i64 (i : Int)] w fun e w' => e = .returned (.int .i64 (wt L i : Int)) ∧ w' = w := by
  go_enter Tryz.func124, Tryz.ntmps124
  go_upto_region 1 with fail
  refine weight1 _ _ _ rfl rfl rfl h hi (by omega) ?_
  intro a' w1 hw ha
  subst ha
  obtain rfl : w1 = w := hw
  simp only [Act.put, List.setIfInBounds_toArray, List.set_cons_zero, List.set_cons_succ]
  go_wp2
  go_ret
  exact ⟨rfl, rfl⟩
theorem under_any {b c : Bool} (h : SqAt w rb ro g cap L) (hi : i < L.length) (hd : dn (gt L i) b < L.length) : Calls Tryz.prog 126 #[.pointer (some ⟨rb, ro, none⟩), .int .i64 (i : Int), .int .i64 (nb b : Int), .int .i64 (nb c : Int)] w fun e w' => e = .returned (.int .i64 (under L i b c : Int)) ∧ Qt w w' := by
  go_enter Tryz.func126, Tryz.ntmps126
  go_upto_region 1 with fail
  refine under1 _ _ _ rfl rfl rfl rfl rfl h hi hd ?_
  intro a' w1 hw ha
  subst ha
  simp only [Act.put, List.setIfInBounds_toArray, List.set_cons_zero, List.set_cons_succ]
  go_wp2
  go_ret
  exact ⟨rfl, by rw [hw]; exact Qt.drew w⟩
theorem own_any {c : Bool} (h : SqAt w rb ro g cap L) (hi : i < L.length) : Calls Tryz.prog 149 #[.pointer (some ⟨rb, ro, none⟩), .int .i64 (i : Int), .int .i64 (nb c : Int)] w fun e w' => e = .returned (.int .i64 (own L i c : Int)) ∧ Qt w w' := by
  cases c with
  | false =>
    have ho : own L i false = 1 := by simp [own]
    rw [ho]
    go_enter Tryz.func149, Tryz.ntmps149
    go_upto_region 1 with fail
    refine own1a (c := false) _ _ _ rfl rfl rfl rfl rfl ?_
    intro a' w1 hw ha
    subst ha
    simp only [Act.put, List.setIfInBounds_toArray, List.set_cons_zero, List.set_cons_succ]
    go_wp2
    go_ret
    exact ⟨rfl, by rw [hw]; exact Qt.refl w⟩
  | true =>
    have HO := hidMk (show own L i true = if (gt L i).sh = true then 1 else 0 from by unfold own; simp)
    go_enter Tryz.func149, Tryz.ntmps149
    go_upto_region 1 with fail
    refine own1b (c := true) _ _ _ rfl rfl rfl rfl h hi rfl ?_
    intro a' w1 hw ha
    subst ha
    replace hw : Qt w w1 := by rw [hw]; exact Qt.refl w
    simp only [Act.put, List.setIfInBounds_toArray, List.set_cons_zero, List.set_cons_succ]
    cases hs : (gt L i).sh with
    | false =>
      rw [hs] at HO
      clear hs
      go_wp2
      go_ret
      exact ⟨by rw [HO.out]; rfl, hw⟩
    | true =>
      rw [hs] at HO
      clear hs
      go_wp2
      go_ret
      exact ⟨by rw [HO.out]; rfl, hw⟩
theorem own_le (L : List Sp) (i : Nat) (c : Bool) : own L i c ≤ 1 := by unfold own; split <;> omega
theorem upTo_any {c : Bool} (h : SqAt w rb ro g cap L) (hi : i < L.length) (hd : (gt L i).l < L.length) (hc : under L i false c ≤ 2800000000000) : Calls Tryz.prog 123 #[.pointer (some ⟨rb, ro, none⟩), .int .i64 (i : Int), .int .i64 (nb c : Int)] w fun e w' => e = .returned (.int .i64 (upTo L i c : Int)) ∧ Qt w w' := by
  have ho := own_le L i c
  go_enter Tryz.func123, Tryz.ntmps123
  go_upto_region 1 with fail
  refine upTo1 (u := under L i false c) (o := own L i c) _ _ _ rfl rfl rfl rfl ?_ (by omega) ?_
  · refine (under_any (b := false) h hi hd).mono ?_
    rintro e w' ⟨rfl, q⟩
    exact ⟨rfl, q, own_any (h.qt q) hi⟩
  intro a' w1 hw ha
  subst ha
  simp only [Act.put, List.setIfInBounds_toArray, List.set_cons_zero, List.set_cons_succ]
  go_wp2
  go_ret
  exact ⟨rfl, hw⟩
theorem side_any (h : SqAt w rb ro g cap L) (hi : i < L.length) (hu : (gt L i).up < L.length) : Calls Tryz.prog 127 #[.pointer (some ⟨rb, ro, none⟩), .int .i64 (i : Int)] w fun e w' => e = .returned (.int .i64 (nb (sideOf L i) : Int)) ∧ Qt w w' := by
  have he : decide ((dn (gt L (gt L i).up) false : Int) = (i : Int)) = !(sideOf L i) := by
    unfold sideOf dn
    simp only [Bool.false_eq_true, if_false, Bool.not_not]
    rw [Bool.eq_iff_iff]
    simp
    omega
  go_enter Tryz.func127, Tryz.ntmps127
  go_upto_region 1 with fail
  refine side1 (r := !(sideOf L i)) _ _ _ rfl rfl rfl h hi hu he ?_
  intro a' w1 hw ha
  subst ha
  simp only [Act.put, List.setIfInBounds_toArray, List.set_cons_zero, List.set_cons_succ]
  replace hw : Qt w w1 := by rw [hw]; exact Qt.drew w
  clear he
  cases hs : sideOf L i
  · have HS := hidMk hs
    clear hs
    go_wp2
    go_ret
    exact ⟨by rw [HS.out]; rfl, hw⟩
  · have HS := hidMk hs
    clear hs
    go_wp2
    go_ret
    exact ⟨by rw [HS.out]; rfl, hw⟩
end
structure Did (w : World) (rb ro g cap : Nat) (L' : List Sp) (w' : World) : Prop where
  at' : SqAt w' rb ro g cap L'
  tch : Tch (fun j => j = g) w w'
  size : w'.heap.size = w.heap.size
theorem Did.refl {w : World} {rb ro g cap : Nat} {L : List Sp} (h : SqAt w rb ro g cap L) : Did w rb ro g cap L w := ⟨h, Tch.refl _ _, rfl⟩
theorem Did.trans {w w1 w2 : World} {rb ro g cap : Nat} {L1 L2 : List Sp} (h : Did w rb ro g cap L1 w1) (k : Did w1 rb ro g cap L2 w2) : Did w rb ro g cap L2 w2 := ⟨k.at', h.tch.trans k.tch, k.size.trans h.size⟩
theorem Did.qt {w w1 w2 : World} {rb ro g cap : Nat} {L1 : List Sp} (h : Did w rb ro g cap L1 w1) (q : Qt w1 w2) : Did w rb ro g cap L1 w2 := ⟨h.at'.qt q, h.tch.trans (q.tch _), q.size.trans h.size⟩
theorem Did.from {w w1 w2 : World} {rb ro g cap : Nat} {L1 : List Sp} (q : Qt w w1) (h : Did w1 rb ro g cap L1 w2) : Did w rb ro g cap L1 w2 := ⟨h.at', (q.tch _).trans h.tch, h.size.trans q.size⟩
section
variable {w : World} {rb ro g cap i : Nat} {L : List Sp}
theorem st_dn (h : SqAt w rb ro g cap L) {u : Nat} (hu : u < L.length) (b : Bool) (p : Nat) : ∃ w', (Instr.storeAt 3 (.pointer (some ⟨g, 73 * u + 69 + nb b, none⟩)) (.int .i64 (p : Int))).run Tryz.prog w = .ok () w' ∧ Did w rb ro g cap (hangD L u b p) w' := by
  obtain ⟨w', e, a, t, z⟩ := h.num (k := 2 + nb b) (t := 3) (v := .int .i64 (p : Int)) hu (setDn · b p) (setDn_up _ _ _).2.2.1 (by cases b <;> rfl) (by cases b <;> simp [nb]) (by kernel_rfl) rfl rfl
  rw [show 73 * u + (67 + (2 + nb b)) = 73 * u + 69 + nb b by omega] at e
  exact ⟨w', e, a, t, z⟩
theorem st_up (h : SqAt w rb ro g cap L) {p : Nat} (hp : p < L.length) (u : Nat) : ∃ w', (Instr.storeAt 3 (.pointer (some ⟨g, 73 * p + 68, none⟩)) (.int .i64 (u : Int))).run Tryz.prog w = .ok () w' ∧ Did w rb ro g cap (setUp L p u) w' := by
  obtain ⟨w', e, a, t, z⟩ := h.num (k := 1) (t := 3) (v := .int .i64 (u : Int)) hp (fun s => { s with up := u }) rfl rfl (by decide) (by kernel_rfl) rfl rfl
  exact ⟨w', e, a, t, z⟩
theorem st_ct (h : SqAt w rb ro g cap L) (hi : i < L.length) (c : Bool) : ∃ w', (Instr.storeAt 3 (.pointer (some ⟨g, 73 * i + 71 + nb c, none⟩)) (.int .i64 ((upTo L i c + under L i true c : Nat) : Int))).run Tryz.prog w = .ok () w' ∧ Did w rb ro g cap (tallyW L i c) w' := by
  obtain ⟨w', e, a, t, z⟩ := h.num (k := 4 + nb c) (t := 3) (v := .int .i64 ((upTo L i c + under L i true c : Nat) : Int)) hi (fun s => if c then { s with cl := upTo L i c + under L i true c } else { s with ca := upTo L i c + under L i true c }) (by cases c <;> rfl) (by cases c <;> rfl) (by cases c <;> simp [nb]) (by kernel_rfl) rfl rfl
  rw [show 73 * i + (67 + (4 + nb c)) = 73 * i + 71 + nb c by omega] at e
  exact ⟨w', e, a, t, z⟩
theorem hang_any {u p : Nat} {b : Bool} (h : SqAt w rb ro g cap L) (hu : u < L.length) (hp : p < L.length) : Calls Tryz.prog 72 #[.pointer (some ⟨rb, ro, none⟩), .int .i64 (u : Int), .int .i64 (nb b : Int), .int .i64 (p : Int)] w fun e w' => e = .returned (.tuple #[]) ∧ Did w rb ro g cap (hang L u b p) w' := by
  obtain ⟨w2, e2, d2⟩ := st_dn h hu b p
  have hl2 : (hangD L u b p).length = L.length := md_len _ _ _
  by_cases h0 : p = 0
  · have HL : Hid (hang L u b p = hangD L u b p) := by unfold hang; exact if_pos h0
    subst h0
    go_enter Tryz.func72, Tryz.ntmps72
    go_upto_region 0 with fail
    refine hang0 _ _ _ rfl rfl rfl rfl rfl h hu e2 ?_
    intro a' w1 hw ha
    subst ha
    subst hw
    simp only [Act.put, List.setIfInBounds_toArray, List.set_cons_zero, List.set_cons_succ]
    go_wp2
    go_end0
    exact ⟨rfl, by rw [HL.out]; exact d2⟩
  · have HL : Hid (hang L u b p = setUp (hangD L u b p) p u) := by unfold hang; exact if_neg h0
    obtain ⟨w3, e3, d3⟩ := st_up d2.at' (p := p) (by rw [hl2]; exact hp) u
    have hp0 : ¬ (p : Int) = 0 := by omega
    go_enter Tryz.func72, Tryz.ntmps72
    go_upto_region 0 with fail
    refine hang0 _ _ _ rfl rfl rfl rfl rfl h hu e2 ?_
    intro a' w1 hw ha
    subst ha
    subst hw
    simp only [Act.put, List.setIfInBounds_toArray, List.set_cons_zero, List.set_cons_succ]
    go_upto_region 2 with fail
    refine hang2 _ _ _ rfl rfl rfl rfl d2.at' (by rw [hl2]; exact hp) e3 ?_
    intro a' w1 hw ha
    subst ha
    subst hw
    simp only [Act.put, List.setIfInBounds_toArray, List.set_cons_zero, List.set_cons_succ]
    go_wp2
    go_end0
    exact ⟨rfl, by rw [HL.out]; exact d2.trans d3⟩
end
def fs : T → Nat
  | .nil => 0
  | .nd i .nil _ => i
  | .nd _ (.nd j a b) _ => fs (.nd j a b)
theorem fs_up : ∀ (t : T) (c : Ctx), t ≠ .nil → upOf (lft t c) = fs t
  | .nil, c, h => absurd rfl h
  | .nd i .nil r, c, _ => rfl
  | .nd i (.nd j a b) r, c, _ => by
    rw [lft, fs_up (.nd j a b) _ (by simp)]
    rfl
section
variable {w : World} {rb ro g cap i : Nat} {L : List Sp}
theorem first_any {t : T} {p : Nat} (h : SqAt w rb ro g cap L) (hr : Rep L p t) (h0 : t.ix ≠ 0) (hn : lsp t ≤ L.length) : Calls Tryz.prog 73 #[.pointer (some ⟨rb, ro, none⟩), .int .i64 (t.ix : Int)] w fun e w' => e = .returned (.int .i64 (fs t : Int)) ∧ Qt w w' := by
  obtain ⟨N, hN⟩ : ∃ N, N = L.length := ⟨_, rfl⟩
  rw [← hN] at hn
  have HN := hidMk hN
  clear hN
  go_enter Tryz.func73, Tryz.ntmps73
  go_wp2
  go_loopw [1] (fun v1 wr => ∃ (t' : T) (p' a : Nat), v1 = .int .i64 (a : Int) ∧ a = t'.ix ∧ Rep L p' t' ∧ a ≠ 0 ∧ fs t' = fs t ∧ lsp t' ≤ N ∧ Qt w wr) (fun v1 _ => dep (fun a => (gt L a).l) N (match v1 with | .int _ i => i.toNat | _ => 0))
  case atStart => exact ⟨t, p, t.ix, rfl, rfl, hr, h0, rfl, hn, Qt.refl w⟩
  case round =>
    clear hr h0 hn
    obtain ⟨t', p', a, rfl, ha, hr, h0, hfs, hn, q⟩ := hrel
    replace h := h.qt q
    cases t' with
    | nil => exact absurd ha h0
    | nd j l r =>
      obtain rfl : a = j := ha
      have hj : a < L.length := hr.2.1
      have hl : (gt L a).l = l.ix := hr.2.2.2.1
      have hrl : Rep L a l := hr.2.2.2.2.2.1
      have hd : dn (gt L a) false = l.ix := hl
      have HD := hidMk (dep_lsp _ _ N hr hn)
      have HS := hidMk hfs
      clear hl hfs
      cases l with
      | nil =>
        go_upto_region 1 with fail
        refine first1 (r := false) _ _ _ rfl rfl rfl h hj (by rw [hd]; rfl) ?_
        intro a' w1 hw ha
        subst ha
        obtain rfl : w1 = wr := hw
        simp only [Act.put, List.setIfInBounds_toArray, List.set_cons_zero, List.set_cons_succ]
        go_wp2
        go_ret
        exact ⟨by rw [← HS.out]; rfl, q⟩
      | nd k x y =>
        have hk0 : k ≠ 0 := hrl.1
        go_upto_region 1 with fail
        refine first1 (r := true) _ _ _ rfl rfl rfl h hj (by rw [hd]; simp only [T.ix]; simp; omega) ?_
        intro a' w1 hw ha
        subst ha
        obtain rfl : w1 = wr := hw
        simp only [Act.put, List.setIfInBounds_toArray, List.set_cons_zero, List.set_cons_succ]
        go_upto_region 2 with fail
        refine first2 _ _ _ rfl rfl rfl h hj ?_
        intro a' w2 hw ha
        subst ha
        obtain rfl : w2 = w1 := hw
        rw [hd]
        simp only [Act.put, List.setIfInBounds_toArray, List.set_cons_zero, List.set_cons_succ]
        go_wp2
        refine ⟨⟨.nd k x y, a, k, rfl, rfl, hrl, hk0, HS.out, ?_, q⟩, ?_⟩
        · simp only [lsp] at hn ⊢; omega
        · show dep (fun a => (gt L a).l) N (k : Int).toNat < dep (fun a => (gt L a).l) N (a : Int).toNat
          have e1 := dep_lsp _ _ N hrl (by simp only [lsp] at hn ⊢; omega)
          have e2 := HD.out
          simp only [T.ix] at e1 e2
          rw [Int.toNat_natCast, Int.toNat_natCast, e1, e2]
          simp only [lsp]
          omega
end
section
variable {w : World} {rb ro g cap i : Nat} {L : List Sp}
theorem SqAt.rs (h : SqAt w rb ro g cap L) (hi : i < L.length) : RS rb ro g cap i L w := ⟨R_sl h, R_up h hi⟩
theorem replace_any {p : Nat} (h : SqAt w rb ro g cap L) (hi : i < L.length) (hu : (gt L i).up < L.length) (hp : p < L.length) (hip : p ≠ i) : Calls Tryz.prog 152 #[.pointer (some ⟨rb, ro, none⟩), .int .i64 (i : Int), .int .i64 (p : Int)] w fun e w' => e = .returned (.tuple #[]) ∧ Did w rb ro g cap (repl L i p) w' := by
  go_enter Tryz.func152, Tryz.ntmps152
  go_upto_region 0 with fail
  refine replace0 (s := sideOf L i) (fun w' => Did w rb ro g cap (repl L i p) w') _ _ _ rfl rfl rfl rfl hi h.len (h.drew.rs hi) ?_ ?_
  · refine (side_any h.drew hi hu).mono ?_
    rintro e w1 ⟨rfl, q1⟩
    have h1 := h.drew.qt q1
    refine ⟨rfl, h1.rs hi, ?_⟩
    refine (hang_any h1 hu hp).mono ?_
    rintro e w2 ⟨rfl, d2⟩
    refine ⟨rfl, ⟨?_, ?_⟩, Did.from ((Qt.drew w).trans q1) d2⟩
    · have := R_sl d2.at'
      rwa [hang_len] at this
    · have := R_up d2.at' (i := i) (by rw [hang_len]; exact hi)
      rwa [hang_up, if_neg (fun q => hip q.1)] at this
  intro a' w1 hw ha
  subst ha
  simp only [Act.put, List.setIfInBounds_toArray, List.set_cons_zero, List.set_cons_succ]
  go_wp2
  go_end0
  exact ⟨rfl, hw⟩
def tal (L : List Sp) (i k : Nat) : List Sp := if k = 0 then L else if k = 1 then tallyW L i false else tally L i
theorem tal_len (L : List Sp) (i k : Nat) : (tal L i k).length = L.length := by
  unfold tal
  split
  · rfl
  · split
    · exact tallyW_len _ _ _
    · exact tally_len _ _
def wh (k : Nat) : Bool := decide (k = 1)
theorem tal_next (L : List Sp) (i k : Nat) (hk : k < 2) : tallyW (tal L i k) i (wh k) = tal L i (k + 1) := by
  have : k = 0 ∨ k = 1 := by omega
  rcases this with rfl | rfl <;> rfl
theorem tal_rest (L : List Sp) (i k : Nat) (hk : k < 2) (j : Nat) : (gt (tal L i k) j).l = (gt L j).l ∧ (gt (tal L i k) j).r = (gt L j).r ∧ ct (gt (tal L i k) j) (wh k) = ct (gt L j) (wh k) := by
  have : k = 0 ∨ k = 1 := by omega
  rcases this with rfl | rfl
  · exact ⟨rfl, rfl, rfl⟩
  · show (gt (tallyW L i false) j).l = _ ∧ (gt (tallyW L i false) j).r = _ ∧ ct (gt (tallyW L i false) j) true = ct (gt L j) true
    refine ⟨(tallyW_rest _ _ _ _).2.1, (tallyW_rest _ _ _ _).2.2.1, ?_⟩
    rw [tallyW_ct, if_neg (fun q => by simp at q)]
theorem SqAt.ts {c : Bool} (h : SqAt w rb ro g cap L) (hi : i < L.length) (hd : dn (gt L i) true < L.length) : TS rb ro g cap i c L w := ⟨R_sl h, R_dn h hi true, R_ct h hd c⟩
theorem tally_any (h : SqAt w rb ro g cap L) (hi : i < L.length) (hl : (gt L i).l < L.length) (hr : (gt L i).r < L.length) (hri : (gt L i).r ≠ i) (hcl : ∀ c, ct (gt L (gt L i).l) c ≤ 2800000000000) (hcr : ∀ c, ct (gt L (gt L i).r) c ≤ 2800000000000) :
    Calls Tryz.prog 96 #[.pointer (some ⟨rb, ro, none⟩), .int .i64 (i : Int)] w fun e w' => e = .returned (.tuple #[]) ∧ Did w rb ro g cap (tally L i) w' := by
  go_enter Tryz.func96, Tryz.ntmps96
  go_wp2
  go_loopw [5] (fun v5 wr => ∃ k : Nat, v5 = .int .i64 (k : Int) ∧ k ≤ 2 ∧ Did w rb ro g cap (tal L i k) wr) (fun v5 _ => 2 - (match v5 with | .int _ i => i.toNat | _ => 0))
  case atStart => exact ⟨0, rfl, by omega, Did.refl h⟩
  case round =>
    obtain ⟨k, rfl, hk2, d⟩ := hrel
    by_cases hk : k < 2
    · have hk' : (k : Int) < 2 := by omega
      have HN := hidMk (tal_next L i k hk)
      obtain ⟨M, hM⟩ : ∃ M, tal L i k = M := ⟨_, rfl⟩
      have lM : M.length = L.length := by rw [← hM]; exact tal_len _ _ _
      have rM := fun j => hM ▸ tal_rest L i k hk j
      rw [hM] at HN d
      clear hM
      have hnb : ((nb (wh k) : Nat) : Int) = (k : Int) := by
        have : k = 0 ∨ k = 1 := by omega
        rcases this with rfl | rfl <;> rfl
      have e1 : dn (gt M i) false = (gt L i).l := (rM i).1
      have e2 : dn (gt M i) true = (gt L i).r := (rM i).2.1
      have b1 : under M i false (wh k) ≤ 2800000000000 := by unfold under; rw [e1, (rM _).2.2]; exact hcl _
      have b2 : ct (gt M (dn (gt M i) true)) (wh k) ≤ 2800000000000 := by rw [e2, (rM _).2.2]; exact hcr _
      have hiM : i < M.length := by omega
      have hdM : dn (gt M i) true < M.length := by rw [e2]; omega
      have hlM : (gt M i).l < M.length := by rw [(rM i).1]; omega
      have b3 : upTo M i (wh k) ≤ 2800000000001 := by have := own_le M i (wh k); unfold upTo; omega
      have hne : (gt M i).r ≠ i := by rw [(rM i).2.1]; exact hri
      clear rM e1 e2 hcl hcr hri
      go_upto_region 3 with fail
      refine tally3 (L := M) (u := upTo M i (wh k)) (c := wh k) (fun w' => Did w rb ro g cap (tal L i (k + 1)) w') _ _ _ rfl rfl rfl ?_ hiM (by rw [lM]; exact h.len) hdM (d.at'.drew.ts hiM hdM) (by omega) ?_ ?_
      · show Value.int .i64 (k : Int) = _
        rw [hnb]
      · refine (upTo_any d.at'.drew hiM hlM b1).mono ?_
        rintro e w1 ⟨rfl, q1⟩
        have h1 := d.at'.drew.qt q1
        refine ⟨rfl, h1.ts hiM hdM, ?_⟩
        obtain ⟨w2, E2, D2⟩ := st_ct h1 hiM (wh k)
        refine ⟨w2, E2, ⟨?_, ?_, ?_⟩, ?_⟩
        · have := R_sl D2.at'
          rwa [tallyW_len] at this
        · have := R_dn D2.at' (i := i) (by rw [tallyW_len]; exact hiM) true
          simp only [dn, (tallyW_rest _ _ _ _).2.2.1] at this
          exact this
        · have := R_ct D2.at' (i := dn (gt M i) true) (by rw [tallyW_len]; exact hdM) (wh k)
          rwa [tallyW_ct, if_neg (fun q => hne q.1.symm)] at this
        · rw [← HN.out]
          exact d.trans (Did.from ((Qt.drew _).trans q1) D2)
      intro a' w1 hw ha
      subst ha
      simp only [Act.put, List.setIfInBounds_toArray, List.set_cons_zero, List.set_cons_succ]
      have HW := hidMk hw
      clear hw b1 b2 b3 hnb hk' hiM hdM hlM hne
      go_wp2
      rw [show ((k : Int) + 1) = ((k + 1 : Nat) : Int) by omega]
      refine ⟨⟨k + 1, rfl, hk, HW.out⟩, ?_⟩
      show 2 - ((k + 1 : Nat) : Int).toNat < 2 - (k : Int).toNat
      omega
    · obtain rfl : k = 2 := by omega
      clear hk hk2
      go_wp2
      go_end0
      exact ⟨rfl, d⟩
end
theorem ex_nb {w : World} {a : Act} {o : Oper} {x y : Operand} {s : Bool} (ho : o.op = .binOp .sub 3 x y 3) (hx : a.eval x = .int .i64 1) (hy : a.eval y = .int .i64 (nb s : Int)) : (execOp a.eval o).run Tryz.prog w = .ok (.value (.int .i64 (nb (!s) : Int))) w := by
  have := ex_sub (w := w) ho hx hy (by cases s <;> decide)
  rw [this]
  cases s <;> rfl
theorem ex_ix2 {w : World} {a : Act} {o : Oper} {x y : Operand} {s : Bool} {q : Sp} (ho : o.op = .index 126 x y) (hx : a.eval x = .agg #[.int .i64 (q.l : Int), .int .i64 (q.r : Int)]) (hy : a.eval y = .int .i64 (nb s : Int)) : (execOp a.eval o).run Tryz.prog w = .ok (.value (.int .i64 (dn q s : Int))) w := by
  unfold execOp
  rw [ho]
  simp only [hx, hy]
  have hs := m_sz (t := 3) (n := 1) (by kernel_rfl) w
  have p0 : (Go.part 3 #[.int .i64 (q.l : Int), .int .i64 (q.r : Int)] 0).run Tryz.prog w = .ok (.int .i64 (q.l : Int)) w := m_one (agInt w) rfl
  have p1 : (Go.part 3 #[.int .i64 (q.l : Int), .int .i64 (q.r : Int)] 1).run Tryz.prog w = .ok (.int .i64 (q.r : Int)) w := m_one (agInt w) rfl
  cases s <;> simp only [nb, dn, Bool.false_eq_true, if_false, if_true] <;> simp [Instr.index, run_underlying Tryz.underlying126, asIntOf, hs, p0, p1, Sem.run_bind, Result.andThen]
def MS (rb ro g cap N : Nat) (w' : World) : Prop := (Instr.loadAt 73 (.pointer (some ⟨rb, ro + 0, none⟩))).run Tryz.prog w' = .ok (.slice (some ⟨g, 0, none⟩) N cap) w'
def lift0r_o0 : Oper := ⟨some 6, .move (.tmp 0), 129, "row.go:210", #[], none⟩
def lift0r_o1 : Oper := ⟨some 7, .nilCheck (.tmp 6), 0, "row.go:210", #[⟨0, .data⟩], none⟩
def lift0r_o2 : Oper := ⟨some 8, .fieldAddr 75 (.tmp 7) 0, 0, "row.go:210", #[⟨1, .data⟩], none⟩
def lift0r_o3 : Oper := ⟨some 9, .load 73 (.tmp 8), 73, "row.go:210", #[⟨2, .data⟩], none⟩
def lift0r_o4 : Oper := ⟨some 10, .move (.tmp 1), 3, "row.go:210", #[], none⟩
def lift0r_o5 : Oper := ⟨some 11, .indexAddr 73 (.tmp 9) (.tmp 10), 0, "row.go:210", #[⟨3, .data⟩, ⟨4, .data⟩], none⟩
def lift0r_o6 : Oper := ⟨some 12, .fieldAddr 128 (.tmp 11) 2, 0, "row.go:210", #[⟨5, .data⟩], none⟩
def lift0r_o7 : Oper := ⟨some 13, .load 3 (.tmp 12), 3, "row.go:210", #[⟨6, .data⟩], none⟩
def lift0r_o8 : Oper := ⟨some 14, .move (.tmp 0), 129, "row.go:210", #[], none⟩
def lift0r_o9 : Oper := ⟨some 15, .move (.tmp 1), 3, "row.go:210", #[], none⟩
def lift0r_o10 : Oper := ⟨some 16, .call { callee := Callee.value (Operand.func 127), args := #[.tmp 14, .tmp 15], argTypes := #[129, 3] }, 3, "row.go:210", #[⟨8, .data⟩, ⟨9, .data⟩], none⟩
def lift0r_o11 : Oper := ⟨some 4, .assign (.tmp 13), 3, "row.go:210", #[⟨7, .data⟩, ⟨10, .chain⟩, ⟨0, .phase⟩, ⟨1, .phase⟩, ⟨2, .phase⟩, ⟨3, .phase⟩, ⟨4, .phase⟩, ⟨5, .phase⟩, ⟨6, .phase⟩, ⟨7, .phase⟩, { on := 8, ground := Ground.textOnly Departure.lateStores }, { on := 9, ground := Ground.textOnly Departure.lateStores }, { on := 10, ground := Ground.textOnly Departure.lateStoresUnsure }], none⟩
def lift0r_o12 : Oper := ⟨some 5, .assign (.tmp 16), 3, "row.go:210", #[⟨10, .data⟩, ⟨11, .chain⟩, ⟨0, .phase⟩, ⟨1, .phase⟩, ⟨2, .phase⟩, ⟨3, .phase⟩, ⟨4, .phase⟩, ⟨5, .phase⟩, ⟨6, .phase⟩, ⟨7, .phase⟩, ⟨8, .phase⟩, ⟨9, .phase⟩, ⟨10, .phase⟩, ⟨11, .phase⟩], none⟩
def lift0r_ops : Array Oper := #[lift0r_o0, lift0r_o1, lift0r_o2, lift0r_o3, lift0r_o4, lift0r_o5, lift0r_o6, lift0r_o7, lift0r_o8, lift0r_o9, lift0r_o10, lift0r_o11, lift0r_o12]
theorem lift0r {rb ro g cap : Nat} {L : List Sp} {i : Nat} {s : Bool} (a : Act) (w : World) (Q : Exit → Act → World → Prop) (zz : a.tmps.size = 48)
    (t0 : a.tmps.getD 0 undef = .pointer (some ⟨rb, ro, none⟩))
    (t1 : a.tmps.getD 1 undef = .int .i64 (i : Int))
    (hR : SqAt w rb ro g cap L) (hi : i < L.length) (hl : L.length ≤ 1400000000000) (CS : Calls Tryz.prog 127 #[.pointer (some ⟨rb, ro, none⟩), .int .i64 (i : Int)] w.drew fun e w' => e = .returned (.int .i64 (nb s : Int)) ∧ SqAt w' rb ro g cap L ∧ Qt w w')
    (h : ∀ (a' : Act) (w' : World), SqAt w' rb ro g cap L ∧ Qt w w' → a' = (((((((((((((a).put (some 6) (.pointer (some ⟨rb, ro, none⟩))).put (some 7) (.pointer (some ⟨rb, ro, none⟩))).put (some 8) (.pointer (some ⟨rb, ro + 0, none⟩))).put (some 9) (.slice (some ⟨g, 0, none⟩) (L).length cap)).put (some 10) (.int .i64 (i : Int))).put (some 11) (.pointer (some ⟨g, 73 * i, none⟩))).put (some 12) (.pointer (some ⟨g, 73 * i + 68, none⟩))).put (some 13) (.int .i64 ((gt L i).up : Int))).put (some 14) (.pointer (some ⟨rb, ro, none⟩))).put (some 15) (.int .i64 (i : Int))).put (some 16) (.int .i64 (nb s : Int))).put (some 4) (.int .i64 ((gt L i).up : Int))).put (some 5) (.int .i64 (nb s : Int)) → Q .normal a' w') :
    (Code.region 0 lift0r_ops true).wp Tryz.prog Q a w := by
  refine y0 (fun w' => SqAt w' rb ro g cap L ∧ Qt w w') (⟨hR.drew, Qt.drew w⟩) (fun hHeld => ?_)
  refine yv 0 rfl rfl (fun w1 hw => xmv rfl (zi t0 rfl)) hHeld ?_
  refine yv 1 rfl rfl (fun w1 hw => xnc rfl (zg zz rfl)) hHeld ?_
  refine yv 2 rfl rfl (fun w1 hw => xfa rfl (zg zz rfl) (fg_75_0 _ _ _)) hHeld ?_
  refine yv 3 rfl rfl (fun w1 hw => xld rfl (zg zz rfl) (R_sl hw.1)) hHeld ?_
  refine yv 4 rfl rfl (fun w1 hw => xmv rfl (zi t1 rfl)) hHeld ?_
  refine yv 5 rfl rfl (fun w1 hw => xia rfl (zg zz rfl) (zg zz rfl) (R_ix hi hl _)) hHeld ?_
  refine yv 6 rfl rfl (fun w1 hw => xfa rfl (zg zz rfl) (fg_128_2 _ _ _)) hHeld ?_
  refine yv 7 rfl rfl (fun w1 hw => xld rfl (zg zz rfl) (R_up hw.1 hi)) hHeld ?_
  refine yv 8 rfl rfl (fun w1 hw => xmv rfl (zi t0 rfl)) hHeld ?_
  refine yv 9 rfl rfl (fun w1 hw => xmv rfl (zi t1 rfl)) hHeld ?_
  refine yc 10 rfl rfl (exec_c2 rfl (zg zz rfl) (zg zz rfl)) (CS) (fun e x10 hx => ?_)
  obtain ⟨rfl, S1⟩ := hx
  refine ⟨_, rfl, S1, fun hHeld => ?_⟩
  refine yv 11 rfl rfl (fun w1 hw => xas rfl (zg zz rfl)) hHeld ?_
  refine yv 12 rfl rfl (fun w1 hw => xas rfl (zg zz rfl)) hHeld ?_
  exact ye rfl (h _ _ (hHeld) rfl)
def lift2r_o0 : Oper := ⟨some 21, .move (.tmp 0), 129, "row.go:212", #[], none⟩
def lift2r_o1 : Oper := ⟨some 22, .move (.tmp 4), 3, "row.go:212", #[], none⟩
def lift2r_o2 : Oper := ⟨some 23, .move (.tmp 5), 3, "row.go:212", #[], none⟩
def lift2r_o3 : Oper := ⟨some 24, .move (.tmp 0), 129, "row.go:212", #[], none⟩
def lift2r_o4 : Oper := ⟨some 25, .nilCheck (.tmp 24), 0, "row.go:212", #[⟨3, .data⟩], none⟩
def lift2r_o5 : Oper := ⟨some 26, .fieldAddr 75 (.tmp 25) 0, 0, "row.go:212", #[⟨4, .data⟩], none⟩
def lift2r_o6 : Oper := ⟨some 27, .load 73 (.tmp 26), 73, "row.go:212", #[⟨5, .data⟩], none⟩
def lift2r_o7 : Oper := ⟨some 28, .move (.tmp 1), 3, "row.go:212", #[], none⟩
def lift2r_o8 : Oper := ⟨some 29, .move (.tmp 5), 3, "row.go:212", #[], none⟩
def lift2r_o9 : Oper := ⟨some 30, .binOp BinOp.sub 3 (Operand.const (Value.int IntKind.i64 1)) (.tmp 29) 3, 3, "row.go:212", #[⟨8, .data⟩], none⟩
def lift2r_o10 : Oper := ⟨some 31, .indexAddr 73 (.tmp 27) (.tmp 28), 0, "row.go:212", #[⟨6, .data⟩, ⟨7, .data⟩], none⟩
def lift2r_o11 : Oper := ⟨some 32, .fieldAddr 128 (.tmp 31) 3, 0, "row.go:212", #[⟨10, .data⟩], none⟩
def lift2r_o12 : Oper := ⟨some 33, .indexAddr 126 (.tmp 32) (.tmp 30), 0, "row.go:212", #[⟨11, .data⟩, ⟨9, .data⟩], none⟩
def lift2r_o13 : Oper := ⟨some 34, .load 3 (.tmp 33), 3, "row.go:212", #[⟨12, .data⟩], none⟩
def lift2r_o14 : Oper := ⟨some 35, .call { callee := Callee.value (Operand.func 72), args := #[.tmp 21, .tmp 22, .tmp 23, .tmp 34], argTypes := #[129, 3, 3, 3] }, 0, "row.go:212", #[⟨0, .data⟩, ⟨1, .data⟩, ⟨2, .data⟩, ⟨13, .data⟩], none⟩
def lift2r_ops : Array Oper := #[lift2r_o0, lift2r_o1, lift2r_o2, lift2r_o3, lift2r_o4, lift2r_o5, lift2r_o6, lift2r_o7, lift2r_o8, lift2r_o9, lift2r_o10, lift2r_o11, lift2r_o12, lift2r_o13, lift2r_o14]
theorem lift2r {rb ro g cap : Nat} {L : List Sp} {i u : Nat} {s : Bool} (Fin : World → Prop) (a : Act) (w : World) (Q : Exit → Act → World → Prop) (zz : a.tmps.size = 48)
    (t0 : a.tmps.getD 0 undef = .pointer (some ⟨rb, ro, none⟩))
    (t1 : a.tmps.getD 1 undef = .int .i64 (i : Int))
    (t4 : a.tmps.getD 4 undef = .int .i64 (u : Int))
    (t5 : a.tmps.getD 5 undef = .int .i64 (nb s : Int))
    (hR : SqAt w rb ro g cap L) (hi : i < L.length) (CH : Calls Tryz.prog 72 #[.pointer (some ⟨rb, ro, none⟩), .int .i64 (u : Int), .int .i64 (nb s : Int), .int .i64 (dn (gt L i) (!s) : Int)] w fun e w' => e = .returned (.tuple #[]) ∧ Fin w')
    (h : ∀ (a' : Act) (w' : World), Fin w' → a' = (((((((((((((((a).put (some 21) (.pointer (some ⟨rb, ro, none⟩))).put (some 22) (.int .i64 (u : Int))).put (some 23) (.int .i64 (nb s : Int))).put (some 24) (.pointer (some ⟨rb, ro, none⟩))).put (some 25) (.pointer (some ⟨rb, ro, none⟩))).put (some 26) (.pointer (some ⟨rb, ro + 0, none⟩))).put (some 27) (.slice (some ⟨g, 0, none⟩) (L).length cap)).put (some 28) (.int .i64 (i : Int))).put (some 29) (.int .i64 (nb s : Int))).put (some 30) (.int .i64 (nb (!s) : Int))).put (some 31) (.pointer (some ⟨g, 73 * i, none⟩))).put (some 32) (.pointer (some ⟨g, 73 * i + 69, none⟩))).put (some 33) (.pointer (some ⟨g, 73 * i + 69 + nb (!s), none⟩))).put (some 34) (.int .i64 (dn (gt L i) (!s) : Int))).put (some 35) (.tuple #[]) → Q .normal a' w') :
    (Code.region 2 lift2r_ops false).wp Tryz.prog Q a w := by
  refine z0 rfl ?_
  refine zv rfl (xmv rfl (zi t0 rfl)) ?_
  refine zv rfl (xmv rfl (zi t4 rfl)) ?_
  refine zv rfl (xmv rfl (zi t5 rfl)) ?_
  refine zv rfl (xmv rfl (zi t0 rfl)) ?_
  refine zv rfl (xnc rfl (zg zz rfl)) ?_
  refine zv rfl (xfa rfl (zg zz rfl) (fg_75_0 _ _ _)) ?_
  refine zv rfl (xld rfl (zg zz rfl) (R_sl hR)) ?_
  refine zv rfl (xmv rfl (zi t1 rfl)) ?_
  refine zv rfl (xmv rfl (zi t5 rfl)) ?_
  refine zv (v := .int .i64 (nb (!s) : Int)) rfl (ex_nb rfl rfl (zg zz rfl)) ?_
  refine zv rfl (xia rfl (zg zz rfl) (zg zz rfl) (R_ix hi hR.len _)) ?_
  refine zv rfl (xfa rfl (zg zz rfl) (fg_128_3 _ _ _)) ?_
  refine zv rfl (xia rfl (zg zz rfl) (zg zz rfl) (ix_ar _ (!s) _)) ?_
  refine zv rfl (xld rfl (zg zz rfl) (R_dn hR hi (!s))) ?_
  refine zc rfl (exec_c4 rfl (zg zz rfl) (zg zz rfl) (zg zz rfl) (zg zz rfl)) (CH) (fun e x14 hx => ?_)
  obtain ⟨rfl, HF⟩ := hx
  refine ⟨_, rfl, ?_⟩
  exact ze rfl (h _ _ (HF) rfl)
def lift3r_o0 : Oper := ⟨some 36, .move (.tmp 0), 129, "row.go:213", #[], none⟩
def lift3r_o1 : Oper := ⟨some 37, .move (.tmp 1), 3, "row.go:213", #[], none⟩
def lift3r_o2 : Oper := ⟨some 38, .move (.tmp 5), 3, "row.go:213", #[], none⟩
def lift3r_o3 : Oper := ⟨some 39, .binOp BinOp.sub 3 (Operand.const (Value.int IntKind.i64 1)) (.tmp 38) 3, 3, "row.go:213", #[⟨2, .data⟩], none⟩
def lift3r_o4 : Oper := ⟨some 40, .move (.tmp 4), 3, "row.go:213", #[], none⟩
def lift3r_o5 : Oper := ⟨some 41, .call { callee := Callee.value (Operand.func 72), args := #[.tmp 36, .tmp 37, .tmp 39, .tmp 40], argTypes := #[129, 3, 3, 3] }, 0, "row.go:213", #[⟨0, .data⟩, ⟨1, .data⟩, ⟨3, .data⟩, ⟨4, .data⟩], none⟩
def lift3r_ops : Array Oper := #[lift3r_o0, lift3r_o1, lift3r_o2, lift3r_o3, lift3r_o4, lift3r_o5]
theorem lift3r {rb ro i u : Nat} {s : Bool} (Fin : World → Prop) (a : Act) (w : World) (Q : Exit → Act → World → Prop) (zz : a.tmps.size = 48)
    (t0 : a.tmps.getD 0 undef = .pointer (some ⟨rb, ro, none⟩))
    (t1 : a.tmps.getD 1 undef = .int .i64 (i : Int))
    (t4 : a.tmps.getD 4 undef = .int .i64 (u : Int))
    (t5 : a.tmps.getD 5 undef = .int .i64 (nb s : Int))
    (CH : Calls Tryz.prog 72 #[.pointer (some ⟨rb, ro, none⟩), .int .i64 (i : Int), .int .i64 (nb (!s) : Int), .int .i64 (u : Int)] w fun e w' => e = .returned (.tuple #[]) ∧ Fin w')
    (h : ∀ (a' : Act) (w' : World), Fin w' → a' = ((((((a).put (some 36) (.pointer (some ⟨rb, ro, none⟩))).put (some 37) (.int .i64 (i : Int))).put (some 38) (.int .i64 (nb s : Int))).put (some 39) (.int .i64 (nb (!s) : Int))).put (some 40) (.int .i64 (u : Int))).put (some 41) (.tuple #[]) → Q .normal a' w') :
    (Code.region 3 lift3r_ops false).wp Tryz.prog Q a w := by
  refine z0 rfl ?_
  refine zv rfl (xmv rfl (zi t0 rfl)) ?_
  refine zv rfl (xmv rfl (zi t1 rfl)) ?_
  refine zv rfl (xmv rfl (zi t5 rfl)) ?_
  refine zv (v := .int .i64 (nb (!s) : Int)) rfl (ex_nb rfl rfl (zg zz rfl)) ?_
  refine zv rfl (xmv rfl (zi t4 rfl)) ?_
  refine zc rfl (exec_c4 rfl (zg zz rfl) (zg zz rfl) (zg zz rfl) (zg zz rfl)) (CH) (fun e x5 hx => ?_)
  obtain ⟨rfl, HF⟩ := hx
  refine ⟨_, rfl, ?_⟩
  exact ze rfl (h _ _ (HF) rfl)
def even1_o0 : Oper := ⟨some 10, .move (.tmp 0), 129, "row.go:192", #[], none⟩
def even1_o1 : Oper := ⟨some 11, .nilCheck (.tmp 10), 0, "row.go:192", #[⟨0, .data⟩], none⟩
def even1_o2 : Oper := ⟨some 12, .fieldAddr 75 (.tmp 11) 0, 0, "row.go:192", #[⟨1, .data⟩], none⟩
def even1_o3 : Oper := ⟨some 13, .load 73 (.tmp 12), 73, "row.go:192", #[⟨2, .data⟩], none⟩
def even1_o4 : Oper := ⟨some 14, .move (.tmp 1), 3, "row.go:192", #[], none⟩
def even1_o5 : Oper := ⟨some 15, .indexAddr 73 (.tmp 13) (.tmp 14), 0, "row.go:192", #[⟨3, .data⟩, ⟨4, .data⟩], none⟩
def even1_o6 : Oper := ⟨some 16, .fieldAddr 128 (.tmp 15) 3, 0, "row.go:192", #[⟨5, .data⟩], none⟩
def even1_o7 : Oper := ⟨some 17, .load 126 (.tmp 16), 126, "row.go:192", #[⟨6, .data⟩], none⟩
def even1_o8 : Oper := ⟨some 18, .move (Operand.const (Value.int IntKind.i64 0)), 3, "row.go:192", #[], none⟩
def even1_ops : Array Oper := #[even1_o0, even1_o1, even1_o2, even1_o3, even1_o4, even1_o5, even1_o6, even1_o7, even1_o8]
theorem even1 {rb ro g cap : Nat} {L : List Sp} {i : Nat} (a : Act) (w : World) (Q : Exit → Act → World → Prop) (zz : a.tmps.size = 79)
    (t0 : a.tmps.getD 0 undef = .pointer (some ⟨rb, ro, none⟩))
    (t1 : a.tmps.getD 1 undef = .int .i64 (i : Int))
    (hR : SqAt w rb ro g cap L) (hi : i < L.length)
    (h : ∀ (a' : Act) (w' : World), w' = w → a' = (((((((((a).put (some 10) (.pointer (some ⟨rb, ro, none⟩))).put (some 11) (.pointer (some ⟨rb, ro, none⟩))).put (some 12) (.pointer (some ⟨rb, ro + 0, none⟩))).put (some 13) (.slice (some ⟨g, 0, none⟩) (L).length cap)).put (some 14) (.int .i64 (i : Int))).put (some 15) (.pointer (some ⟨g, 73 * i, none⟩))).put (some 16) (.pointer (some ⟨g, 73 * i + 69, none⟩))).put (some 17) (.agg #[.int .i64 ((gt L i).l : Int), .int .i64 ((gt L i).r : Int)])).put (some 18) (.int .i64 0) → Q .normal a' w') :
    (Code.region 1 even1_ops false).wp Tryz.prog Q a w := by
  refine z0 rfl ?_
  refine zv rfl (xmv rfl (zi t0 rfl)) ?_
  refine zv rfl (xnc rfl (zg zz rfl)) ?_
  refine zv rfl (xfa rfl (zg zz rfl) (fg_75_0 _ _ _)) ?_
  refine zv rfl (xld rfl (zg zz rfl) (R_sl hR)) ?_
  refine zv rfl (xmv rfl (zi t1 rfl)) ?_
  refine zv rfl (xia rfl (zg zz rfl) (zg zz rfl) (R_ix hi hR.len _)) ?_
  refine zv rfl (xfa rfl (zg zz rfl) (fg_128_3 _ _ _)) ?_
  refine zv rfl (xld rfl (zg zz rfl) (R_down hR hi)) ?_
  refine zv rfl (xmv rfl rfl) ?_
  exact ze rfl (h _ _ (rfl) rfl)
def even3_o0 : Oper := ⟨some 20, .move (.tmp 18), 3, "row.go:192", #[], none⟩
def even3_o1 : Oper := ⟨some 21, .index 126 (.tmp 17) (.tmp 18), 3, "row.go:192", #[], none⟩
def even3_o2 : Oper := ⟨some 5, .assign (.tmp 20), 3, "row.go:192", #[⟨0, .data⟩, ⟨0, .phase⟩, ⟨1, .phase⟩], none⟩
def even3_o3 : Oper := ⟨some 6, .assign (.tmp 21), 3, "row.go:192", #[⟨1, .data⟩, ⟨2, .chain⟩, ⟨0, .phase⟩, ⟨1, .phase⟩, ⟨2, .phase⟩], none⟩
def even3_ops : Array Oper := #[even3_o0, even3_o1, even3_o2, even3_o3]
theorem even3 {L : List Sp} {i : Nat} {s : Bool} (a : Act) (w : World) (Q : Exit → Act → World → Prop) (zz : a.tmps.size = 79)
    (t17 : a.tmps.getD 17 undef = .agg #[.int .i64 ((gt L i).l : Int), .int .i64 ((gt L i).r : Int)])
    (t18 : a.tmps.getD 18 undef = .int .i64 (nb s : Int))
    (h : ∀ (a' : Act) (w' : World), w' = w → a' = ((((a).put (some 20) (.int .i64 (nb s : Int))).put (some 21) (.int .i64 (dn (gt L i) s : Int))).put (some 5) (.int .i64 (nb s : Int))).put (some 6) (.int .i64 (dn (gt L i) s : Int)) → Q .normal a' w') :
    (Code.region 3 even3_ops false).wp Tryz.prog Q a w := by
  refine z0 rfl ?_
  refine zv rfl (xmv rfl (zi t18 rfl)) ?_
  refine zv (v := .int .i64 (dn (gt L i) s : Int)) rfl (ex_ix2 rfl (zi t17 rfl) (zi t18 rfl)) ?_
  refine zv rfl (xas rfl (zg zz rfl)) ?_
  refine zv rfl (xas rfl (zg zz rfl)) ?_
  exact ze rfl (h _ _ (rfl) rfl)
def even4_o0 : Oper := ⟨some 22, .move (.tmp 5), 3, "row.go:193", #[], none⟩
def even4_o1 : Oper := ⟨some 23, .binOp BinOp.sub 3 (Operand.const (Value.int IntKind.i64 1)) (.tmp 22) 3, 3, "row.go:193", #[⟨0, .data⟩], none⟩
def even4_o2 : Oper := ⟨some 7, .assign (.tmp 23), 3, "row.go:193", #[⟨1, .data⟩, ⟨0, .phase⟩, ⟨1, .phase⟩], none⟩
def even4_ops : Array Oper := #[even4_o0, even4_o1, even4_o2]
theorem even4 {s : Bool} (a : Act) (w : World) (Q : Exit → Act → World → Prop) (zz : a.tmps.size = 79)
    (t5 : a.tmps.getD 5 undef = .int .i64 (nb s : Int))
    (h : ∀ (a' : Act) (w' : World), w' = w → a' = (((a).put (some 22) (.int .i64 (nb s : Int))).put (some 23) (.int .i64 (nb (!s) : Int))).put (some 7) (.int .i64 (nb (!s) : Int)) → Q .normal a' w') :
    (Code.region 4 even4_ops false).wp Tryz.prog Q a w := by
  refine z0 rfl ?_
  refine zv rfl (xmv rfl (zi t5 rfl)) ?_
  refine zv (v := .int .i64 (nb (!s) : Int)) rfl (ex_nb rfl rfl (zg zz rfl)) ?_
  refine zv rfl (xas rfl (zg zz rfl)) ?_
  exact ze rfl (h _ _ (rfl) rfl)
def even5_o0 : Oper := ⟨some 24, .move (.tmp 0), 129, "row.go:194", #[], none⟩
def even5_o1 : Oper := ⟨some 25, .move (.tmp 6), 3, "row.go:194", #[], none⟩
def even5_o2 : Oper := ⟨some 26, .call { callee := Callee.value (Operand.func 124), args := #[.tmp 24, .tmp 25], argTypes := #[129, 3] }, 3, "row.go:194", #[⟨0, .data⟩, ⟨1, .data⟩], none⟩
def even5_o3 : Oper := ⟨some 27, .move (.tmp 0), 129, "row.go:194", #[], none⟩
def even5_o4 : Oper := ⟨some 28, .move (.tmp 0), 129, "row.go:194", #[], none⟩
def even5_o5 : Oper := ⟨some 29, .nilCheck (.tmp 28), 0, "row.go:194", #[⟨4, .data⟩], none⟩
def even5_o6 : Oper := ⟨some 30, .fieldAddr 75 (.tmp 29) 0, 0, "row.go:194", #[⟨5, .data⟩], none⟩
def even5_o7 : Oper := ⟨some 31, .load 73 (.tmp 30), 73, "row.go:194", #[⟨6, .data⟩], none⟩
def even5_o8 : Oper := ⟨some 32, .move (.tmp 1), 3, "row.go:194", #[], none⟩
def even5_o9 : Oper := ⟨some 33, .move (.tmp 7), 3, "row.go:194", #[], none⟩
def even5_o10 : Oper := ⟨some 34, .indexAddr 73 (.tmp 31) (.tmp 32), 0, "row.go:194", #[⟨7, .data⟩, ⟨8, .data⟩], none⟩
def even5_o11 : Oper := ⟨some 35, .fieldAddr 128 (.tmp 34) 3, 0, "row.go:194", #[⟨10, .data⟩], none⟩
def even5_o12 : Oper := ⟨some 36, .indexAddr 126 (.tmp 35) (.tmp 33), 0, "row.go:194", #[⟨11, .data⟩, ⟨9, .data⟩], none⟩
def even5_o13 : Oper := ⟨some 37, .load 3 (.tmp 36), 3, "row.go:194", #[⟨12, .data⟩], none⟩
def even5_o14 : Oper := ⟨some 38, .call { callee := Callee.value (Operand.func 124), args := #[.tmp 27, .tmp 37], argTypes := #[129, 3] }, 3, "row.go:194", #[⟨3, .data⟩, ⟨13, .data⟩, ⟨2, .chain⟩], none⟩
def even5_o15 : Oper := ⟨some 39, .binOp BinOp.mul 3 (Operand.const (Value.int IntKind.i64 3)) (.tmp 38) 3, 3, "row.go:194", #[⟨14, .data⟩], none⟩
def even5_o16 : Oper := ⟨some 40, .binOp BinOp.leq 3 (.tmp 26) (.tmp 39) 3, 4, "row.go:194", #[⟨2, .data⟩, ⟨15, .data⟩], none⟩
def even5_ops : Array Oper := #[even5_o0, even5_o1, even5_o2, even5_o3, even5_o4, even5_o5, even5_o6, even5_o7, even5_o8, even5_o9, even5_o10, even5_o11, even5_o12, even5_o13, even5_o14, even5_o15, even5_o16]
theorem even5 {rb ro g cap : Nat} {L : List Sp} {i p x y : Nat} {o r : Bool} (a : Act) (w : World) (Q : Exit → Act → World → Prop) (zz : a.tmps.size = 79)
    (t0 : a.tmps.getD 0 undef = .pointer (some ⟨rb, ro, none⟩))
    (t1 : a.tmps.getD 1 undef = .int .i64 (i : Int))
    (t6 : a.tmps.getD 6 undef = .int .i64 (p : Int))
    (t7 : a.tmps.getD 7 undef = .int .i64 (nb o : Int))
    (hR : SqAt w rb ro g cap L) (hi : i < L.length) (hl : L.length ≤ 1400000000000) (hm : 3 * y ≤ 9223372036854775807) (hr : decide ((x : Int) ≤ ((3 * y : Nat) : Int)) = r) (C1 : Calls Tryz.prog 124 #[.pointer (some ⟨rb, ro, none⟩), .int .i64 (p : Int)] w.drew fun e w' => e = .returned (.int .i64 (x : Int)) ∧ (SqAt w' rb ro g cap L ∧ Qt w w') ∧ Calls Tryz.prog 124 #[.pointer (some ⟨rb, ro, none⟩), .int .i64 (dn (gt L i) o : Int)] w' fun e2 w2 => e2 = .returned (.int .i64 (y : Int)) ∧ SqAt w2 rb ro g cap L ∧ Qt w w2)
    (h : ∀ (a' : Act) (w' : World), SqAt w' rb ro g cap L ∧ Qt w w' → a' = (((((((((((((((((a).put (some 24) (.pointer (some ⟨rb, ro, none⟩))).put (some 25) (.int .i64 (p : Int))).put (some 27) (.pointer (some ⟨rb, ro, none⟩))).put (some 28) (.pointer (some ⟨rb, ro, none⟩))).put (some 29) (.pointer (some ⟨rb, ro, none⟩))).put (some 30) (.pointer (some ⟨rb, ro + 0, none⟩))).put (some 31) (.slice (some ⟨g, 0, none⟩) (L).length cap)).put (some 32) (.int .i64 (i : Int))).put (some 33) (.int .i64 (nb o : Int))).put (some 34) (.pointer (some ⟨g, 73 * i, none⟩))).put (some 35) (.pointer (some ⟨g, 73 * i + 69, none⟩))).put (some 36) (.pointer (some ⟨g, 73 * i + 69 + nb o, none⟩))).put (some 37) (.int .i64 (dn (gt L i) o : Int))).put (some 26) (.int .i64 (x : Int))).put (some 38) (.int .i64 (y : Int))).put (some 39) (.int .i64 ((3 * y : Nat) : Int))).put (some 40) (.bool r) → Q .normal a' w') :
    (Code.region 5 even5_ops true).wp Tryz.prog Q a w := by
  refine y0 (fun w' => SqAt w' rb ro g cap L ∧ Qt w w') (⟨hR.drew, Qt.drew w⟩) (fun hHeld => ?_)
  refine yv 0 rfl rfl (fun w1 hw => xmv rfl (zi t0 rfl)) hHeld ?_
  refine yv 1 rfl rfl (fun w1 hw => xmv rfl (zi t6 rfl)) hHeld ?_
  refine yv 3 rfl rfl (fun w1 hw => xmv rfl (zi t0 rfl)) hHeld ?_
  refine yv 4 rfl rfl (fun w1 hw => xmv rfl (zi t0 rfl)) hHeld ?_
  refine yv 5 rfl rfl (fun w1 hw => xnc rfl (zg zz rfl)) hHeld ?_
  refine yv 6 rfl rfl (fun w1 hw => xfa rfl (zg zz rfl) (fg_75_0 _ _ _)) hHeld ?_
  refine yv 7 rfl rfl (fun w1 hw => xld rfl (zg zz rfl) (R_sl hw.1)) hHeld ?_
  refine yv 8 rfl rfl (fun w1 hw => xmv rfl (zi t1 rfl)) hHeld ?_
  refine yv 9 rfl rfl (fun w1 hw => xmv rfl (zi t7 rfl)) hHeld ?_
  refine yv 10 rfl rfl (fun w1 hw => xia rfl (zg zz rfl) (zg zz rfl) (R_ix hi hl _)) hHeld ?_
  refine yv 11 rfl rfl (fun w1 hw => xfa rfl (zg zz rfl) (fg_128_3 _ _ _)) hHeld ?_
  refine yv 12 rfl rfl (fun w1 hw => xia rfl (zg zz rfl) (zg zz rfl) (ix_ar _ o _)) hHeld ?_
  refine yv 13 rfl rfl (fun w1 hw => xld rfl (zg zz rfl) (R_dn hw.1 hi o)) hHeld ?_
  refine yc 2 rfl rfl (exec_c2 rfl (zg zz rfl) (zg zz rfl)) (C1) (fun e x2 hx => ?_)
  obtain ⟨rfl, S1, C2⟩ := hx
  refine ⟨_, rfl, S1, fun hHeld => ?_⟩
  refine yc 14 rfl rfl (exec_c2 rfl (zg zz rfl) (zg zz rfl)) (C2) (fun e x14 hx => ?_)
  obtain ⟨rfl, S2⟩ := hx
  refine ⟨_, rfl, S2, fun hHeld => ?_⟩
  refine yv (v := .int .i64 ((3 * y : Nat) : Int)) 15 rfl rfl (fun w1 hw => ex_mulN (p := 3) rfl rfl (zg zz rfl) hm) hHeld ?_
  refine yv (v := .bool r) 16 rfl rfl (fun w1 hw => ex_leq rfl (zg zz rfl) (zg zz rfl) hr) hHeld ?_
  exact ye rfl (h _ _ (hHeld) rfl)
def even6_o0 : Oper := ⟨some 41, .move (.tmp 0), 129, "row.go:197", #[], none⟩
def even6_o1 : Oper := ⟨some 42, .nilCheck (.tmp 41), 0, "row.go:197", #[⟨0, .data⟩], none⟩
def even6_o2 : Oper := ⟨some 43, .fieldAddr 75 (.tmp 42) 0, 0, "row.go:197", #[⟨1, .data⟩], none⟩
def even6_o3 : Oper := ⟨some 44, .load 73 (.tmp 43), 73, "row.go:197", #[⟨2, .data⟩], none⟩
def even6_o4 : Oper := ⟨some 45, .move (.tmp 6), 3, "row.go:197", #[], none⟩
def even6_o5 : Oper := ⟨some 46, .move (.tmp 7), 3, "row.go:197", #[], none⟩
def even6_o6 : Oper := ⟨some 47, .indexAddr 73 (.tmp 44) (.tmp 45), 0, "row.go:197", #[⟨3, .data⟩, ⟨4, .data⟩], none⟩
def even6_o7 : Oper := ⟨some 48, .fieldAddr 128 (.tmp 47) 3, 0, "row.go:197", #[⟨6, .data⟩], none⟩
def even6_o8 : Oper := ⟨some 49, .indexAddr 126 (.tmp 48) (.tmp 46), 0, "row.go:197", #[⟨7, .data⟩, ⟨5, .data⟩], none⟩
def even6_o9 : Oper := ⟨some 50, .load 3 (.tmp 49), 3, "row.go:197", #[⟨8, .data⟩], none⟩
def even6_o10 : Oper := ⟨some 51, .move (.tmp 0), 129, "row.go:197", #[{ on := 20, ground := Ground.gcOnly Departure.lateStores }], none⟩
def even6_o11 : Oper := ⟨some 52, .nilCheck (.tmp 51), 0, "row.go:197", #[⟨10, .data⟩, { on := 20, ground := Ground.gcOnly Departure.lateStores }], none⟩
def even6_o12 : Oper := ⟨some 53, .fieldAddr 75 (.tmp 52) 0, 0, "row.go:197", #[⟨11, .data⟩, { on := 20, ground := Ground.gcOnly Departure.lateStores }], none⟩
def even6_o13 : Oper := ⟨some 54, .load 73 (.tmp 53), 73, "row.go:197", #[⟨12, .data⟩, { on := 20, ground := Ground.gcOnly Departure.lateStores }], none⟩
def even6_o14 : Oper := ⟨some 55, .move (.tmp 6), 3, "row.go:197", #[{ on := 20, ground := Ground.gcOnly Departure.lateStores }], none⟩
def even6_o15 : Oper := ⟨some 56, .move (.tmp 5), 3, "row.go:197", #[{ on := 20, ground := Ground.gcOnly Departure.lateStores }], none⟩
def even6_o16 : Oper := ⟨some 57, .indexAddr 73 (.tmp 54) (.tmp 55), 0, "row.go:197", #[⟨13, .data⟩, ⟨14, .data⟩, { on := 20, ground := Ground.gcOnly Departure.lateStores }], none⟩
def even6_o17 : Oper := ⟨some 58, .fieldAddr 128 (.tmp 57) 3, 0, "row.go:197", #[⟨16, .data⟩, { on := 20, ground := Ground.gcOnly Departure.lateStores }], none⟩
def even6_o18 : Oper := ⟨some 59, .indexAddr 126 (.tmp 58) (.tmp 56), 0, "row.go:197", #[⟨17, .data⟩, ⟨15, .data⟩, { on := 20, ground := Ground.gcOnly Departure.lateStores }], none⟩
def even6_o19 : Oper := ⟨some 60, .load 3 (.tmp 59), 3, "row.go:197", #[⟨18, .data⟩, { on := 20, ground := Ground.gcOnly Departure.lateStores }], none⟩
def even6_o20 : Oper := ⟨some 8, .assign (.tmp 50), 3, "row.go:197", #[⟨9, .data⟩, ⟨0, .phase⟩, ⟨1, .phase⟩, ⟨2, .phase⟩, ⟨3, .phase⟩, ⟨4, .phase⟩, ⟨5, .phase⟩, ⟨6, .phase⟩, ⟨7, .phase⟩, ⟨8, .phase⟩, ⟨9, .phase⟩, { on := 10, ground := Ground.textOnly Departure.lateStores }, { on := 11, ground := Ground.textOnly Departure.lateStores }, { on := 12, ground := Ground.textOnly Departure.lateStores }, { on := 13, ground := Ground.textOnly Departure.lateStores }, { on := 14, ground := Ground.textOnly Departure.lateStores }, { on := 15, ground := Ground.textOnly Departure.lateStores }, { on := 16, ground := Ground.textOnly Departure.lateStores }, { on := 17, ground := Ground.textOnly Departure.lateStores }, { on := 18, ground := Ground.textOnly Departure.lateStores }, { on := 19, ground := Ground.textOnly Departure.lateStores }], none⟩
def even6_o21 : Oper := ⟨some 9, .assign (.tmp 60), 3, "row.go:197", #[⟨19, .data⟩, ⟨20, .chain⟩, ⟨0, .phase⟩, ⟨1, .phase⟩, ⟨2, .phase⟩, ⟨3, .phase⟩, ⟨4, .phase⟩, ⟨5, .phase⟩, ⟨6, .phase⟩, ⟨7, .phase⟩, ⟨8, .phase⟩, ⟨9, .phase⟩, ⟨10, .phase⟩, ⟨11, .phase⟩, ⟨12, .phase⟩, ⟨13, .phase⟩, ⟨14, .phase⟩, ⟨15, .phase⟩, ⟨16, .phase⟩, ⟨17, .phase⟩, ⟨18, .phase⟩, ⟨19, .phase⟩, ⟨20, .phase⟩], none⟩
def even6_ops : Array Oper := #[even6_o0, even6_o1, even6_o2, even6_o3, even6_o4, even6_o5, even6_o6, even6_o7, even6_o8, even6_o9, even6_o10, even6_o11, even6_o12, even6_o13, even6_o14, even6_o15, even6_o16, even6_o17, even6_o18, even6_o19, even6_o20, even6_o21]
theorem even6 {rb ro g cap : Nat} {L : List Sp} {p : Nat} {s o : Bool} (a : Act) (w : World) (Q : Exit → Act → World → Prop) (zz : a.tmps.size = 79)
    (t0 : a.tmps.getD 0 undef = .pointer (some ⟨rb, ro, none⟩))
    (t5 : a.tmps.getD 5 undef = .int .i64 (nb s : Int))
    (t6 : a.tmps.getD 6 undef = .int .i64 (p : Int))
    (t7 : a.tmps.getD 7 undef = .int .i64 (nb o : Int))
    (hR : SqAt w rb ro g cap L) (hp : p < L.length)
    (h : ∀ (a' : Act) (w' : World), w' = w.drew → a' = ((((((((((((((((((((((a).put (some 41) (.pointer (some ⟨rb, ro, none⟩))).put (some 42) (.pointer (some ⟨rb, ro, none⟩))).put (some 43) (.pointer (some ⟨rb, ro + 0, none⟩))).put (some 44) (.slice (some ⟨g, 0, none⟩) (L).length cap)).put (some 45) (.int .i64 (p : Int))).put (some 46) (.int .i64 (nb o : Int))).put (some 47) (.pointer (some ⟨g, 73 * p, none⟩))).put (some 48) (.pointer (some ⟨g, 73 * p + 69, none⟩))).put (some 49) (.pointer (some ⟨g, 73 * p + 69 + nb o, none⟩))).put (some 50) (.int .i64 (dn (gt L p) o : Int))).put (some 51) (.pointer (some ⟨rb, ro, none⟩))).put (some 52) (.pointer (some ⟨rb, ro, none⟩))).put (some 53) (.pointer (some ⟨rb, ro + 0, none⟩))).put (some 54) (.slice (some ⟨g, 0, none⟩) (L).length cap)).put (some 55) (.int .i64 (p : Int))).put (some 56) (.int .i64 (nb s : Int))).put (some 57) (.pointer (some ⟨g, 73 * p, none⟩))).put (some 58) (.pointer (some ⟨g, 73 * p + 69, none⟩))).put (some 59) (.pointer (some ⟨g, 73 * p + 69 + nb s, none⟩))).put (some 60) (.int .i64 (dn (gt L p) s : Int))).put (some 8) (.int .i64 (dn (gt L p) o : Int))).put (some 9) (.int .i64 (dn (gt L p) s : Int)) → Q .normal a' w') :
    (Code.region 6 even6_ops true).wp Tryz.prog Q a w := by
  refine y0 (fun w' => w' = w.drew) (rfl) (fun hHeld => ?_)
  refine yv 0 rfl rfl (fun w1 hw => xmv rfl (zi t0 rfl)) hHeld ?_
  refine yv 1 rfl rfl (fun w1 hw => xnc rfl (zg zz rfl)) hHeld ?_
  refine yv 2 rfl rfl (fun w1 hw => xfa rfl (zg zz rfl) (fg_75_0 _ _ _)) hHeld ?_
  refine yv 3 rfl rfl (fun w1 hw => xld rfl (zg zz rfl) (R_sl (hw ▸ hR.drew))) hHeld ?_
  refine yv 4 rfl rfl (fun w1 hw => xmv rfl (zi t6 rfl)) hHeld ?_
  refine yv 5 rfl rfl (fun w1 hw => xmv rfl (zi t7 rfl)) hHeld ?_
  refine yv 6 rfl rfl (fun w1 hw => xia rfl (zg zz rfl) (zg zz rfl) (R_ix hp hR.len _)) hHeld ?_
  refine yv 7 rfl rfl (fun w1 hw => xfa rfl (zg zz rfl) (fg_128_3 _ _ _)) hHeld ?_
  refine yv 8 rfl rfl (fun w1 hw => xia rfl (zg zz rfl) (zg zz rfl) (ix_ar _ o _)) hHeld ?_
  refine yv 9 rfl rfl (fun w1 hw => xld rfl (zg zz rfl) (R_dn (hw ▸ hR.drew) hp o)) hHeld ?_
  refine yv 10 rfl rfl (fun w1 hw => xmv rfl (zi t0 rfl)) hHeld ?_
  refine yv 11 rfl rfl (fun w1 hw => xnc rfl (zg zz rfl)) hHeld ?_
  refine yv 12 rfl rfl (fun w1 hw => xfa rfl (zg zz rfl) (fg_75_0 _ _ _)) hHeld ?_
  refine yv 13 rfl rfl (fun w1 hw => xld rfl (zg zz rfl) (R_sl (hw ▸ hR.drew))) hHeld ?_
  refine yv 14 rfl rfl (fun w1 hw => xmv rfl (zi t6 rfl)) hHeld ?_
  refine yv 15 rfl rfl (fun w1 hw => xmv rfl (zi t5 rfl)) hHeld ?_
  refine yv 16 rfl rfl (fun w1 hw => xia rfl (zg zz rfl) (zg zz rfl) (R_ix hp hR.len _)) hHeld ?_
  refine yv 17 rfl rfl (fun w1 hw => xfa rfl (zg zz rfl) (fg_128_3 _ _ _)) hHeld ?_
  refine yv 18 rfl rfl (fun w1 hw => xia rfl (zg zz rfl) (zg zz rfl) (ix_ar _ s _)) hHeld ?_
  refine yv 19 rfl rfl (fun w1 hw => xld rfl (zg zz rfl) (R_dn (hw ▸ hR.drew) hp s)) hHeld ?_
  refine yv 20 rfl rfl (fun w1 hw => xas rfl (zg zz rfl)) hHeld ?_
  refine yv 21 rfl rfl (fun w1 hw => xas rfl (zg zz rfl)) hHeld ?_
  exact ye rfl (h _ _ (hHeld) rfl)
def even7_o0 : Oper := ⟨some 61, .move (.tmp 0), 129, "row.go:198", #[], none⟩
def even7_o1 : Oper := ⟨some 62, .move (.tmp 8), 3, "row.go:198", #[], none⟩
def even7_o2 : Oper := ⟨some 63, .call { callee := Callee.value (Operand.func 124), args := #[.tmp 61, .tmp 62], argTypes := #[129, 3] }, 3, "row.go:198", #[⟨0, .data⟩, ⟨1, .data⟩], none⟩
def even7_o3 : Oper := ⟨some 64, .move (.tmp 0), 129, "row.go:198", #[], none⟩
def even7_o4 : Oper := ⟨some 65, .move (.tmp 9), 3, "row.go:198", #[], none⟩
def even7_o5 : Oper := ⟨some 66, .call { callee := Callee.value (Operand.func 124), args := #[.tmp 64, .tmp 65], argTypes := #[129, 3] }, 3, "row.go:198", #[⟨3, .data⟩, ⟨4, .data⟩, ⟨2, .chain⟩], none⟩
def even7_o6 : Oper := ⟨some 67, .binOp BinOp.mul 3 (Operand.const (Value.int IntKind.i64 2)) (.tmp 66) 3, 3, "row.go:198", #[⟨5, .data⟩], none⟩
def even7_o7 : Oper := ⟨some 68, .binOp BinOp.geq 3 (.tmp 63) (.tmp 67) 3, 4, "row.go:198", #[⟨2, .data⟩, ⟨6, .data⟩], none⟩
def even7_ops : Array Oper := #[even7_o0, even7_o1, even7_o2, even7_o3, even7_o4, even7_o5, even7_o6, even7_o7]
theorem even7 {rb ro p q x y : Nat} {r : Bool} (Fin : World → Prop) (a : Act) (w : World) (Q : Exit → Act → World → Prop) (zz : a.tmps.size = 79)
    (t0 : a.tmps.getD 0 undef = .pointer (some ⟨rb, ro, none⟩))
    (t8 : a.tmps.getD 8 undef = .int .i64 (p : Int))
    (t9 : a.tmps.getD 9 undef = .int .i64 (q : Int))
    (hm : 2 * y ≤ 9223372036854775807) (hr : decide ((x : Int) ≥ ((2 * y : Nat) : Int)) = r) (C1 : Calls Tryz.prog 124 #[.pointer (some ⟨rb, ro, none⟩), .int .i64 (p : Int)] w fun e w' => e = .returned (.int .i64 (x : Int)) ∧ Calls Tryz.prog 124 #[.pointer (some ⟨rb, ro, none⟩), .int .i64 (q : Int)] w' fun e2 w2 => e2 = .returned (.int .i64 (y : Int)) ∧ Fin w2)
    (h : ∀ (a' : Act) (w' : World), Fin w' → a' = ((((((((a).put (some 61) (.pointer (some ⟨rb, ro, none⟩))).put (some 62) (.int .i64 (p : Int))).put (some 63) (.int .i64 (x : Int))).put (some 64) (.pointer (some ⟨rb, ro, none⟩))).put (some 65) (.int .i64 (q : Int))).put (some 66) (.int .i64 (y : Int))).put (some 67) (.int .i64 ((2 * y : Nat) : Int))).put (some 68) (.bool r) → Q .normal a' w') :
    (Code.region 7 even7_ops false).wp Tryz.prog Q a w := by
  refine z0 rfl ?_
  refine zv rfl (xmv rfl (zi t0 rfl)) ?_
  refine zv rfl (xmv rfl (zi t8 rfl)) ?_
  refine zc rfl (exec_c2 rfl (zg zz rfl) (zg zz rfl)) (C1) (fun e x2 hx => ?_)
  obtain ⟨rfl, C2⟩ := hx
  refine ⟨_, rfl, ?_⟩
  refine zv rfl (xmv rfl (zi t0 rfl)) ?_
  refine zv rfl (xmv rfl (zi t9 rfl)) ?_
  refine zc rfl (exec_c2 rfl (zg zz rfl) (zg zz rfl)) (C2) (fun e x5 hx => ?_)
  obtain ⟨rfl, HF⟩ := hx
  refine ⟨_, rfl, ?_⟩
  refine zv (v := .int .i64 ((2 * y : Nat) : Int)) rfl (ex_mulN (p := 2) rfl rfl (zg zz rfl) hm) ?_
  refine zv (v := .bool r) rfl (ex_geq rfl (zg zz rfl) (zg zz rfl) hr) ?_
  exact ze rfl (h _ _ (HF) rfl)
def mend2_o0 : Oper := ⟨some 9, .move (.tmp 0), 129, "row.go:157", #[], none⟩
def mend2_o1 : Oper := ⟨some 10, .nilCheck (.tmp 9), 0, "row.go:157", #[⟨0, .data⟩], none⟩
def mend2_o2 : Oper := ⟨some 11, .fieldAddr 75 (.tmp 10) 0, 0, "row.go:157", #[⟨1, .data⟩], none⟩
def mend2_o3 : Oper := ⟨some 12, .load 73 (.tmp 11), 73, "row.go:157", #[⟨2, .data⟩], none⟩
def mend2_o4 : Oper := ⟨some 13, .move (.tmp 0), 129, "row.go:157", #[], none⟩
def mend2_o5 : Oper := ⟨some 14, .move (.tmp 1), 3, "row.go:157", #[], none⟩
def mend2_o6 : Oper := ⟨some 15, .call { callee := Callee.value (Operand.func 97), args := #[.tmp 13, .tmp 14], argTypes := #[129, 3] }, 3, "row.go:157", #[⟨4, .data⟩, ⟨5, .data⟩], none⟩
def mend2_o7 : Oper := ⟨some 16, .indexAddr 73 (.tmp 12) (.tmp 15), 0, "row.go:157", #[⟨3, .data⟩, ⟨6, .data⟩], none⟩
def mend2_o8 : Oper := ⟨some 17, .fieldAddr 128 (.tmp 16) 2, 0, "row.go:157", #[⟨7, .data⟩], none⟩
def mend2_o9 : Oper := ⟨some 18, .load 3 (.tmp 17), 3, "row.go:157", #[⟨8, .data⟩], none⟩
def mend2_o10 : Oper := ⟨some 1, .assign (.tmp 18), 3, "row.go:157", #[⟨9, .data⟩, ⟨6, .chain⟩, ⟨0, .phase⟩, ⟨1, .phase⟩, ⟨2, .phase⟩, ⟨3, .phase⟩, ⟨4, .phase⟩, ⟨5, .phase⟩, ⟨6, .phase⟩, ⟨7, .phase⟩, ⟨8, .phase⟩, ⟨9, .phase⟩], none⟩
def mend2_ops : Array Oper := #[mend2_o0, mend2_o1, mend2_o2, mend2_o3, mend2_o4, mend2_o5, mend2_o6, mend2_o7, mend2_o8, mend2_o9, mend2_o10]
theorem mend2 {rb ro g cap N i j k : Nat} (Fin : World → Prop) (a : Act) (w : World) (Q : Exit → Act → World → Prop) (zz : a.tmps.size = 19)
    (t0 : a.tmps.getD 0 undef = .pointer (some ⟨rb, ro, none⟩))
    (t1 : a.tmps.getD 1 undef = .int .i64 (i : Int))
    (h0 : MS rb ro g cap N w.drew) (XJ : ∀ W, (Instr.indexAt 73 (.slice (some ⟨g, 0, none⟩) N cap) (.int .i64 (j : Int))).run Tryz.prog W = .ok (.pointer (some ⟨g, 73 * j, none⟩)) W) (CE : Calls Tryz.prog 97 #[.pointer (some ⟨rb, ro, none⟩), .int .i64 (i : Int)] w.drew fun e w' => e = .returned (.int .i64 (j : Int)) ∧ MS rb ro g cap N w' ∧ (Instr.loadAt 3 (.pointer (some ⟨g, 73 * j + 68, none⟩))).run Tryz.prog w' = .ok (.int .i64 (k : Int)) w' ∧ Fin w')
    (h : ∀ (a' : Act) (w' : World), Fin w' → a' = (((((((((((a).put (some 9) (.pointer (some ⟨rb, ro, none⟩))).put (some 10) (.pointer (some ⟨rb, ro, none⟩))).put (some 11) (.pointer (some ⟨rb, ro + 0, none⟩))).put (some 12) (.slice (some ⟨g, 0, none⟩) N cap)).put (some 13) (.pointer (some ⟨rb, ro, none⟩))).put (some 14) (.int .i64 (i : Int))).put (some 15) (.int .i64 (j : Int))).put (some 16) (.pointer (some ⟨g, 73 * j, none⟩))).put (some 17) (.pointer (some ⟨g, 73 * j + 68, none⟩))).put (some 18) (.int .i64 (k : Int))).put (some 1) (.int .i64 (k : Int)) → Q .normal a' w') :
    (Code.region 2 mend2_ops true).wp Tryz.prog Q a w := by
  refine y0 (fun w' => MS rb ro g cap N w') (h0) (fun hHeld => ?_)
  refine yv 0 rfl rfl (fun w1 hw => xmv rfl (zi t0 rfl)) hHeld ?_
  refine yv 1 rfl rfl (fun w1 hw => xnc rfl (zg zz rfl)) hHeld ?_
  refine yv 2 rfl rfl (fun w1 hw => xfa rfl (zg zz rfl) (fg_75_0 _ _ _)) hHeld ?_
  refine yv 3 rfl rfl (fun w1 hw => xld rfl (zg zz rfl) hw) hHeld ?_
  refine yv 4 rfl rfl (fun w1 hw => xmv rfl (zi t0 rfl)) hHeld ?_
  refine yv 5 rfl rfl (fun w1 hw => xmv rfl (zi t1 rfl)) hHeld ?_
  refine yc 6 rfl rfl (exec_c2 rfl (zg zz rfl) (zg zz rfl)) (CE) (fun e x6 hx => ?_)
  obtain ⟨rfl, S1, LK, HF⟩ := hx
  refine ⟨_, rfl, S1, fun hHeld => ?_⟩
  refine yv 7 rfl rfl (fun w1 hw => xia rfl (zg zz rfl) (zg zz rfl) (XJ _)) hHeld ?_
  refine yv 8 rfl rfl (fun w1 hw => xfa rfl (zg zz rfl) (fg_128_2 _ _ _)) hHeld ?_
  refine yr (v := .int .i64 (k : Int)) 9 rfl rfl (xld rfl (zg zz rfl) LK) (S1) (fun hHeld => ?_)
  refine yv 10 rfl rfl (fun w1 hw => xas rfl (zg zz rfl)) hHeld ?_
  exact ye rfl (h _ _ (HF) rfl)
theorem ix_lt {L : List Sp} {p : Nat} {t : T} (h : Rep L p t) (h0 : 0 < L.length) : t.ix < L.length := by
  cases t with
  | nil => exact h0
  | nd i l r => exact h.2.1
theorem ids_le {L : List Sp} {c : Ctx} {t : T} (z : Zip L c t) : t.ids.length < L.length := by
  have nd := (List.nodup_append.1 z.nd).1
  have : (0 :: t.ids).Nodup := List.nodup_cons.2 ⟨fun h => (z.rep.mem 0 h).1 rfl, nd⟩
  have := this.length_le_of_subset (l₂ := List.range L.length) (fun i hi => by
    rcases List.mem_cons.1 hi with rfl | hi
    · exact List.mem_range.2 z.repc.pos
    · exact List.mem_range.2 (z.rep.mem i hi).2)
  simp at this
  omega
theorem cnt_le (L : List Sp) (w : Bool) (t : T) : cnt L w t ≤ t.ids.length := by
  unfold cnt
  exact List.countP_le_length
theorem Sq.Cnt.small {L : List Sp} {c : Ctx} {t : T} (h : Cnt L t) (z : Zip L c t) (w : Bool) : ct (gt L t.ix) w < L.length := by
  rw [h.at z.z w]
  have := cnt_le L w t
  have := ids_le z
  omega
section
variable {w : World} {rb ro g cap i : Nat} {L : List Sp}
theorem tally_nd {c : Ctx} {l r : T} (h : SqAt w rb ro g cap L) (z : Zip L c (.nd i l r)) (hl : Cnt L l) (hr : Cnt L r) : Calls Tryz.prog 96 #[.pointer (some ⟨rb, ro, none⟩), .int .i64 (i : Int)] w fun e w' => e = .returned (.tuple #[]) ∧ Did w rb ro g cap (tally L i) w' := by
  obtain ⟨h1, h2, h3, h4, h5, h6, h7⟩ := z.rep
  have zl := Zip.into (s := false) (o := r) z
  have zr := Zip.into (s := true) (o := l) z
  have hp := z.repc.pos
  have hlen := h.len
  refine tally_any h h2 (by rw [h4]; exact ix_lt h6 hp) (by rw [h5]; exact ix_lt h7 hp) (fun e => ?_) (fun d => ?_) (fun d => ?_)
  · rw [h5] at e
    have nd := (List.nodup_append.1 z.nd).1
    simp only [T.ids, List.nodup_append, List.nodup_cons] at nd
    exact nd.2.1.1 (e ▸ ix_mem (t := r) (by rw [e]; exact h1))
  · rw [h4]; have := hl.small zl d; omega
  · rw [h5]; have := hr.small zr d; omega
theorem tally_mk {c : Ctx} {s : Bool} {t o : T} (h : SqAt w rb ro g cap L) (z : Zip L c (mk i s t o)) (ht : Cnt L t) (ho : Cnt L o) : Calls Tryz.prog 96 #[.pointer (some ⟨rb, ro, none⟩), .int .i64 (i : Int)] w fun e w' => e = .returned (.tuple #[]) ∧ Did w rb ro g cap (tally L i) w' := by
  cases s
  · exact tally_nd h z ht ho
  · exact tally_nd h z ho ht
theorem lift_any {c : Ctx} {a b : Nat} {s : Bool} {P Q Z : T} (h : SqAt w rb ro g cap L) (z : Zip L c (mk a s (mk b s P Q) Z)) (hP : Cnt L P) (hQ : Cnt L Q) (hZ : Cnt L Z) :
    Calls Tryz.prog 125 #[.pointer (some ⟨rb, ro, none⟩), .int .i64 (b : Int)] w fun e w' => e = .returned (.tuple #[]) ∧ Did w rb ro g cap (lift L b) w' := by
  obtain ⟨a1, a2, a3, a4, a5, a6, a7⟩ := rep_mk.1 z.rep
  obtain ⟨b1, b2, b3, b4, b5, b6, b7⟩ := rep_mk.1 a6
  have zi := z.into
  have sb : sideOf L b = s := by have := zi.side (by rw [mk_ix]; exact b1); rwa [mk_ix] at this
  have sa : sideOf L a = sd c := by have := z.side (by rw [mk_ix]; exact a1); rwa [mk_ix] at this
  have hc : RepC L c a := by have := z.repc; rwa [mk_ix] at this
  have hu := hc.up_lt
  have nd := ((mk_perm a s (mk b s P Q) Z).append_right (cids c)).nodup_iff.1 z.nd
  simp only [List.cons_append, List.nodup_cons, List.mem_append, not_or, List.nodup_append, mk_mem] at nd
  have nab : a ≠ b := nd.1.1.1.1
  have nbC : b ∉ cids c := fun hh => nd.2.2.2 b (.inl (.inl rfl)) b hh rfl
  have ub : upOf c ≠ b := fun e => by
    rcases upOf_mem c with e0 | e0
    · omega
    · exact nbC (e ▸ e0)
  obtain ⟨z1, k1, c1, _⟩ := lift0_zip z
  have sm : ∀ {t : T}, Cnt L t → Cnt (lift0 L b) t := fun h => h.same (fun i _ => ⟨k1.sh i, fun w => c1 i w⟩)
  have zin : Zip (lift0 L b) ((b, !s, P) :: c) (mk a s Q Z) := by
    rw [mk_flip b] at z1; exact z1.into
  have c2 := tally_cnt zin (sm hQ) (sm hZ)
  have z2 := z1.tally a1
  have nd1 := (((mk_perm b s P _).append_right _).nodup_iff.1 z1.nd)
  simp only [List.cons_append, List.nodup_cons, List.mem_append, not_or, List.nodup_append, mk_mem] at nd1
  have cP2 := (sm hP).tally (a := a) (fun h => nd1.2.1.2.2 a h a (.inl rfl) rfl)
  have e1 : repl L a b = hang L (upOf c) (sd c) b := by unfold repl; rw [a3, sa]
  have eQ : dn (gt (repl L a b) b) (!s) = Q.ix := by rw [e1, hang_dn, if_neg (fun q => ub q.1)]; exact b5
  have qlt : Q.ix < L.length := ix_lt b7 hc.pos
  have l1 : (repl L a b).length = L.length := by rw [e1, hang_len]
  have EL := hidMk (show lift0 L b = hang (hang (repl L a b) a s Q.ix) b (!s) a from by
    unfold lift0
    simp only [b3, sb, eQ])
  have ELL := hidMk (show lift L b = tally (tally (lift0 L b) a) b from by unfold lift; rw [b3])
  clear nd nd1 e1 nbC
  go_enter Tryz.func125, Tryz.ntmps125
  go_upto_region 0 with fail
  refine lift0r (s := s) _ _ _ rfl rfl rfl h b2 h.len ?_ ?_
  · refine (side_any h.drew b2 (by rw [b3]; exact a2)).mono ?_
    rintro e w1 ⟨rfl, q1⟩
    exact ⟨by rw [sb], h.drew.qt q1, (Qt.drew w).trans q1⟩
  rw [b3]
  intro a' w1 hw ha
  subst ha
  simp only [Act.put, List.setIfInBounds_toArray, List.set_cons_zero, List.set_cons_succ]
  have d1 : Did w rb ro g cap L w1 := ⟨hw.1, hw.2.tch _, hw.2.size⟩
  have HR := hidMk (replace_any d1.at' a2 (by rw [a3]; exact hu) b2 (Ne.symm nab))
  clear hw
  go_upto_region 2 with (first
    | (go_at_call 152; refine HR.out.mono ?_; rintro e w2 ⟨rfl, d2⟩; clear HR)
    | fail)
  replace d2 := d1.trans d2
  refine lift2r (L := repl L a b) (s := s) (fun w' => Did w rb ro g cap (hang (repl L a b) a s Q.ix) w') _ _ _ rfl rfl rfl rfl rfl d2.at' (by rw [l1]; exact b2) ?_ ?_
  · rw [eQ]
    refine (hang_any d2.at' (by rw [l1]; exact a2) (by rw [l1]; exact qlt)).mono ?_
    rintro e w3 ⟨rfl, d3⟩
    exact ⟨rfl, d2.trans d3⟩
  intro a' w3 d3 ha
  subst ha
  simp only [Act.put, List.setIfInBounds_toArray, List.set_cons_zero, List.set_cons_succ]
  go_upto_region 3 with fail
  refine lift3r (s := s) (fun w' => Did w rb ro g cap (lift0 L b) w') _ _ _ rfl rfl rfl rfl rfl ?_ ?_
  · refine (hang_any d3.at' (by rw [hang_len, l1]; exact b2) (by rw [hang_len, l1]; exact a2)).mono ?_
    rintro e w4 ⟨rfl, d4⟩
    refine ⟨rfl, ?_⟩
    rw [EL.out]
    exact d3.trans d4
  intro a' w4 d4 ha
  subst ha
  simp only [Act.put, List.setIfInBounds_toArray, List.set_cons_zero, List.set_cons_succ]
  have HT1 := hidMk (tally_mk d4.at' zin (sm hQ) (sm hZ))
  have HT2 := hidMk (fun (w5 : World) (d5 : Did w4 rb ro g cap (tally (lift0 L b) a) w5) => tally_mk d5.at' z2 cP2 c2)
  clear d1 d2 d3 eQ qlt
  go_wp2_with (first
    | (go_at_call_of 96 (Value.int .i64 (a : Int)); refine HT1.out.mono ?_; rintro e w5 ⟨rfl, d5⟩; clear HT1)
    | (go_at_call_of 96 (Value.int .i64 (b : Int)); refine (HT2.out _ d5).mono ?_; rintro e w6 ⟨rfl, d6⟩; clear HT2)
    | fail)
  go_end0
  refine ⟨rfl, ?_⟩
  rw [ELL.out]
  exact (d4.trans d5).trans d6
end
section
variable {w : World} {rb ro g cap i : Nat} {L : List Sp}
theorem wt_weight {c : Ctx} {t : T} (h : SqAt w rb ro g cap L) (z : Zip L c t) (hc : Cnt L t) : Calls Tryz.prog 124 #[.pointer (some ⟨rb, ro, none⟩), .int .i64 (t.ix : Int)] w fun e w' => e = .returned (.int .i64 (wt L t.ix : Int)) ∧ w' = w := by
  have := hc.small z false
  have := h.len
  exact weight_any h (ix_lt z.rep z.repc.pos) (by omega)
theorem wt_le {c : Ctx} {t : T} (h : SqAt w rb ro g cap L) (z : Zip L c t) (hc : Cnt L t) : wt L t.ix ≤ 1400000000000 := by
  have := h.len
  unfold wt
  have h1 : (gt L t.ix).ca < L.length := by have := hc.small z false; simpa [ct] using this
  omega
structure Hv (L : List Sp) (c : Ctx) (i : Nat) (s : Bool) (p q : Nat) (P Q Z : T) : Prop where
  z : Zip L c (mk i s (mk p s P Q) Z)
  cP : Cnt L P
  cQ : Cnt L Q
  cZ : Cnt L Z
  q : Q.ix = q
  dp : dn (gt L i) s = p
  dP : dn (gt L p) s = P.ix
  dQ : dn (gt L p) (!s) = Q.ix
theorem hv_of {c : Ctx} {s : Bool} {B Z : T} (z : Zip L c (mk i s B Z)) (hc : Cnt L (mk i s B Z)) (hh : heavyAt L i s = true) : ∃ p q P Q, Hv L c i s p q P Q Z := by
  obtain ⟨h1, h2, h3, h4, h5, h6, h7⟩ := rep_mk.1 z.rep
  obtain ⟨_, cB, cZ⟩ := cnt_mk.1 hc
  have hB : B.ix ≠ 0 := fun e => by
    unfold heavyAt at hh
    rw [h4, h5, e, wt_nil z.z] at hh
    have := wt_pos L Z.ix
    simp at hh
    omega
  obtain ⟨P, Q, eB⟩ := as_mk s hB
  obtain ⟨p, hp⟩ : ∃ p, B.ix = p := ⟨_, rfl⟩
  rw [hp] at eB hB h4
  subst eB
  obtain ⟨b1, b2, b3, b4, b5, b6, b7⟩ := rep_mk.1 h6
  obtain ⟨_, cP, cQ⟩ := cnt_mk.1 cB
  exact ⟨p, Q.ix, P, Q, z, cP, cQ, cZ, rfl, h4, b4, b5⟩
theorem Hv.zQ {c : Ctx} {s : Bool} {p q : Nat} {P Q Z : T} (h : Hv L c i s p q P Q Z) : Zip L ((p, !s, P) :: (i, s, Z) :: c) Q := by
  have := h.z.into
  rw [mk_flip p] at this
  exact this.into
theorem Hv.zP {c : Ctx} {s : Bool} {p q : Nat} {P Q Z : T} (h : Hv L c i s p q P Q Z) : Zip L ((p, s, Q) :: (i, s, Z) :: c) P := h.z.into.into
theorem Hv.evenAt {c : Ctx} {s : Bool} {p q : Nat} {P Q Z : T} (h : Hv L c i s p q P Q Z) : Sq.evenAt L i s = if 2 * wt L P.ix ≤ wt L Q.ix then (lift (lift L q) q, q) else (lift L p, p) := by
  unfold Sq.evenAt
  simp only [h.dp, h.dP, h.dQ, h.q]
theorem lift_two {c : Ctx} {s : Bool} {p q : Nat} {P Q Z : T} (h : SqAt w rb ro g cap L) (v : Hv L c i s p q P Q Z) (hin : 2 * wt L P.ix ≤ wt L Q.ix) : Calls Tryz.prog 125 #[.pointer (some ⟨rb, ro, none⟩), .int .i64 (q : Int)] w fun e w' => e = .returned (.tuple #[]) ∧ Did w rb ro g cap (lift L q) w' ∧
    Calls Tryz.prog 125 #[.pointer (some ⟨rb, ro, none⟩), .int .i64 (q : Int)] w' fun e w2 => e = .returned (.tuple #[]) ∧ Did w rb ro g cap (lift (lift L q) q) w2 := by
  have hQ : Q.ix ≠ 0 := fun e => by
    rw [e, wt_nil v.z.z] at hin
    have := wt_pos L P.ix
    omega
  obtain ⟨P', Q', eQ⟩ := as_mk (!s) hQ
  rw [v.q] at eQ
  have z := v.z
  have cQ := v.cQ
  rw [eQ] at z cQ
  obtain ⟨_, cP', cQ'⟩ := cnt_mk.1 cQ
  have zin : Zip L ((i, s, Z) :: c) (mk p (!s) (mk q (!s) P' Q') P) := by
    have := z.into
    rwa [mk_flip p] at this
  obtain ⟨z1, c1, k1, e1⟩ := lift_zip zin cP' cQ' v.cP
  have z1o := z1.out
  rw [mk_flip q (!s), Bool.not_not] at z1o c1
  obtain ⟨_, cX, cP1⟩ := cnt_mk.1 c1
  have nd := ((mk_perm i s _ Z).append_right (cids c)).nodup_iff.1 z.nd
  simp only [List.cons_append, List.nodup_cons, List.mem_append, not_or, List.nodup_append, mk_mem] at nd
  have nqZ : ∀ j ∈ Z.ids, j ≠ p ∧ j ≠ q := fun j hj => ⟨fun e => nd.2.1.2.2 p (.inl rfl) j hj e.symm, fun e => nd.2.1.2.2 q (.inr (.inr (.inl rfl))) j hj e.symm⟩
  have cZ1 : Cnt (lift L q) Z := v.cZ.same (fun j hj => ⟨k1.sh j, fun w => e1 j (nqZ j hj).1 (nqZ j hj).2 w⟩)
  refine (lift_any h zin cP' cQ' v.cP).mono ?_
  rintro e w1 ⟨rfl, d1⟩
  refine ⟨rfl, d1, ?_⟩
  refine (lift_any d1.at' z1o cX cP1 cZ1).mono ?_
  rintro e w2 ⟨rfl, d2⟩
  exact ⟨rfl, d1.trans d2⟩
theorem even_any {c : Ctx} {l r : T} (h : SqAt w rb ro g cap L) (z : Zip L c (.nd i l r)) (hc : Cnt L (.nd i l r)) :
    Calls Tryz.prog 97 #[.pointer (some ⟨rb, ro, none⟩), .int .i64 (i : Int)] w fun e w' => e = .returned (.int .i64 ((even L i).2 : Int)) ∧ Did w rb ro g cap (even L i).1 w' := by
  have hi : i < L.length := z.rep.2.1
  go_enter Tryz.func97, Tryz.ntmps97
  go_upto_region 1 with fail
  refine even1 _ _ _ rfl rfl rfl h hi ?_
  intro a' w1 hw ha
  subst ha
  obtain rfl : w1 = w := hw
  simp only [Act.put, List.setIfInBounds_toArray, List.set_cons_zero, List.set_cons_succ]
  go_wp2
  go_loopw [18] (fun v18 wr => ∃ k : Nat, v18 = .int .i64 (k : Int) ∧ k ≤ 2 ∧ (1 ≤ k → heavyAt L i false = false) ∧ (2 ≤ k → heavyAt L i true = false) ∧ Did w1 rb ro g cap L wr) (fun v18 _ => 2 - (match v18 with | .int _ i => i.toNat | _ => 0))
  case atStart => exact ⟨0, rfl, by omega, by omega, by omega, Did.refl h⟩
  case round =>
    obtain ⟨k, rfl, hk2, hf1, hf2, d⟩ := hrel
    by_cases hk : k < 2
    · have hk' : (k : Int) < 2 := by omega
      obtain ⟨s, hs⟩ : ∃ s, s = wh k := ⟨_, rfl⟩
      have hnb : (k : Int) = ((nb s : Nat) : Int) := by
        have : k = 0 ∨ k = 1 := by omega
        rw [hs]
        rcases this with rfl | rfl <;> rfl
      have hev : heavyAt L i s = true → even L i = evenAt L i s := fun hh => by
        have : k = 0 ∨ k = 1 := by omega
        rcases this with rfl | rfl
        · rw [show s = false from hs] at hh ⊢
          unfold even
          rw [if_pos hh]
        · rw [show s = true from hs] at hh ⊢
          unfold even
          rw [if_neg (by rw [hf1 (by omega)]; decide), if_pos hh]
      obtain ⟨B, Z, eT⟩ := as_mk s (t := .nd i l r) (show i ≠ 0 from z.rep.1)
      change T.nd i l r = mk i s B Z at eT
      have zB := z
      have cB := hc
      rw [eT] at zB cB
      obtain ⟨h1, h2, h3, h4, h5, h6, h7⟩ := rep_mk.1 zB.rep
      obtain ⟨_, cB1, cZ1⟩ := cnt_mk.1 cB
      have zB1 := zB.into
      have zZ1 : Zip L ((i, !s, B) :: c) Z := by have := zB; rw [mk_flip] at this; exact this.into
      have HWB := hidMk (fun (W : World) (hW : SqAt W rb ro g cap L) => wt_weight hW zB1 cB1)
      have HWZ := hidMk (fun (W : World) (hW : SqAt W rb ro g cap L) => wt_weight hW zZ1 cZ1)
      have bZ := wt_le d.at' zZ1 cZ1
      have hhe : heavyAt L i s = decide (3 * wt L Z.ix < wt L B.ix) := by unfold heavyAt; rw [h4, h5]
      have HX := hidMk (show heavyAt L i s = false → (1 ≤ k + 1 → heavyAt L i false = false) ∧ (2 ≤ k + 1 → heavyAt L i true = false) from fun hq => by
        have : k = 0 ∨ k = 1 := by omega
        rcases this with rfl | rfl
        · rw [show s = false from hs] at hq
          exact ⟨fun _ => hq, fun h => by omega⟩
        · rw [show s = true from hs] at hq
          exact ⟨fun _ => hf1 (by omega), fun _ => hq⟩)
      have HNB := hidMk hnb
      have HEV := hidMk hev
      clear hf1 hf2 zZ1 zB1 h6 h7 hs hev
      rw [hnb] at hk' ⊢
      clear hnb
      go_upto_region 3 with fail
      refine even3 (s := s) (i := i) _ _ _ rfl rfl rfl ?_
      intro a' w2 hw ha
      subst ha
      obtain rfl : w2 = wr := hw
      simp only [Act.put, List.setIfInBounds_toArray, List.set_cons_zero, List.set_cons_succ]
      go_upto_region 4 with fail
      refine even4 (s := s) _ _ _ rfl rfl ?_
      intro a' w3 hw ha
      subst ha
      obtain rfl : w3 = w2 := hw
      simp only [Act.put, List.setIfInBounds_toArray, List.set_cons_zero, List.set_cons_succ]
      go_upto_region 5 with fail
      refine even5 (L := L) (p := dn (gt L i) s) (o := !s) (x := wt L B.ix) (y := wt L Z.ix) (r := !(heavyAt L i s)) _ _ _ rfl rfl rfl rfl rfl d.at' hi h.len (by omega) ?_ ?_ ?_
      · rw [hhe, Bool.eq_iff_iff]
        simp
        omega
      · rw [h4, h5]
        refine (HWB.out _ d.at'.drew).mono ?_
        rintro e wa ⟨rfl, rfl⟩
        refine ⟨rfl, ⟨d.at'.drew, Qt.drew _⟩, ?_⟩
        refine (HWZ.out _ d.at'.drew).mono ?_
        rintro e wb ⟨rfl, rfl⟩
        exact ⟨rfl, d.at'.drew, Qt.drew _⟩
      intro a' w4 hw ha
      subst ha
      replace d := d.qt hw.2
      clear hw HWB HWZ hhe bZ
      simp only [Act.put, List.setIfInBounds_toArray, List.set_cons_zero, List.set_cons_succ]
      cases hh : heavyAt L i s with
      | false =>
        have H2 := hidMk (HX.out hh)
        clear hh HX HEV h1 h2 h3 h4 h5 zB cB cB1 cZ1 eT
        go_wp2
        rw [show (((nb s : Nat) : Int) + 1) = ((k + 1 : Nat) : Int) by have := HNB.out; omega]
        refine ⟨⟨k + 1, rfl, hk, H2.out.1, H2.out.2, d⟩, ?_⟩
        show 2 - ((k + 1 : Nat) : Int).toNat < 2 - ((nb s : Nat) : Int).toNat
        rw [← HNB.out]
        omega
      | true =>
        have HE := hidMk (HEV.out hh)
        obtain ⟨p, q, P, Q, v⟩ := hv_of zB cB hh
        have hpl : p < L.length := by
          have := (rep_mk.1 (rep_mk.1 v.z.rep).2.2.2.2.2.1).2.1
          exact this
        have HWQ := hidMk (fun (W : World) (hW : SqAt W rb ro g cap L) => wt_weight hW v.zQ v.cQ)
        have HWP := hidMk (fun (W : World) (hW : SqAt W rb ro g cap L) => wt_weight hW v.zP v.cP)
        have bP := wt_le d.at' v.zP v.cP
        have HVE := hidMk (v.evenAt)
        clear hh HX HEV h1 h2 h3 h4 h5 zB cB cB1 cZ1 eT HNB hk' hk hk2
        rw [v.dp]
        go_upto_region 6 with fail
        refine even6 (s := s) (o := !s) _ _ _ rfl rfl rfl rfl rfl d.at' hpl ?_
        rw [v.dP, v.dQ]
        intro a' w5 hw ha
        subst ha
        replace d := d.qt (show Qt w4 w5 by rw [hw]; exact Qt.drew _)
        clear hw
        simp only [Act.put, List.setIfInBounds_toArray, List.set_cons_zero, List.set_cons_succ]
        go_upto_region 7 with fail
        by_cases hin : 2 * wt L P.ix ≤ wt L Q.ix
        · refine even7 (p := Q.ix) (q := P.ix) (x := wt L Q.ix) (y := wt L P.ix) (r := true) (fun w' => Did w1 rb ro g cap L w') _ _ _ rfl rfl rfl rfl (by omega) (by simp; omega) ?_ ?_
          · refine (HWQ.out _ d.at').mono ?_
            rintro e wa ⟨rfl, rfl⟩
            refine ⟨rfl, ?_⟩
            refine (HWP.out _ d.at').mono ?_
            rintro e wb ⟨rfl, rfl⟩
            exact ⟨rfl, d⟩
          rw [v.q]
          intro a' w6 d6 ha
          subst ha
          simp only [Act.put, List.setIfInBounds_toArray, List.set_cons_zero, List.set_cons_succ]
          have H1 := hidMk (lift_two d6.at' v hin)
          have HF := hidMk (show even L i = (lift (lift L q) q, q) by rw [HE.out, HVE.out, if_pos hin])
          clear hin HWQ HWP HE HVE bP d
          go_upto_region 10 with (first
            | (go_at_call 125; refine H1.out.mono ?_; rintro e w7 ⟨rfl, d7, H2⟩; replace H2 := hidMk H2; clear H1)
            | fail)
          go_wp2_with (first
            | (go_at_call 125; refine H2.out.mono ?_; rintro e w8 ⟨rfl, d8⟩; clear H2)
            | fail)
          go_ret
          refine ⟨by rw [HF.out]; rfl, ?_⟩
          rw [HF.out]
          exact d6.trans d8
        · refine even7 (p := Q.ix) (q := P.ix) (x := wt L Q.ix) (y := wt L P.ix) (r := false) (fun w' => Did w1 rb ro g cap L w') _ _ _ rfl rfl rfl rfl (by omega) (by simp; omega) ?_ ?_
          · refine (HWQ.out _ d.at').mono ?_
            rintro e wa ⟨rfl, rfl⟩
            refine ⟨rfl, ?_⟩
            refine (HWP.out _ d.at').mono ?_
            rintro e wb ⟨rfl, rfl⟩
            exact ⟨rfl, d⟩
          intro a' w6 d6 ha
          subst ha
          simp only [Act.put, List.setIfInBounds_toArray, List.set_cons_zero, List.set_cons_succ]
          have H1 := hidMk (lift_any d6.at' v.z v.cP v.cQ v.cZ)
          have HF := hidMk (show even L i = (lift L p, p) by rw [HE.out, HVE.out, if_neg hin])
          clear hin HWQ HWP HE HVE bP d
          go_wp2_with (first
            | (go_at_call 125; refine H1.out.mono ?_; rintro e w8 ⟨rfl, d8⟩; clear H1)
            | fail)
          go_ret
          refine ⟨by rw [HF.out]; rfl, ?_⟩
          rw [HF.out]
          exact d6.trans d8
    · obtain rfl : k = 2 := by omega
      have HF := hidMk (show even L i = (L, i) by unfold even; rw [if_neg (by rw [hf1 (by omega)]; decide), if_neg (by rw [hf2 (by omega)]; decide)])
      clear hk hk2 hf1 hf2
      go_wp2
      go_ret
      refine ⟨by rw [HF.out]; rfl, ?_⟩
      rw [HF.out]
      exact d
end
def upW (w : World) (g a : Nat) : Nat := match w.cell? ⟨g, 73 * a + 68, none⟩ with | some (.int _ n) => n.toNat | _ => 0
theorem upW_eq {w : World} {rb ro g cap : Nat} {L : List Sp} (h : SqAt w rb ro g cap L) : ∀ a, a < L.length → upW w g a = (gt L a).up := fun a ha => by
  have := R_cell h ha 1 _ rfl
  unfold upW
  rw [show 73 * a + 68 = 73 * a + (67 + 1) by omega, this]
  simp
def MInv (L : List Sp) (a : Nat) (I : List Nat) : Prop := (a = 0 ∧ ∃ t, Zip L [] t ∧ Cnt L t ∧ t.ids = I) ∨ ∃ c i l r, a = i ∧ Mid L c (.nd i l r) ∧ (plug c (.nd i l r)).ids = I
theorem MInv.of_mid {L : List Sp} {c : Ctx} {t : T} (m : Mid L c t) : MInv L t.ix (plug c t).ids := by
  obtain ⟨z, hcc, i, l, r, rfl, hl, hr⟩ := m
  exact .inr ⟨c, i, l, r, rfl, ⟨z, hcc, i, l, r, rfl, hl, hr⟩, rfl⟩
theorem MInv.of_up {L : List Sp} {c : Ctx} {t : T} (u : Up L c t) : MInv L (upOf c) (plug c t).ids := by
  rcases u.next with ⟨rfl, e⟩ | ⟨i, s, o, c', rfl, e, _, m⟩
  · exact .inl ⟨e, t, u.1, u.2.2, rfl⟩
  · have := MInv.of_mid m
    rw [mk_ix] at this
    exact this
theorem dep_mid {L : List Sp} {c : Ctx} {i : Nat} {l r : T} (f : Nat → Nat) (hf : ∀ a, a < L.length → f a = (gt L a).up) (z : Zip L c (.nd i l r)) : dep f L.length i = c.length + 1 := by
  have hcl := ctx_len z.repc (List.nodup_append.1 z.nd).2.1
  obtain ⟨h1, h2, h3, _⟩ := z.rep
  obtain ⟨n, hn⟩ : ∃ n, L.length = n + 1 := ⟨L.length - 1, by omega⟩
  rw [hn, dep, if_neg h1, hf i h2, h3, dep_ctx f hf c _ n z.repc (by omega)]
section
variable {w : World} {rb ro g cap i : Nat} {L : List Sp}
theorem mend_any {I : List Nat} (h : SqAt w rb ro g cap L) (m : MInv L i I) :
    Calls Tryz.prog 74 #[.pointer (some ⟨rb, ro, none⟩), .int .i64 (i : Int)] w fun e w' => e = .returned (.tuple #[]) ∧ ∃ L' t', Zip L' [] t' ∧ Cnt L' t' ∧ t'.ids = I ∧ Kept L L' ∧ Did w rb ro g cap L' w' := by
  obtain ⟨N, hN⟩ : ∃ N, L.length = N := ⟨_, rfl⟩
  have hNl : N ≤ 1400000000000 := by rw [← hN]; exact h.len
  have HN := hidMk hN
  clear hN
  go_enter Tryz.func74, Tryz.ntmps74
  go_wp2
  go_loopw [1] (fun v1 wr => ∃ (a : Nat) (L' : List Sp), v1 = .int .i64 (a : Int) ∧ MInv L' a I ∧ Kept L L' ∧ Did w rb ro g cap L' wr) (fun v1 wr => dep (upW wr g) N (match v1 with | .int _ i => i.toNat | _ => 0))
  case atStart => exact ⟨i, L, rfl, m, Kept.refl L, Did.refl h⟩
  case round =>
    clear m
    obtain ⟨a, L1, rfl, m, k, d⟩ := hrel
    rcases m with ⟨rfl, t, zt, ct, it⟩ | ⟨c, j, l, r, rfl, md, ip⟩
    · have HP := hidMk (show ∃ L' t', Zip L' [] t' ∧ Cnt L' t' ∧ t'.ids = I ∧ Kept L L' ∧ Did w rb ro g cap L' wr from ⟨L1, t, zt, ct, it, k, d⟩)
      clear it zt ct k d
      go_wp2
      go_end0
      exact ⟨rfl, HP.out⟩
    · obtain ⟨t', e2, eup, h0, up2, k2, ids2⟩ := md.step
      obtain ⟨z, hcc, _, _, _, eT, hl, hr⟩ := md
      cases eT
      replace e2 : (even (tally L1 a) a).2 = t'.ix := e2
      replace eup : (gt (even (tally L1 a) a).1 t'.ix).up = upOf c := eup
      replace k2 : Kept L1 (even (tally L1 a) a).1 := k2
      replace up2 : Up (even (tally L1 a) a).1 c t' := up2
      have ha0 : a ≠ 0 := z.rep.1
      have lL1 : L1.length = N := k.len.trans HN.out
      have HD := hidMk (show dep (upW wr g) N a = c.length + 1 by rw [← lL1]; exact dep_mid _ (upW_eq d.at') z)
      have HT := hidMk (tally_nd d.at' z hl hr)
      have HE := hidMk (fun (W : World) (dW : Did wr rb ro g cap (tally L1 a) W) => even_any dW.at'.drew (z.tally ha0) (tally_cnt (s := false) z hl hr))
      have HK := hidMk (k.trans k2)
      have HI := hidMk (show (plug c t').ids = I by rw [← ip, plug_ids, plug_ids, ids2])
      have HU := hidMk up2
      have l2 : (even (tally L1 a) a).1.length = N := k2.len.trans lL1
      obtain ⟨L2, hL2⟩ : ∃ L2, (even (tally L1 a) a).1 = L2 := ⟨_, rfl⟩
      have hj : t'.ix < L2.length := by rw [← hL2]; exact ix_lt up2.1.rep up2.1.repc.pos
      rw [hL2] at HE HK HU l2 eup
      rw [e2] at HE
      have lT : (tally L1 a).length = N := by rw [tally_len]; exact lL1
      have E2 := hidMk eup
      have ha' : ¬ (a : Int) = 0 := by omega
      clear ip ids2 up2 k2 k e2 hcc hl hr hL2 eup
      go_upto_region 2 with (first
        | (go_at_call 96; refine HT.out.mono ?_; rintro e w1 ⟨rfl, d1⟩; clear HT)
        | fail)
      refine mend2 (g := g) (cap := cap) (N := N) (j := t'.ix) (k := upOf c) (fun w' => Did w rb ro g cap L2 w') _ _ _ rfl rfl rfl ?_ ?_ ?_ ?_
      · have := R_sl d1.at'.drew
        rw [lT] at this
        exact this
      · intro W
        have := R_ix (g := g) (cap := cap) hj (by rw [l2]; exact hNl) W
        rwa [l2] at this
      · refine (HE.out _ d1).mono ?_
        rintro e w2 ⟨rfl, d2⟩
        refine ⟨rfl, ?_, ?_, (d.trans d1).trans (Did.from (Qt.drew _) d2)⟩
        · have := R_sl d2.at'
          rw [l2] at this
          exact this
        · have := R_up d2.at' hj
          rwa [E2.out] at this
      intro a' w2 d2 ha
      subst ha
      simp only [Act.put, List.setIfInBounds_toArray, List.set_cons_zero, List.set_cons_succ]
      clear ha' HE l2 lT lL1 hj d1
      go_wp2
      refine ⟨⟨upOf c, L2, rfl, ?_, HK.out, d2⟩, ?_⟩
      · rw [← HI.out]
        exact MInv.of_up HU.out
      · show dep (upW w2 g) N (upOf c : Int).toNat < dep (upW wr g) N (a : Int).toNat
        have u := HU.out
        have hl2 : L2.length = N := HK.out.len.trans HN.out
        have hcl := ctx_len u.1.repc (List.nodup_append.1 u.1.nd).2.1
        rw [Int.toNat_natCast, Int.toNat_natCast, HD.out, dep_ctx _ (upW_eq d2.at') c _ N u.1.repc (by omega)]
        omega
end
def KS (kb : Nat) (k : KpV) (w' : World) : Prop := (Instr.loadAt 78 (.pointer (some ⟨kb, 0, none⟩))).run Tryz.prog w' = .ok (KpV.v k) w'
theorem build_sp0 (w : World) (a0 a1 a2 a3 a4 a5 a6 a7 a8 a9 a10 a11 a12 a13 a14 a15 a16 a17 a18 a19 a20 a21 a22 a23 a24 a25 a26 a27 a28 a29 a30 a31 a32 a33 a34 a35 a36 a37 a38 a39 a40 a41 a42 a43 a44 a45 a46 a47 a48 a49 a50 a51 a52 a53 a54 a55 a56 a57 a58 a59 a60 a61 a62 a63 a64 a65 a66 : Value) : (Instr.build 128 #[(0, .agg [a0, a1, a2, a3, a4, a5, a6, a7, a8, a9, a10, a11, a12, a13, a14, a15, a16, a17, a18, a19, a20, a21, a22, a23, a24, a25, a26, a27, a28, a29, a30, a31, a32, a33, a34, a35, a36, a37, a38, a39, a40, a41, a42, a43, a44, a45, a46, a47, a48, a49, a50, a51, a52, a53, a54, a55, a56, a57, a58, a59, a60, a61, a62, a63, a64, a65, a66].toArray), (1, .bool true)]).run Tryz.prog w = .ok (.agg ([a0, a1, a2, a3, a4, a5, a6, a7, a8, a9, a10, a11, a12, a13, a14, a15, a16, a17, a18, a19, a20, a21, a22, a23, a24, a25, a26, a27, a28, a29, a30, a31, a32, a33, a34, a35, a36, a37, a38, a39, a40, a41, a42, a43, a44, a45, a46, a47, a48, a49, a50, a51, a52, a53, a54, a55, a56, a57, a58, a59, a60, a61, a62, a63, a64, a65, a66] ++ [Value.bool true, .int .i64 0, .int .i64 0, .int .i64 0, .int .i64 0, .int .i64 0]).toArray) w := by kernel_rfl
theorem build_sp (w : World) {k : KpV} (hk : KpV.ok k) : (Instr.build 128 #[(0, KpV.v k), (1, .bool true)]).run Tryz.prog w = .ok (Sp.v ⟨k, true, 0, 0, 0, 0, 0⟩) w := by
  have h := KpV.len hk
  unfold Sp.v Sp.c KpV.v
  simp only
  generalize KpV.c k = l at *
  match l, h with
  | a0 :: a1 :: a2 :: a3 :: a4 :: a5 :: a6 :: a7 :: a8 :: a9 :: a10 :: a11 :: a12 :: a13 :: a14 :: a15 :: a16 :: a17 :: a18 :: a19 :: a20 :: a21 :: a22 :: a23 :: a24 :: a25 :: a26 :: a27 :: a28 :: a29 :: a30 :: a31 :: a32 :: a33 :: a34 :: a35 :: a36 :: a37 :: a38 :: a39 :: a40 :: a41 :: a42 :: a43 :: a44 :: a45 :: a46 :: a47 :: a48 :: a49 :: a50 :: a51 :: a52 :: a53 :: a54 :: a55 :: a56 :: a57 :: a58 :: a59 :: a60 :: a61 :: a62 :: a63 :: a64 :: a65 :: a66 :: [], _ => exact build_sp0 w a0 a1 a2 a3 a4 a5 a6 a7 a8 a9 a10 a11 a12 a13 a14 a15 a16 a17 a18 a19 a20 a21 a22 a23 a24 a25 a26 a27 a28 a29 a30 a31 a32 a33 a34 a35 a36 a37 a38 a39 a40 a41 a42 a43 a44 a45 a46 a47 a48 a49 a50 a51 a52 a53 a54 a55 a56 a57 a58 a59 a60 a61 a62 a63 a64 a65 a66
theorem exec_bsp {w : World} {a : Act} {o : Oper} {x : Operand} {k : KpV} (hk : KpV.ok k) (ho : o.op = .build 128 #[(0, x), (1, .const (.bool true))]) (hx : a.eval x = KpV.v k) : (execOp a.eval o).run Tryz.prog w = .ok (.value (Sp.v ⟨k, true, 0, 0, 0, 0, 0⟩)) w :=
  exec_build ho (by simp [hx]; rfl) (build_sp w hk)
theorem len_sl {g n c : Nat} (w : World) : (Builtin.len_ #[73] 3 #[.slice (some ⟨g, 0, none⟩) n c]).run Tryz.prog w = .ok (.int .i64 (n : Int)) w := by go_simp
def root1_o0 : Oper := ⟨some 3, .move (.tmp 0), 129, "row.go:53", #[], none⟩
def root1_o1 : Oper := ⟨some 4, .nilCheck (.tmp 3), 0, "row.go:53", #[⟨0, .data⟩], none⟩
def root1_o2 : Oper := ⟨some 5, .fieldAddr 75 (.tmp 4) 0, 0, "row.go:53", #[⟨1, .data⟩], none⟩
def root1_o3 : Oper := ⟨some 6, .load 73 (.tmp 5), 73, "row.go:53", #[⟨2, .data⟩], none⟩
def root1_o4 : Oper := ⟨some 7, .indexAddr 73 (.tmp 6) (Operand.const (Value.int IntKind.i64 0)), 0, "row.go:53", #[⟨3, .data⟩], none⟩
def root1_o5 : Oper := ⟨some 8, .fieldAddr 128 (.tmp 7) 3, 0, "row.go:53", #[⟨4, .data⟩], none⟩
def root1_o6 : Oper := ⟨some 9, .indexAddr 126 (.tmp 8) (Operand.const (Value.int IntKind.i64 1)), 0, "row.go:53", #[⟨5, .data⟩], none⟩
def root1_o7 : Oper := ⟨some 10, .load 3 (.tmp 9), 3, "row.go:53", #[⟨6, .data⟩], none⟩
def root1_o8 : Oper := ⟨some 2, .assign (.tmp 10), 3, "row.go:53", #[⟨7, .data⟩, ⟨0, .phase⟩, ⟨1, .phase⟩, ⟨2, .phase⟩, ⟨3, .phase⟩, ⟨4, .phase⟩, ⟨5, .phase⟩, ⟨6, .phase⟩, ⟨7, .phase⟩], none⟩
def root1_ops : Array Oper := #[root1_o0, root1_o1, root1_o2, root1_o3, root1_o4, root1_o5, root1_o6, root1_o7, root1_o8]
theorem root1 {rb ro g cap : Nat} {L : List Sp} (a : Act) (w : World) (Q : Exit → Act → World → Prop) (zz : a.tmps.size = 11)
    (t0 : a.tmps.getD 0 undef = .pointer (some ⟨rb, ro, none⟩))
    (hR : SqAt w rb ro g cap L) (h0 : 0 < L.length)
    (h : ∀ (a' : Act) (w' : World), w' = w → a' = (((((((((a).put (some 3) (.pointer (some ⟨rb, ro, none⟩))).put (some 4) (.pointer (some ⟨rb, ro, none⟩))).put (some 5) (.pointer (some ⟨rb, ro + 0, none⟩))).put (some 6) (.slice (some ⟨g, 0, none⟩) (L).length cap)).put (some 7) (.pointer (some ⟨g, 73 * 0, none⟩))).put (some 8) (.pointer (some ⟨g, 73 * 0 + 69, none⟩))).put (some 9) (.pointer (some ⟨g, 73 * 0 + 69 + nb true, none⟩))).put (some 10) (.int .i64 (dn (gt L 0) true : Int))).put (some 2) (.int .i64 (dn (gt L 0) true : Int)) → Q .normal a' w') :
    (Code.region 1 root1_ops false).wp Tryz.prog Q a w := by
  refine z0 rfl ?_
  refine zv rfl (xmv rfl (zi t0 rfl)) ?_
  refine zv rfl (xnc rfl (zg zz rfl)) ?_
  refine zv rfl (xfa rfl (zg zz rfl) (fg_75_0 _ _ _)) ?_
  refine zv rfl (xld rfl (zg zz rfl) (R_sl hR)) ?_
  refine zv rfl (xia rfl (zg zz rfl) rfl (R_ix h0 hR.len _)) ?_
  refine zv rfl (xfa rfl (zg zz rfl) (fg_128_3 _ _ _)) ?_
  refine zv rfl (xia rfl (zg zz rfl) rfl (ix_a1 _ _)) ?_
  refine zv rfl (xld rfl (zg zz rfl) (R_dn hR h0 true)) ?_
  refine zv rfl (xas rfl (zg zz rfl)) ?_
  exact ze rfl (h _ _ (rfl) rfl)
def many1_o0 : Oper := ⟨some 5, .move (.tmp 0), 129, "row.go:58", #[], none⟩
def many1_o1 : Oper := ⟨some 6, .nilCheck (.tmp 5), 0, "row.go:58", #[⟨0, .data⟩], none⟩
def many1_o2 : Oper := ⟨some 7, .fieldAddr 75 (.tmp 6) 0, 0, "row.go:58", #[⟨1, .data⟩], none⟩
def many1_o3 : Oper := ⟨some 8, .load 73 (.tmp 7), 73, "row.go:58", #[⟨2, .data⟩], none⟩
def many1_o4 : Oper := ⟨some 9, .move (.tmp 0), 129, "row.go:58", #[], none⟩
def many1_o5 : Oper := ⟨some 10, .call { callee := Callee.value (Operand.func 115), args := #[.tmp 9], argTypes := #[129] }, 3, "row.go:58", #[⟨4, .data⟩], none⟩
def many1_o6 : Oper := ⟨some 11, .move (.tmp 1), 3, "row.go:58", #[], none⟩
def many1_o7 : Oper := ⟨some 12, .indexAddr 73 (.tmp 8) (.tmp 10), 0, "row.go:58", #[⟨3, .data⟩, ⟨5, .data⟩], none⟩
def many1_o8 : Oper := ⟨some 13, .fieldAddr 128 (.tmp 12) 4, 0, "row.go:58", #[⟨7, .data⟩], none⟩
def many1_o9 : Oper := ⟨some 14, .indexAddr 126 (.tmp 13) (.tmp 11), 0, "row.go:58", #[⟨8, .data⟩, ⟨6, .data⟩], none⟩
def many1_o10 : Oper := ⟨some 15, .load 3 (.tmp 14), 3, "row.go:58", #[⟨9, .data⟩], none⟩
def many1_o11 : Oper := ⟨some 4, .assign (.tmp 15), 3, "row.go:58", #[⟨10, .data⟩, ⟨5, .chain⟩, ⟨0, .phase⟩, ⟨1, .phase⟩, ⟨2, .phase⟩, ⟨3, .phase⟩, ⟨4, .phase⟩, ⟨5, .phase⟩, ⟨6, .phase⟩, ⟨7, .phase⟩, ⟨8, .phase⟩, ⟨9, .phase⟩, ⟨10, .phase⟩], none⟩
def many1_ops : Array Oper := #[many1_o0, many1_o1, many1_o2, many1_o3, many1_o4, many1_o5, many1_o6, many1_o7, many1_o8, many1_o9, many1_o10, many1_o11]
theorem many1 {rb ro g cap : Nat} {L : List Sp} {i : Nat} {c : Bool} (a : Act) (w : World) (Q : Exit → Act → World → Prop) (zz : a.tmps.size = 16)
    (t0 : a.tmps.getD 0 undef = .pointer (some ⟨rb, ro, none⟩))
    (t1 : a.tmps.getD 1 undef = .int .i64 (nb c : Int))
    (hR : SqAt w rb ro g cap L) (hi : i < L.length) (hl : L.length ≤ 1400000000000) (CR : Calls Tryz.prog 115 #[.pointer (some ⟨rb, ro, none⟩)] w.drew fun e w' => e = .returned (.int .i64 (i : Int)) ∧ SqAt w' rb ro g cap L ∧ Qt w w')
    (h : ∀ (a' : Act) (w' : World), SqAt w' rb ro g cap L ∧ Qt w w' → a' = ((((((((((((a).put (some 5) (.pointer (some ⟨rb, ro, none⟩))).put (some 6) (.pointer (some ⟨rb, ro, none⟩))).put (some 7) (.pointer (some ⟨rb, ro + 0, none⟩))).put (some 8) (.slice (some ⟨g, 0, none⟩) (L).length cap)).put (some 9) (.pointer (some ⟨rb, ro, none⟩))).put (some 11) (.int .i64 (nb c : Int))).put (some 10) (.int .i64 (i : Int))).put (some 12) (.pointer (some ⟨g, 73 * i, none⟩))).put (some 13) (.pointer (some ⟨g, 73 * i + 71, none⟩))).put (some 14) (.pointer (some ⟨g, 73 * i + 71 + nb c, none⟩))).put (some 15) (.int .i64 (ct (gt L i) c : Int))).put (some 4) (.int .i64 (ct (gt L i) c : Int)) → Q .normal a' w') :
    (Code.region 1 many1_ops true).wp Tryz.prog Q a w := by
  refine y0 (fun w' => SqAt w' rb ro g cap L ∧ Qt w w') (⟨hR.drew, Qt.drew w⟩) (fun hHeld => ?_)
  refine yv 0 rfl rfl (fun w1 hw => xmv rfl (zi t0 rfl)) hHeld ?_
  refine yv 1 rfl rfl (fun w1 hw => xnc rfl (zg zz rfl)) hHeld ?_
  refine yv 2 rfl rfl (fun w1 hw => xfa rfl (zg zz rfl) (fg_75_0 _ _ _)) hHeld ?_
  refine yv 3 rfl rfl (fun w1 hw => xld rfl (zg zz rfl) (R_sl hw.1)) hHeld ?_
  refine yv 4 rfl rfl (fun w1 hw => xmv rfl (zi t0 rfl)) hHeld ?_
  refine yv 6 rfl rfl (fun w1 hw => xmv rfl (zi t1 rfl)) hHeld ?_
  refine yc 5 rfl rfl (exec_c1 rfl (zg zz rfl)) (CR) (fun e x5 hx => ?_)
  obtain ⟨rfl, S1⟩ := hx
  refine ⟨_, rfl, S1, fun hHeld => ?_⟩
  refine yv 7 rfl rfl (fun w1 hw => xia rfl (zg zz rfl) (zg zz rfl) (R_ix hi hl _)) hHeld ?_
  refine yv 8 rfl rfl (fun w1 hw => xfa rfl (zg zz rfl) (fg_128_4 _ _ _)) hHeld ?_
  refine yv 9 rfl rfl (fun w1 hw => xia rfl (zg zz rfl) (zg zz rfl) (ix_ar _ c _)) hHeld ?_
  refine yv 10 rfl rfl (fun w1 hw => xld rfl (zg zz rfl) (R_ct hw.1 hi c)) hHeld ?_
  refine yv 11 rfl rfl (fun w1 hw => xas rfl (zg zz rfl)) hHeld ?_
  exact ye rfl (h _ _ (hHeld) rfl)
def put1_o0 : Oper := ⟨some 9, .move (.tmp 0), 129, "row.go:63", #[], none⟩
def put1_o1 : Oper := ⟨some 10, .nilCheck (.tmp 9), 0, "row.go:63", #[⟨0, .data⟩], none⟩
def put1_o2 : Oper := ⟨some 11, .fieldAddr 75 (.tmp 10) 0, 0, "row.go:63", #[⟨1, .data⟩], none⟩
def put1_o3 : Oper := ⟨some 12, .load 73 (.tmp 11), 73, "row.go:63", #[⟨2, .data⟩], none⟩
def put1_o4 : Oper := ⟨some 13, .call { callee := Callee.builtin Builtin.len, args := #[.tmp 12], argTypes := #[73] }, 3, "row.go:63", #[⟨3, .data⟩], none⟩
def put1_o5 : Oper := ⟨some 7, .assign (.tmp 13), 3, "row.go:63", #[⟨4, .data⟩, ⟨0, .phase⟩, ⟨1, .phase⟩, ⟨2, .phase⟩, ⟨3, .phase⟩, ⟨4, .phase⟩], none⟩
def put1_ops : Array Oper := #[put1_o0, put1_o1, put1_o2, put1_o3, put1_o4, put1_o5]
theorem put1 {rb ro g cap : Nat} {L : List Sp} (a : Act) (w : World) (Q : Exit → Act → World → Prop) (zz : a.tmps.size = 50)
    (t0 : a.tmps.getD 0 undef = .pointer (some ⟨rb, ro, none⟩))
    (hR : SqAt w rb ro g cap L)
    (h : ∀ (a' : Act) (w' : World), w' = w → a' = ((((((a).put (some 9) (.pointer (some ⟨rb, ro, none⟩))).put (some 10) (.pointer (some ⟨rb, ro, none⟩))).put (some 11) (.pointer (some ⟨rb, ro + 0, none⟩))).put (some 12) (.slice (some ⟨g, 0, none⟩) (L).length cap)).put (some 13) (.int .i64 (L.length : Int))).put (some 7) (.int .i64 (L.length : Int)) → Q .normal a' w') :
    (Code.region 1 put1_ops false).wp Tryz.prog Q a w := by
  refine z0 rfl ?_
  refine zv rfl (xmv rfl (zi t0 rfl)) ?_
  refine zv rfl (xnc rfl (zg zz rfl)) ?_
  refine zv rfl (xfa rfl (zg zz rfl) (fg_75_0 _ _ _)) ?_
  refine zv rfl (xld rfl (zg zz rfl) (R_sl hR)) ?_
  refine zv rfl (exec_len rfl (zg zz rfl) (len_sl _)) ?_
  refine zv rfl (xas rfl (zg zz rfl)) ?_
  exact ze rfl (h _ _ (rfl) rfl)
def put2_o0 : Oper := ⟨some 14, .move (.tmp 0), 129, "row.go:64", #[], none⟩
def put2_o1 : Oper := ⟨some 15, .move (.tmp 0), 129, "row.go:64", #[], none⟩
def put2_o2 : Oper := ⟨some 16, .nilCheck (.tmp 15), 0, "row.go:64", #[⟨1, .data⟩], none⟩
def put2_o3 : Oper := ⟨some 17, .fieldAddr 75 (.tmp 16) 0, 0, "row.go:64", #[⟨2, .data⟩], none⟩
def put2_o4 : Oper := ⟨some 18, .load 73 (.tmp 17), 73, "row.go:64", #[⟨3, .data⟩], none⟩
def put2_o5 : Oper := ⟨some 19, .load 78 (.tmp 5), 78, "row.go:64", #[], none⟩
def put2_o6 : Oper := ⟨some 20, .build 128 #[(0, .tmp 19), (1, Operand.const (Value.bool true))], 128, "row.go:64", #[⟨5, .data⟩], none⟩
def put2_o7 : Oper := ⟨some 21, .buildSlice 73 1 #[(0, .tmp 20)], 73, "row.go:64", #[⟨6, .data⟩], none⟩
def put2_o8 : Oper := ⟨some 22, .call { callee := Callee.builtin Builtin.append, args := #[.tmp 18, .tmp 21], argTypes := #[73, 73] }, 73, "row.go:64", #[⟨4, .data⟩, ⟨7, .data⟩], none⟩
def put2_o9 : Oper := ⟨some 23, .nilCheck (.tmp 14), 0, "row.go:64", #[⟨0, .data⟩, ⟨0, .phase⟩, ⟨1, .phase⟩, ⟨2, .phase⟩, ⟨3, .phase⟩, ⟨4, .phase⟩, ⟨5, .phase⟩, ⟨6, .phase⟩, ⟨7, .phase⟩, ⟨8, .phase⟩], none⟩
def put2_o10 : Oper := ⟨some 24, .fieldAddr 75 (.tmp 23) 0, 0, "row.go:64", #[⟨9, .data⟩, ⟨0, .phase⟩, ⟨1, .phase⟩, ⟨2, .phase⟩, ⟨3, .phase⟩, ⟨4, .phase⟩, ⟨5, .phase⟩, ⟨6, .phase⟩, ⟨7, .phase⟩, ⟨8, .phase⟩], none⟩
def put2_o11 : Oper := ⟨none, .store 73 (.tmp 24) (.tmp 22), 0, "row.go:64", #[⟨10, .data⟩, ⟨8, .data⟩, ⟨8, .chain⟩, ⟨0, .phase⟩, ⟨1, .phase⟩, ⟨2, .phase⟩, ⟨3, .phase⟩, ⟨4, .phase⟩, ⟨5, .phase⟩, ⟨6, .phase⟩, ⟨7, .phase⟩, ⟨8, .phase⟩], none⟩
def put2_ops : Array Oper := #[put2_o0, put2_o1, put2_o2, put2_o3, put2_o4, put2_o5, put2_o6, put2_o7, put2_o8, put2_o9, put2_o10, put2_o11]
theorem put2 {rb ro g cap : Nat} {L : List Sp} {kb : Nat} {k : KpV} {lv qv : Value} {w1 w2 w3 : World} (a : Act) (w : World) (Q : Exit → Act → World → Prop) (hsz : a.tmps.size = 50)
    (t0 : a.tmps.getD 0 undef = .pointer (some ⟨rb, ro, none⟩))
    (t5 : a.tmps.getD 5 undef = .pointer (some ⟨kb, 0, none⟩))
    (hk : KpV.ok k) (h0 : KS kb k w.drew) (LA : (Instr.loadAt 73 (.pointer (some ⟨rb, ro + 0, none⟩))).run Tryz.prog w.drew = .ok (.slice (some ⟨g, 0, none⟩) L.length cap) w.drew) (EB : (Instr.buildSlice 73 1 #[(0, Sp.v ⟨k, true, 0, 0, 0, 0, 0⟩)]).run Tryz.prog w.drew = .ok lv w1) (S1 : KS kb k w1) (LB : (Instr.loadAt 73 (.pointer (some ⟨rb, ro + 0, none⟩))).run Tryz.prog w1 = .ok (.slice (some ⟨g, 0, none⟩) L.length cap) w1) (EA : (Builtin.append_ #[73, 73] 73 #[.slice (some ⟨g, 0, none⟩) L.length cap, lv]).run Tryz.prog w1 = .ok qv w2) (S2 : KS kb k w2) (ES : (Instr.storeAt 73 (.pointer (some ⟨rb, ro + 0, none⟩)) qv).run Tryz.prog w2 = .ok () w3) (S3 : KS kb k w3)
    (h1 : ∀ (a' : Act) (w' : World), w' = w3 → a' = (((((((((((a).put (some 14) (.pointer (some ⟨rb, ro, none⟩))).put (some 15) (.pointer (some ⟨rb, ro, none⟩))).put (some 16) (.pointer (some ⟨rb, ro, none⟩))).put (some 17) (.pointer (some ⟨rb, ro + 0, none⟩))).put (some 19) (KpV.v k)).put (some 20) (Sp.v ⟨k, true, 0, 0, 0, 0, 0⟩)).put (some 18) (.slice (some ⟨g, 0, none⟩) L.length cap)).put (some 21) (lv)).put (some 22) (qv)).put (some 23) (.pointer (some ⟨rb, ro, none⟩))).put (some 24) (.pointer (some ⟨rb, ro + 0, none⟩)) → Q .normal a' w')
    (h2 : ∀ (a' : Act) (w' : World), w' = w3 → a' = (((((((((((a).put (some 14) (.pointer (some ⟨rb, ro, none⟩))).put (some 15) (.pointer (some ⟨rb, ro, none⟩))).put (some 16) (.pointer (some ⟨rb, ro, none⟩))).put (some 17) (.pointer (some ⟨rb, ro + 0, none⟩))).put (some 19) (KpV.v k)).put (some 20) (Sp.v ⟨k, true, 0, 0, 0, 0, 0⟩)).put (some 21) (lv)).put (some 18) (.slice (some ⟨g, 0, none⟩) L.length cap)).put (some 22) (qv)).put (some 23) (.pointer (some ⟨rb, ro, none⟩))).put (some 24) (.pointer (some ⟨rb, ro + 0, none⟩)) → Q .normal a' w') :
    (Code.region 2 put2_ops true).wp Tryz.prog Q a w := by
  refine wp_region_noPanic ?_
  refine wp_region_held_drew (S := fun w' => (Instr.loadAt 78 (.pointer (some ⟨kb, 0, none⟩))).run Tryz.prog w' = .ok (KpV.v k) w') (by kernel_rfl) (h0) (fun hHeld => ?_)
  refine wpAnyH_take (i := 0) (oi := put2_o0) (v := .pointer (some ⟨rb, ro, none⟩)) rfl (by kernel_rfl) (by kernel_rfl) (by kernel_rfl) (fun _ _ _ h => h) (Or.inl ⟨by rfl, fun w1 hw => xmv rfl t0⟩) hHeld ?_
  change wpAnyH _ _ _ _ _ _ _ (a.put (some 14) (.pointer (some ⟨rb, ro, none⟩))) _
  obtain ⟨a1, e1⟩ : ∃ act, act = a.put (some 14) (.pointer (some ⟨rb, ro, none⟩)) := ⟨_, rfl⟩
  rw [← e1] at h1 h2 ⊢
  have z1 := pz e1 hsz
  replace t0 := pk e1 t0
  replace t5 := pk e1 t5
  have t14 := pq e1 hsz
  clear e1 hsz
  refine wpAnyH_take (i := 1) (oi := put2_o1) (v := .pointer (some ⟨rb, ro, none⟩)) rfl (by kernel_rfl) (by kernel_rfl) (by kernel_rfl) (fun _ _ _ h => h) (Or.inl ⟨by rfl, fun w1 hw => xmv rfl t0⟩) hHeld ?_
  change wpAnyH _ _ _ _ _ _ _ (a1.put (some 15) (.pointer (some ⟨rb, ro, none⟩))) _
  obtain ⟨a2, e2⟩ : ∃ act, act = a1.put (some 15) (.pointer (some ⟨rb, ro, none⟩)) := ⟨_, rfl⟩
  rw [← e2] at h1 h2 ⊢
  have z2 := pz e2 z1
  replace t5 := pk e2 t5
  replace t14 := pk e2 t14
  clear t0
  have t15 := pq e2 z1
  clear e2 z1
  refine wpAnyH_take (i := 2) (oi := put2_o2) (v := .pointer (some ⟨rb, ro, none⟩)) rfl (by kernel_rfl) (by kernel_rfl) (by kernel_rfl) (fun _ _ _ h => h) (Or.inl ⟨by rfl, fun w1 hw => xnc rfl t15⟩) hHeld ?_
  change wpAnyH _ _ _ _ _ _ _ (a2.put (some 16) (.pointer (some ⟨rb, ro, none⟩))) _
  obtain ⟨a3, e3⟩ : ∃ act, act = a2.put (some 16) (.pointer (some ⟨rb, ro, none⟩)) := ⟨_, rfl⟩
  rw [← e3] at h1 h2 ⊢
  have z3 := pz e3 z2
  replace t5 := pk e3 t5
  replace t14 := pk e3 t14
  clear t15
  have t16 := pq e3 z2
  clear e3 z2
  refine wpAnyH_take (i := 3) (oi := put2_o3) (v := .pointer (some ⟨rb, ro + 0, none⟩)) rfl (by kernel_rfl) (by kernel_rfl) (by kernel_rfl) (fun _ _ _ h => h) (Or.inl ⟨by rfl, fun w1 hw => xfa rfl t16 (fg_75_0 _ _ _)⟩) hHeld ?_
  change wpAnyH _ _ _ _ _ _ _ (a3.put (some 17) (.pointer (some ⟨rb, ro + 0, none⟩))) _
  obtain ⟨a4, e4⟩ : ∃ act, act = a3.put (some 17) (.pointer (some ⟨rb, ro + 0, none⟩)) := ⟨_, rfl⟩
  rw [← e4] at h1 h2 ⊢
  have z4 := pz e4 z3
  replace t5 := pk e4 t5
  replace t14 := pk e4 t14
  clear t16
  have t17 := pq e4 z3
  clear e4 z3
  refine wpAnyH_take (i := 5) (oi := put2_o5) (v := KpV.v k) rfl (by kernel_rfl) (by kernel_rfl) (by kernel_rfl) (fun _ _ _ h => h) (Or.inl ⟨by rfl, fun w1 hw => xld rfl t5 hw⟩) hHeld ?_
  change wpAnyH _ _ _ _ _ _ _ (a4.put (some 19) (KpV.v k)) _
  obtain ⟨a5, e5⟩ : ∃ act, act = a4.put (some 19) (KpV.v k) := ⟨_, rfl⟩
  rw [← e5] at h1 h2 ⊢
  have z5 := pz e5 z4
  replace t14 := pk e5 t14
  replace t17 := pk e5 t17
  clear t5
  have t19 := pq e5 z4
  clear e5 z4
  refine wpAnyH_take (i := 6) (oi := put2_o6) (v := Sp.v ⟨k, true, 0, 0, 0, 0, 0⟩) rfl (by kernel_rfl) (by kernel_rfl) (by kernel_rfl) (fun _ _ _ h => h) (Or.inl ⟨by rfl, fun w1 hw => exec_bsp hk rfl t19⟩) hHeld ?_
  change wpAnyH _ _ _ _ _ _ _ (a5.put (some 20) (Sp.v ⟨k, true, 0, 0, 0, 0, 0⟩)) _
  obtain ⟨a6, e6⟩ : ∃ act, act = a5.put (some 20) (Sp.v ⟨k, true, 0, 0, 0, 0, 0⟩) := ⟨_, rfl⟩
  rw [← e6] at h1 h2 ⊢
  have z6 := pz e6 z5
  replace t14 := pk e6 t14
  replace t17 := pk e6 t17
  clear t19
  have t20 := pq e6 z5
  clear e6 z5
  refine wpAnyH_ready (rs := [4, 7]) (by kernel_rfl) (by simp) ?_
  refine AllReadyH.cons (o := put2_o4) rfl (fun K hK => ?_) (AllReadyH.cons (o := put2_o7) rfl (fun K hK => ?_) (AllReadyH.nil))
  · clear h2
    have X := xld (P := Tryz.prog) (a := a6) (o := put2_o4) rfl t17 LA
    rw [if_pos (by rfl), Oper.wp, X]
    show K _ _
    clear X
    refine hK.out _ _ (h0) (fun hHeld => ?_)
    clear hK K
    change wpAnyH _ _ _ _ _ _ _ (a6.put (some 18) (.slice (some ⟨g, 0, none⟩) L.length cap)) _
    obtain ⟨a7, e7⟩ : ∃ act, act = a6.put (some 18) (.slice (some ⟨g, 0, none⟩) L.length cap) := ⟨_, rfl⟩
    rw [← e7] at h1 ⊢
    have z7 := pz e7 z6
    replace t14 := pk e7 t14
    replace t20 := pk e7 t20
    clear t17
    have t18 := pq e7 z6
    clear e7 z6
    refine wpAnyH_ready (rs := [7]) (by kernel_rfl) (by simp) ?_
    refine AllReadyH.cons (o := put2_o7) rfl (fun K hK => ?_) AllReadyH.nil
    have X := exec_buildSlice (P := Tryz.prog) (a := a7) (o := put2_o7) rfl t20 EB
    rw [if_pos (by rfl), Oper.wp, X]
    show K _ _
    clear X
    refine hK.out _ _ (S1) (fun hHeld => ?_)
    clear hK K
    change wpAnyH _ _ _ _ _ _ _ (a7.put (some 21) (lv)) _
    obtain ⟨a8, e8⟩ : ∃ act, act = a7.put (some 21) (lv) := ⟨_, rfl⟩
    rw [← e8] at h1 ⊢
    have z8 := pz e8 z7
    replace t14 := pk e8 t14
    replace t18 := pk e8 t18
    clear t20
    have t21 := pq e8 z7
    clear e8 z7
    refine wpAnyH_ready (rs := [8]) (by kernel_rfl) (by simp) ?_
    refine AllReadyH.cons (o := put2_o8) rfl (fun K hK => ?_) AllReadyH.nil
    have X := exec_append (P := Tryz.prog) (a := a8) (o := put2_o8) rfl t18 t21 EA
    rw [if_pos (by rfl), Oper.wp, X]
    show K _ _
    clear X
    refine hK.out _ _ (S2) (fun hHeld => ?_)
    clear hK K
    change wpAnyH _ _ _ _ _ _ _ (a8.put (some 22) (qv)) _
    obtain ⟨a9, e9⟩ : ∃ act, act = a8.put (some 22) (qv) := ⟨_, rfl⟩
    rw [← e9] at h1 ⊢
    have z9 := pz e9 z8
    replace t14 := pk e9 t14
    clear t18 t21
    have t22 := pq e9 z8
    clear e9 z8
    refine wpAnyH_take (i := 9) (oi := put2_o9) (v := .pointer (some ⟨rb, ro, none⟩)) rfl (by kernel_rfl) (by kernel_rfl) (by kernel_rfl) (fun _ _ _ h => h) (Or.inl ⟨by rfl, fun w1 hw => xnc rfl t14⟩) hHeld ?_
    change wpAnyH _ _ _ _ _ _ _ (a9.put (some 23) (.pointer (some ⟨rb, ro, none⟩))) _
    obtain ⟨a10, e10⟩ : ∃ act, act = a9.put (some 23) (.pointer (some ⟨rb, ro, none⟩)) := ⟨_, rfl⟩
    rw [← e10] at h1 ⊢
    have z10 := pz e10 z9
    replace t22 := pk e10 t22
    clear t14
    have t23 := pq e10 z9
    clear e10 z9
    refine wpAnyH_take (i := 10) (oi := put2_o10) (v := .pointer (some ⟨rb, ro + 0, none⟩)) rfl (by kernel_rfl) (by kernel_rfl) (by kernel_rfl) (fun _ _ _ h => h) (Or.inl ⟨by rfl, fun w1 hw => xfa rfl t23 (fg_75_0 _ _ _)⟩) hHeld ?_
    change wpAnyH _ _ _ _ _ _ _ (a10.put (some 24) (.pointer (some ⟨rb, ro + 0, none⟩))) _
    obtain ⟨a11, e11⟩ : ∃ act, act = a10.put (some 24) (.pointer (some ⟨rb, ro + 0, none⟩)) := ⟨_, rfl⟩
    rw [← e11] at h1 ⊢
    have z11 := pz e11 z10
    replace t22 := pk e11 t22
    clear t23
    have t24 := pq e11 z10
    clear e11 z10
    refine wpAnyH_ready (rs := [11]) (by kernel_rfl) (by simp) ?_
    refine AllReadyH.cons (o := put2_o11) rfl (fun K hK => ?_) AllReadyH.nil
    have X := exec_store (P := Tryz.prog) (a := a11) (o := put2_o11) rfl t24 t22 ES
    rw [if_pos (by rfl), Oper.wp, X]
    show K _ _
    clear X
    refine hK.out _ _ (S3) (fun hHeld => ?_)
    clear hK K
    exact wpAnyH_done (by kernel_rfl) (NoPanic.normal (h1 _ _ (rfl) rfl)) _
  · clear h1
    have X := exec_buildSlice (P := Tryz.prog) (a := a6) (o := put2_o7) rfl t20 EB
    rw [if_pos (by rfl), Oper.wp, X]
    show K _ _
    clear X
    refine hK.out _ _ (S1) (fun hHeld => ?_)
    clear hK K
    change wpAnyH _ _ _ _ _ _ _ (a6.put (some 21) (lv)) _
    obtain ⟨a13, e13⟩ : ∃ act, act = a6.put (some 21) (lv) := ⟨_, rfl⟩
    rw [← e13] at h2 ⊢
    have z13 := pz e13 z6
    replace t14 := pk e13 t14
    replace t17 := pk e13 t17
    clear t20
    have t21 := pq e13 z6
    clear e13 z6
    refine wpAnyH_ready (rs := [4]) (by kernel_rfl) (by simp) ?_
    refine AllReadyH.cons (o := put2_o4) rfl (fun K hK => ?_) AllReadyH.nil
    have X := xld (P := Tryz.prog) (a := a13) (o := put2_o4) rfl t17 LB
    rw [if_pos (by rfl), Oper.wp, X]
    show K _ _
    clear X
    refine hK.out _ _ (S1) (fun hHeld => ?_)
    clear hK K
    change wpAnyH _ _ _ _ _ _ _ (a13.put (some 18) (.slice (some ⟨g, 0, none⟩) L.length cap)) _
    obtain ⟨a14, e14⟩ : ∃ act, act = a13.put (some 18) (.slice (some ⟨g, 0, none⟩) L.length cap) := ⟨_, rfl⟩
    rw [← e14] at h2 ⊢
    have z14 := pz e14 z13
    replace t14 := pk e14 t14
    replace t21 := pk e14 t21
    clear t17
    have t18 := pq e14 z13
    clear e14 z13
    refine wpAnyH_ready (rs := [8]) (by kernel_rfl) (by simp) ?_
    refine AllReadyH.cons (o := put2_o8) rfl (fun K hK => ?_) AllReadyH.nil
    have X := exec_append (P := Tryz.prog) (a := a14) (o := put2_o8) rfl t18 t21 EA
    rw [if_pos (by rfl), Oper.wp, X]
    show K _ _
    clear X
    refine hK.out _ _ (S2) (fun hHeld => ?_)
    clear hK K
    change wpAnyH _ _ _ _ _ _ _ (a14.put (some 22) (qv)) _
    obtain ⟨a15, e15⟩ : ∃ act, act = a14.put (some 22) (qv) := ⟨_, rfl⟩
    rw [← e15] at h2 ⊢
    have z15 := pz e15 z14
    replace t14 := pk e15 t14
    clear t21 t18
    have t22 := pq e15 z14
    clear e15 z14
    refine wpAnyH_take (i := 9) (oi := put2_o9) (v := .pointer (some ⟨rb, ro, none⟩)) rfl (by kernel_rfl) (by kernel_rfl) (by kernel_rfl) (fun _ _ _ h => h) (Or.inl ⟨by rfl, fun w1 hw => xnc rfl t14⟩) hHeld ?_
    change wpAnyH _ _ _ _ _ _ _ (a15.put (some 23) (.pointer (some ⟨rb, ro, none⟩))) _
    obtain ⟨a16, e16⟩ : ∃ act, act = a15.put (some 23) (.pointer (some ⟨rb, ro, none⟩)) := ⟨_, rfl⟩
    rw [← e16] at h2 ⊢
    have z16 := pz e16 z15
    replace t22 := pk e16 t22
    clear t14
    have t23 := pq e16 z15
    clear e16 z15
    refine wpAnyH_take (i := 10) (oi := put2_o10) (v := .pointer (some ⟨rb, ro + 0, none⟩)) rfl (by kernel_rfl) (by kernel_rfl) (by kernel_rfl) (fun _ _ _ h => h) (Or.inl ⟨by rfl, fun w1 hw => xfa rfl t23 (fg_75_0 _ _ _)⟩) hHeld ?_
    change wpAnyH _ _ _ _ _ _ _ (a16.put (some 24) (.pointer (some ⟨rb, ro + 0, none⟩))) _
    obtain ⟨a17, e17⟩ : ∃ act, act = a16.put (some 24) (.pointer (some ⟨rb, ro + 0, none⟩)) := ⟨_, rfl⟩
    rw [← e17] at h2 ⊢
    have z17 := pz e17 z16
    replace t22 := pk e17 t22
    clear t23
    have t24 := pq e17 z16
    clear e17 z16
    refine wpAnyH_ready (rs := [11]) (by kernel_rfl) (by simp) ?_
    refine AllReadyH.cons (o := put2_o11) rfl (fun K hK => ?_) AllReadyH.nil
    have X := exec_store (P := Tryz.prog) (a := a17) (o := put2_o11) rfl t24 t22 ES
    rw [if_pos (by rfl), Oper.wp, X]
    show K _ _
    clear X
    refine hK.out _ _ (S3) (fun hHeld => ?_)
    clear hK K
    exact wpAnyH_done (by kernel_rfl) (NoPanic.normal (h2 _ _ (rfl) rfl)) _
def put3_o0 : Oper := ⟨some 25, .move (.tmp 0), 129, "row.go:65", #[], none⟩
def put3_o1 : Oper := ⟨some 26, .nilCheck (.tmp 25), 0, "row.go:65", #[⟨0, .data⟩], none⟩
def put3_o2 : Oper := ⟨some 27, .fieldAddr 75 (.tmp 26) 0, 0, "row.go:65", #[⟨1, .data⟩], none⟩
def put3_o3 : Oper := ⟨some 28, .load 73 (.tmp 27), 73, "row.go:65", #[⟨2, .data⟩], none⟩
def put3_o4 : Oper := ⟨some 29, .move (.tmp 1), 3, "row.go:65", #[], none⟩
def put3_o5 : Oper := ⟨some 30, .indexAddr 73 (.tmp 28) (.tmp 29), 0, "row.go:65", #[⟨3, .data⟩, ⟨4, .data⟩], none⟩
def put3_o6 : Oper := ⟨some 31, .fieldAddr 128 (.tmp 30) 3, 0, "row.go:65", #[⟨5, .data⟩], none⟩
def put3_o7 : Oper := ⟨some 32, .indexAddr 126 (.tmp 31) (Operand.const (Value.int IntKind.i64 1)), 0, "row.go:65", #[⟨6, .data⟩], none⟩
def put3_o8 : Oper := ⟨some 33, .load 3 (.tmp 32), 3, "row.go:65", #[⟨7, .data⟩], none⟩
def put3_o9 : Oper := ⟨some 8, .assign (.tmp 33), 3, "row.go:65", #[⟨8, .data⟩, ⟨0, .phase⟩, ⟨1, .phase⟩, ⟨2, .phase⟩, ⟨3, .phase⟩, ⟨4, .phase⟩, ⟨5, .phase⟩, ⟨6, .phase⟩, ⟨7, .phase⟩, ⟨8, .phase⟩], none⟩
def put3_ops : Array Oper := #[put3_o0, put3_o1, put3_o2, put3_o3, put3_o4, put3_o5, put3_o6, put3_o7, put3_o8, put3_o9]
theorem put3 {rb ro g cap : Nat} {L : List Sp} {i : Nat} (a : Act) (w : World) (Q : Exit → Act → World → Prop) (zz : a.tmps.size = 50)
    (t0 : a.tmps.getD 0 undef = .pointer (some ⟨rb, ro, none⟩))
    (t1 : a.tmps.getD 1 undef = .int .i64 (i : Int))
    (hR : SqAt w rb ro g cap L) (hi : i < L.length)
    (h : ∀ (a' : Act) (w' : World), w' = w → a' = ((((((((((a).put (some 25) (.pointer (some ⟨rb, ro, none⟩))).put (some 26) (.pointer (some ⟨rb, ro, none⟩))).put (some 27) (.pointer (some ⟨rb, ro + 0, none⟩))).put (some 28) (.slice (some ⟨g, 0, none⟩) (L).length cap)).put (some 29) (.int .i64 (i : Int))).put (some 30) (.pointer (some ⟨g, 73 * i, none⟩))).put (some 31) (.pointer (some ⟨g, 73 * i + 69, none⟩))).put (some 32) (.pointer (some ⟨g, 73 * i + 69 + nb true, none⟩))).put (some 33) (.int .i64 (dn (gt L i) true : Int))).put (some 8) (.int .i64 (dn (gt L i) true : Int)) → Q .normal a' w') :
    (Code.region 3 put3_ops false).wp Tryz.prog Q a w := by
  refine z0 rfl ?_
  refine zv rfl (xmv rfl (zi t0 rfl)) ?_
  refine zv rfl (xnc rfl (zg zz rfl)) ?_
  refine zv rfl (xfa rfl (zg zz rfl) (fg_75_0 _ _ _)) ?_
  refine zv rfl (xld rfl (zg zz rfl) (R_sl hR)) ?_
  refine zv rfl (xmv rfl (zi t1 rfl)) ?_
  refine zv rfl (xia rfl (zg zz rfl) (zg zz rfl) (R_ix hi hR.len _)) ?_
  refine zv rfl (xfa rfl (zg zz rfl) (fg_128_3 _ _ _)) ?_
  refine zv rfl (xia rfl (zg zz rfl) rfl (ix_a1 _ _)) ?_
  refine zv rfl (xld rfl (zg zz rfl) (R_dn hR hi true)) ?_
  refine zv rfl (xas rfl (zg zz rfl)) ?_
  exact ze rfl (h _ _ (rfl) rfl)
def put6_o0 : Oper := ⟨some 40, .move (.tmp 0), 129, "row.go:68", #[], none⟩
def put6_o1 : Oper := ⟨some 41, .move (.tmp 0), 129, "row.go:68", #[], none⟩
def put6_o2 : Oper := ⟨some 42, .move (.tmp 8), 3, "row.go:68", #[], none⟩
def put6_o3 : Oper := ⟨some 43, .call { callee := Callee.value (Operand.func 73), args := #[.tmp 41, .tmp 42], argTypes := #[129, 3] }, 3, "row.go:68", #[⟨1, .data⟩, ⟨2, .data⟩], none⟩
def put6_o4 : Oper := ⟨some 44, .move (.tmp 7), 3, "row.go:68", #[], none⟩
def put6_o5 : Oper := ⟨some 45, .call { callee := Callee.value (Operand.func 72), args := #[.tmp 40, .tmp 43, Operand.const (Value.int IntKind.i64 0), .tmp 44], argTypes := #[129, 3, 3, 3] }, 0, "row.go:68", #[⟨0, .data⟩, ⟨3, .data⟩, ⟨4, .data⟩, ⟨3, .chain⟩], none⟩
def put6_ops : Array Oper := #[put6_o0, put6_o1, put6_o2, put6_o3, put6_o4, put6_o5]
theorem put6 {rb ro n i j : Nat} (Fin : World → Prop) (a : Act) (w : World) (Q : Exit → Act → World → Prop) (zz : a.tmps.size = 50)
    (t0 : a.tmps.getD 0 undef = .pointer (some ⟨rb, ro, none⟩))
    (t7 : a.tmps.getD 7 undef = .int .i64 (n : Int))
    (t8 : a.tmps.getD 8 undef = .int .i64 (i : Int))
    (CF : Calls Tryz.prog 73 #[.pointer (some ⟨rb, ro, none⟩), .int .i64 (i : Int)] w fun e w' => e = .returned (.int .i64 (j : Int)) ∧ Calls Tryz.prog 72 #[.pointer (some ⟨rb, ro, none⟩), .int .i64 (j : Int), .int .i64 0, .int .i64 (n : Int)] w' fun e2 w2 => e2 = .returned (.tuple #[]) ∧ Fin w2)
    (h : ∀ (a' : Act) (w' : World), Fin w' → a' = ((((((a).put (some 40) (.pointer (some ⟨rb, ro, none⟩))).put (some 41) (.pointer (some ⟨rb, ro, none⟩))).put (some 42) (.int .i64 (i : Int))).put (some 43) (.int .i64 (j : Int))).put (some 44) (.int .i64 (n : Int))).put (some 45) (.tuple #[]) → Q .normal a' w') :
    (Code.region 6 put6_ops false).wp Tryz.prog Q a w := by
  refine z0 rfl ?_
  refine zv rfl (xmv rfl (zi t0 rfl)) ?_
  refine zv rfl (xmv rfl (zi t0 rfl)) ?_
  refine zv rfl (xmv rfl (zi t8 rfl)) ?_
  refine zc rfl (exec_c2 rfl (zg zz rfl) (zg zz rfl)) (CF) (fun e x3 hx => ?_)
  obtain ⟨rfl, CH⟩ := hx
  refine ⟨_, rfl, ?_⟩
  refine zv rfl (xmv rfl (zi t7 rfl)) ?_
  refine zc rfl (exec_c4 rfl (zg zz rfl) (zg zz rfl) rfl (zg zz rfl)) (CH) (fun e x5 hx => ?_)
  obtain ⟨rfl, HF⟩ := hx
  refine ⟨_, rfl, ?_⟩
  exact ze rfl (h _ _ (HF) rfl)
structure Good (L : List Sp) (t : T) : Prop where
  zip : Zip L [] t
  cnt : Cnt L t
  all : ∀ i, 0 < i → i < L.length → i ∈ t.ids
theorem Good.root {L : List Sp} {t : T} (h : Good L t) : (gt L 0).r = t.ix := h.zip.repc.2.1
theorem Good.pos {L : List Sp} {t : T} (h : Good L t) : 0 < L.length := h.zip.repc.pos
theorem Good.lt {L : List Sp} {t : T} (h : Good L t) {i : Nat} (hi : i ∈ t.ids) : i ≠ 0 ∧ i < L.length := h.zip.rep.mem i hi
theorem Good.nodup {L : List Sp} {t : T} (h : Good L t) : t.ids.Nodup := by have := h.zip.nd; simpa [cids] using this
theorem infoS : (Tryz.prog.info? 128).map (fun i => (i.zero, i.size, i.bytes)) = some (some (.agg (Sp.c zSp).toArray), 73, 136) := by kernel_rfl
theorem zcellsS : (Value.agg (Sp.c zSp).toArray).cells.size = 73 := by
  show (Sp.c zSp).toArray.size = 73
  rw [List.size_toArray, Sp.len zK_ok]
theorem run_bsS (h : Sp) (ok : KpV.ok h.kp) (w : World) : (Instr.buildSlice 73 1 #[(0, Sp.v h)]).run Tryz.prog w = .ok (.slice (some ⟨w.heap.size, 0, none⟩) 1 1) (w.alloc (.cells (Sp.c h).toArray 128)) := by
  obtain ⟨ie, hi, hz, hs, hby⟩ := info_parts infoS
  refine run_buildSlice w 73 128 1 _ (Sp.c h).toArray ie _ Tryz.underlying73 hi hz (by rw [hs]; decide) (by rw [hs]; decide) ?_
  rw [hs]
  have := Go.Great.fill_whole (s := 73) (by decide) [.agg (Sp.c h).toArray] ((Array.range (1 * 73)).map ((Value.agg (Sp.c zSp).toArray).cells[· % (Value.agg (Sp.c zSp).toArray).cells.size]!)) (by intro v hv; simp at hv; subst hv; show (Sp.c h).toArray.size = 73; rw [List.size_toArray, Sp.len ok]) (by simp)
  simpa [Value.cells, Sp.v] using this
theorem set_tch (w : World) (d k : Nat) (u : Value) : Tch (fun j => j = d) w (w.setCell ⟨d, k, none⟩ u) := by
  have b := (Below.refl 0 w).setCell (p := ⟨d, k, none⟩) (Nat.zero_le _) u
  exact ⟨b.os, b.tape, b.output, b.size, fun j hj hn => Below.heap_setCell _ _ _ _ hn⟩
theorem st_hd {w : World} {rb ro : Nat} {u : Value} {a : Option Addr} {n c : Nat} (hc : w.cell? ⟨rb, ro, none⟩ = some u) (hb : ∃ cs t, w.heap[rb]? = some (.cells cs t (0, 0))) : (Instr.storeAt 73 (.pointer (some ⟨rb, ro + 0, none⟩)) (.slice a n c)).run Tryz.prog w = .ok () (w.setCell ⟨rb, ro, none⟩ (.slice a n c)) ∧ (w.setCell ⟨rb, ro, none⟩ (.slice a n c)).cell? ⟨rb, ro, none⟩ = some (.slice a n c) ∧ (∃ cs t, (w.setCell ⟨rb, ro, none⟩ (.slice a n c)).heap[rb]? = some (.cells cs t (0, 0))) ∧ (∀ k, k ≠ ro → (w.setCell ⟨rb, ro, none⟩ (.slice a n c)).cell? ⟨rb, k, none⟩ = w.cell? ⟨rb, k, none⟩) := by
  obtain ⟨cs, t, h⟩ := hb
  have hf := frozen_of_row w rb ro _ _ h
  refine ⟨by rw [Nat.add_zero]; go_simp, World.cell?_setCell_same w ⟨rb, ro, none⟩ _ hc, ⟨_, t, Go.heap_setCell_same _ _ ro _ _ _ h⟩, fun k hk => World.cell?_setCell_other w ⟨rb, ro, none⟩ ⟨rb, k, none⟩ _ (fun e => hk (by simpa using e.symm))⟩
section
variable {w : World} {rb ro g cap i : Nat} {L : List Sp}
theorem app_spot (h : SqAt w rb ro g cap L) {k : KpV} (hk : KpV.ok k) (hn : L.length + 1 ≤ 1400000000000) : ∃ lv qv w1 w2 w3 g' cap',
    (Instr.buildSlice 73 1 #[(0, Sp.v ⟨k, true, 0, 0, 0, 0, 0⟩)]).run Tryz.prog w = .ok lv w1 ∧ SqAt w1 rb ro g cap L ∧ Below w.heap.size w w1 ∧
    (Builtin.append_ #[73, 73] 73 #[.slice (some ⟨g, 0, none⟩) L.length cap, lv]).run Tryz.prog w1 = .ok qv w2 ∧ Tch (fun j => j = g) w w2 ∧
    (Instr.storeAt 73 (.pointer (some ⟨rb, ro + 0, none⟩)) qv).run Tryz.prog w2 = .ok () w3 ∧ SqAt w3 rb ro g' cap' (L ++ [⟨k, true, 0, 0, 0, 0, 0⟩]) ∧ Tch (fun j => j = g ∨ j = rb) w w3 ∧ (g' = g ∨ w.heap.size ≤ g') ∧ (∀ q, q ≠ ro → w3.cell? ⟨rb, q, none⟩ = w.cell? ⟨rb, q, none⟩) := by
  obtain ⟨s, hs⟩ : ∃ s : Sp, s = ⟨k, true, 0, 0, 0, 0, 0⟩ := ⟨_, rfl⟩
  have hk' : KpV.ok s.kp := by rw [hs]; exact hk
  rw [← hs]
  have e1 := run_bsS s hk' w
  have b1 : Below w.heap.size w (w.alloc (.cells (Sp.c s).toArray 128)) := (Below.refl _ _).alloc (Nat.le_refl _) _
  have hnew : ∀ j u, (Sp.c s)[j]? = some u → (w.alloc (.cells (Sp.c s).toArray 128)).cell? ⟨w.heap.size, j, none⟩ = some u := fun j u hj => cell_new w (Sp.c s) _ j u hj
  generalize w.alloc (.cells (Sp.c s).toArray 128) = w1 at *
  have h1 : SqAt w1 rb ro g cap L := h.keep (b1.block _ h.lt.1) (b1.block _ h.lt.2)
  obtain ⟨ii, hi, hz, hsz, hby⟩ := info_parts infoS
  have okN : OkS (L ++ [s]) := fun x hx => by
    rcases List.mem_append.1 hx with q | q
    · exact h.ok x q
    · simp at q; subst q; exact hk'
  obtain ⟨qv, w2, e2, own2, g2, o2⟩ := app_at (P := Tryz.prog) w1 0 73 73 128 ii _ 73 136 Tryz.underlying73 hi hz hsz hby zcellsS (by decide) _ L.length (flatS L) h1.own ⟨w.heap.size, 0, none⟩ 1 1 (Sp.c s) (by rw [Sp.len hk']) (fun j u hj => by rw [Addr.add_mid, Nat.zero_add]; exact hnew j u hj) (Sp.one s) (by unfold maxLen; omega) (by omega) (Nat.zero_le _)
  have t2 : Tch (fun j => j = g) w w2 := Tch.trans ⟨b1.os, b1.tape, b1.output, b1.size, fun j hj _ => b1.block j hj⟩ ⟨g2.os, g2.tape, g2.output, g2.size, fun j hj hO => g2.block j hj (fun q => hO (by simpa [Value.ownBlock] using q))⟩
  have fl : flatS L ++ Sp.c s = flatS (L ++ [s]) := by rw [flatS_app]; simp [flatS]
  rw [fl] at own2
  rcases own2.2 with ⟨e, hz0⟩ | ⟨g', cap', cur, rfl, _, hg', r1, r2, r3, r4⟩
  · omega
  · have hrb : w2.heap[rb]? = w.heap[rb]? := t2.block rb h.lt.1 (fun e => h.ne e)
    have hc2 : w2.cell? ⟨rb, ro, none⟩ = some (.slice (some ⟨g, 0, none⟩) L.length cap) := (World.cell?_of_block (a := ⟨rb, ro, none⟩) hrb).trans h.hd
    obtain ⟨e3, c3, k3, o3⟩ := st_hd (a := some ⟨g', 0, none⟩) (n := L.length + 1) (c := cap') hc2 (by rw [hrb]; exact h.bk)
    have ts := set_tch w2 rb ro (.slice (some ⟨g', 0, none⟩) (L.length + 1) cap')
    have hgg : g' = g ∨ w.heap.size ≤ g' := by
      rcases o2 with q | q
      · simp [Value.ownBlock] at q; exact .inl q
      · simp [Value.ownBlock] at q; exact .inr (by rw [q]; exact b1.size)
    have hne : rb ≠ g' := fun e => by
      rcases hgg with q | q
      · exact h.ne (e.trans q)
      · have := h.lt.1; omega
    have hg3 : (w2.setCell ⟨rb, ro, none⟩ (.slice (some ⟨g', 0, none⟩) (L.length + 1) cap')).heap[g']? = w2.heap[g']? := ts.block g' (Array.getElem?_eq_some_iff.1 hg').1 (fun e => hne e.symm)
    refine ⟨_, _, w1, w2, _, g', cap', e1, h1, b1, e2, t2, e3, ⟨?_, ⟨?_, .inr ⟨g', cap', cur, by simp, Nat.zero_le _, hg3.trans hg', by simpa using r1, r2, r3, by simpa using r4⟩⟩, okN, hne, by simpa using hn, k3⟩, (t2.mono (fun j _ q => Or.inl q)).trans (ts.mono (fun j _ q => Or.inr q)), hgg, fun q hq => (o3 q hq).trans (World.cell?_of_block (a := ⟨rb, q, none⟩) hrb)⟩
    · simpa using c3
    · have := own2.1; simpa using this
theorem root_any (h : SqAt w rb ro g cap L) {t : T} (hg : Good L t) : Calls Tryz.prog 115 #[.pointer (some ⟨rb, ro, none⟩)] w fun e w' => e = .returned (.int .i64 (t.ix : Int)) ∧ w' = w := by
  have HR := hidMk hg.root
  have hp := hg.pos
  go_enter Tryz.func115, Tryz.ntmps115
  go_upto_region 1 with fail
  refine root1 _ _ _ rfl rfl h hp ?_
  intro a' w1 hw ha
  subst ha
  obtain rfl : w1 = w := hw
  rw [show dn (gt L 0) true = t.ix from HR.out]
  simp only [Act.put, List.setIfInBounds_toArray, List.set_cons_zero, List.set_cons_succ]
  go_wp2
  go_ret
  exact ⟨rfl, rfl⟩
theorem rmany_any (h : SqAt w rb ro g cap L) {t : T} (hg : Good L t) (c : Bool) : Calls Tryz.prog 91 #[.pointer (some ⟨rb, ro, none⟩), .int .i64 (nb c : Int)] w fun e w' => e = .returned (.int .i64 (cnt L c t : Int)) ∧ Qt w w' := by
  have HC := hidMk (hg.cnt.at hg.zip.z c)
  have hi : t.ix < L.length := ix_lt hg.zip.rep hg.pos
  go_enter Tryz.func91, Tryz.ntmps91
  go_upto_region 1 with fail
  refine many1 (i := t.ix) _ _ _ rfl rfl rfl h hi h.len ?_ ?_
  · refine (root_any h.drew hg).mono ?_
    rintro e w1 ⟨rfl, rfl⟩
    exact ⟨rfl, h.drew, Qt.drew w⟩
  rw [HC.out]
  intro a' w1 hw ha
  subst ha
  simp only [Act.put, List.setIfInBounds_toArray, List.set_cons_zero, List.set_cons_succ]
  go_wp2
  go_ret
  exact ⟨rfl, hw.2⟩
theorem Good.focus {t : T} (hg : Good L t) (hi : i ∈ t.ids) : ∃ c l r, t = plug c (.nd i l r) ∧ Zip L c (.nd i l r) ∧ CntC L c ∧ Cnt L (.nd i l r) := by
  obtain ⟨c, l, r, e⟩ := Sq.focus [] hi
  have e' : t = plug c (.nd i l r) := e
  have z := hg.zip
  have ct := hg.cnt
  rw [e'] at z ct
  exact ⟨c, l, r, e', z.unplug, (Cnt.unplug ct).1, (Cnt.unplug ct).2⟩
end
section
variable {w : World} {rb ro g cap i : Nat} {L : List Sp}
theorem Good.right {t : T} (hg : Good L t) {b : Nat} (hb : b = 0 ∨ b ∈ t.ids) : ∃ (c : Ctx) (R : T), t = plug c R ∧ Zip L c R ∧ CntC L c ∧ Cnt L R ∧ upOf c = b ∧ sd c = true ∧ (gt L b).r = R.ix ∧ (b = 0 ∧ pre c = [] ∨ ∃ A, pre c = A ++ [b]) := by
  rcases hb with rfl | hb
  · exact ⟨[], t, rfl, hg.zip, trivial, hg.cnt, rfl, rfl, hg.root, .inl ⟨rfl, rfl⟩⟩
  · obtain ⟨c, l, r, et, z, hcc, hc⟩ := hg.focus hb
    refine ⟨(b, true, l) :: c, r, by rw [et]; rfl, Zip.into (s := true) z, ⟨hc.2.1, hcc⟩, hc.2.2, rfl, rfl, z.rep.2.2.2.2.1, .inr ⟨pre c ++ l.ids, ?_⟩⟩
    simp [pre]
def InsB (I I' : List Nat) (b n : Nat) : Prop := ∃ A B, I = A ++ B ∧ I' = A ++ n :: B ∧ (b = 0 ∧ A = [] ∨ ∃ A', A = A' ++ [b])
structure Moved (w : World) (rb ro g : Nat) (g' cap' : Nat) (L' : List Sp) (w' : World) : Prop where
  at' : SqAt w' rb ro g' cap' L'
  tch : Tch (fun j => j = g ∨ j = rb) w w'
  own : g' = g ∨ w.heap.size ≤ g'
  oth : ∀ q, q ≠ ro → w'.cell? ⟨rb, q, none⟩ = w.cell? ⟨rb, q, none⟩
theorem Moved.did {w w1 w2 : World} {rb ro g g' cap' : Nat} {L1 L2 : List Sp} (h : Moved w rb ro g g' cap' L1 w1) (d : Did w1 rb ro g' cap' L2 w2) : Moved w rb ro g g' cap' L2 w2 := by
  refine ⟨d.at', h.tch.trans' d.tch (fun j hj q => ?_), h.own, fun q hq => ?_⟩
  · rcases h.own with e | e
    · exact .inl (q.trans e)
    · omega
  · exact (World.cell?_of_block (a := ⟨rb, q, none⟩) (d.tch.block rb h.at'.lt.1 h.at'.ne)).trans (h.oth q hq)
theorem box_ld {w w' : World} {kb : Nat} {k : KpV} {t : TypeId} (hk : KpV.ok k) (hb : w.heap[kb]? = some (.cells (KpV.c k).toArray t (0, 0))) (e : w'.heap[kb]? = w.heap[kb]?) : KS kb k w' :=
  run_loadAt_mid (P := Tryz.prog) w' kb 0 78 (KpV.c k) _ (cells_range (e.trans hb)) Tryz.underlying78 rfl (by rw [KpV.len hk]; exact szK)
theorem rput_any (h : SqAt w rb ro g cap L) {t : T} (hg : Good L t) {b : Nat} (hb : b = 0 ∨ b ∈ t.ids) {k : KpV} (hk : KpV.ok k) (hn : L.length + 1 ≤ 1400000000000) :
    Calls Tryz.prog 49 #[.pointer (some ⟨rb, ro, none⟩), .int .i64 (b : Int), KpV.v k] w fun e w' => e = .returned (.int .i64 (L.length : Int)) ∧ ∃ g' cap' L' t', Good L' t' ∧ InsB t.ids t'.ids b L.length ∧ Kept (L ++ [⟨k, true, 0, 0, 0, 0, 0⟩]) L' ∧ Moved w rb ro g g' cap' L' w' := by
  obtain ⟨c, R, et, zR, cc, cR, ub, sb, eR, hpre⟩ := hg.right hb
  have hbl : b < L.length := by
    rcases hb with rfl | hb
    · exact hg.pos
    · exact (hg.lt hb).2
  obtain ⟨n, hnn⟩ : ∃ n, L.length = n := ⟨_, rfl⟩
  have HN := hidMk hnn
  have zl := lft_zip zR
  have cl := lft_cnt cc cR
  obtain ⟨s, hs⟩ : ∃ s : Sp, s = ⟨k, true, 0, 0, 0, 0, 0⟩ := ⟨_, rfl⟩
  have m := put0_mid zl cl k
  have HFin := hidMk (fun (L' : List Sp) (t' : T) (zt : Zip L' [] t') (ct : Cnt L' t') (it : t'.ids = (plug (lft R c) (.nd L.length .nil .nil)).ids) (kp : Kept (put0 L (upOf (lft R c)) (sd (lft R c)) k) L') => show Good L' t' ∧ InsB t.ids t'.ids b L.length ∧ Kept (L ++ [⟨k, true, 0, 0, 0, 0, 0⟩]) L' from by
    have e1 : t'.ids = pre c ++ L.length :: (R.ids ++ post c) := by
      rw [it, plug_ids, lft_pre, lft_post]; simp [T.ids]
    have e2 : t.ids = pre c ++ (R.ids ++ post c) := by rw [et, plug_ids]; simp
    have kl : L'.length = L.length + 1 := by
      have := (put0_kept L (upOf (lft R c)) (sd (lft R c)) k).len
      rw [kp.len, this]; simp
    refine ⟨⟨zt, ct, fun i h0 hi => ?_⟩, ⟨pre c, R.ids ++ post c, e2, e1, hpre⟩, (put0_kept L _ _ k).trans kp⟩
    rw [e1]
    by_cases hil : i < L.length
    · have := hg.all i h0 hil
      rw [e2] at this
      rcases List.mem_append.1 this with q | q
      · exact List.mem_append.2 (.inl q)
      · exact List.mem_append.2 (.inr (List.mem_cons_of_mem _ q))
    · have : i = L.length := by omega
      rw [this]; simp)
  have bx : Below w.heap.size w (w.alloc (.cells (KpV.c k).toArray 78)) := (Below.refl _ _).alloc (Nat.le_refl _) _
  have hbx : (w.alloc (.cells (KpV.c k).toArray 78)).heap[w.heap.size]? = some (.cells (KpV.c k).toArray 78 (0, 0)) := heap_alloc_new _ _
  have zx : (w.alloc (.cells (KpV.c k).toArray 78)).heap.size = w.heap.size + 1 := by simp
  have HWX := hidMk (show (w.alloc (.cells (KpV.c k).toArray 78)).heap.size = w.heap.size + 1 by simp)
  unfold KpV.v
  go_enter Tryz.func49, Tryz.ntmps49
  go_upto_region 1 with fail
  generalize w.alloc (.cells (KpV.c k).toArray 78) = wx at *
  have hx : SqAt wx rb ro g cap L := h.keep (bx.block _ h.lt.1) (bx.block _ h.lt.2)
  refine put1 _ _ _ rfl rfl hx ?_
  intro a' w1 hw ha
  subst ha
  obtain rfl : w1 = wx := hw
  rw [hnn]
  simp only [Act.put, List.setIfInBounds_toArray, List.set_cons_zero, List.set_cons_succ]
  obtain ⟨lv, qv, y1, y2, y3, g', cap', EB, h1, b1, EA, t2, ES, h3, t3, hgg, hoth⟩ := app_spot hx.drew hk hn
  rw [show w1.drew.heap.size = w1.heap.size from rfl] at b1 hgg
  have hne1 : w.heap.size ≠ g := by have := h.lt.2; omega
  have hne2 : w.heap.size ≠ rb := by have := h.lt.1; omega
  have hlx : w.heap.size < w1.heap.size := by omega
  go_upto_region 2 with fail
  have mv : Moved w rb ro g g' cap' (L ++ [s]) y3 := by
    rw [hs]
    refine ⟨h3, ?_, ?_, fun q hq => (hoth q hq).trans (World.cell?_of_block (a := ⟨rb, q, none⟩) (bx.block rb h.lt.1))⟩
    · exact Tch.trans (Tch.of_below bx (fun j hj q => by omega)) (((Qt.drew w1).tch _).trans t3)
    · rcases hgg with q | q
      · exact .inl q
      · exact .inr (by omega)
  have lS : (L ++ [s]).length = n + 1 := by rw [List.length_append, hnn]; rfl
  have e3 : dn (gt (L ++ [s]) b) true = R.ix := by rw [gt_app L s hbl]; exact eR
  have hnl : n < (L ++ [s]).length := by omega
  have zS := zR.app s
  have HM := hidMk (fun (W : World) (dW : Did y3 rb ro g' cap' (put0 L (upOf (lft R c)) (sd (lft R c)) k) W) => mend_any dW.at' (MInv.of_mid m))
  rw [show (T.nd L.length .nil .nil).ix = L.length from rfl, hnn] at HM
  have HP0 := hidMk (show put0 L (upOf (lft R c)) (sd (lft R c)) k = hang (L ++ [s]) (upOf (lft R c)) (sd (lft R c)) n by rw [hs, ← hnn]; rfl)
  rw [← hs] at HFin
  rw [hnn] at HFin
  clear hpre et cc cR zl cl m hn
  refine put2 (L := L) (g := g) (cap := cap) (k := k) _ _ _ rfl rfl rfl hk (box_ld hk hbx rfl) (R_sl hx.drew) EB (box_ld hk hbx (b1.block _ hlx)) (R_sl h1) EA (box_ld hk hbx (t2.block _ hlx hne1)) ES (box_ld hk hbx (t3.block _ hlx (fun q => q.elim hne1 hne2))) ?_ ?_ <;> (
    intro a' w2 hw ha
    subst ha
    obtain rfl : w2 = y3 := hw
    simp only [Act.put, List.setIfInBounds_toArray, List.set_cons_zero, List.set_cons_succ]
    go_upto_region 3 with fail
    refine put3 (i := b) _ _ _ rfl rfl rfl mv.at' (by omega) ?_
    rw [e3]
    intro a' w3 hw ha
    subst ha
    obtain rfl : w3 = w2 := hw
    simp only [Act.put, List.setIfInBounds_toArray, List.set_cons_zero, List.set_cons_succ]
    by_cases hR : R.ix = 0
    · rw [hR]
      obtain rfl : R = .nil := (rep_ix zR.rep).1 hR
      have HH := hidMk (hang_any (u := b) (p := n) (b := true) mv.at' (by omega) hnl)
      have HE := hidMk (show put0 L (upOf (lft .nil c)) (sd (lft .nil c)) k = hang (L ++ [s]) b true n by rw [HP0.out]; show hang (L ++ [s]) (upOf c) (sd c) n = _; rw [ub, sb])
      clear hR e3 eR EB EA ES
      go_wp2_with (first
        | (go_at_call 72; refine HH.out.mono ?_; rintro e w4 ⟨rfl, d4⟩; rw [← HE.out] at d4; clear HH)
        | (go_at_call 74; refine (HM.out _ d4).mono ?_; rintro e w5 ⟨rfl, L5, t5, z5, c5, i5, k5, d5⟩; clear HM)
        | fail)
      go_ret
      obtain ⟨f1, f2, f3⟩ := HFin.out L5 t5 z5 c5 i5 k5
      rw [HN.out]
      refine ⟨rfl, g', cap', L5, t5, f1, f2, ?_, mv.did (d4.trans d5)⟩
      rw [← hs]
      exact f3
    · have hRn : R ≠ .nil := fun e => hR (by rw [e]; rfl)
      have lsR : lsp R ≤ (L ++ [s]).length := by have := lsp_le R; have := ids_le zS; omega
      have HFs := hidMk (first_any mv.at' zS.rep hR lsR)
      have eU : upOf (lft R c) = fs R := fs_up R c hRn
      have eS : sd (lft R c) = false := lft_sd R c hRn
      have hfl : fs R < (L ++ [s]).length := by rw [← eU]; exact (lft_zip zS).repc.up_lt
      have HH := hidMk (fun (W : World) (q : Qt w3 W) => hang_any (u := fs R) (p := n) (b := false) (mv.at'.qt q) hfl hnl)
      have HE := hidMk (show put0 L (upOf (lft R c)) (sd (lft R c)) k = hang (L ++ [s]) (fs R) false n by rw [HP0.out, eU, eS])
      have hR' : ¬ (R.ix : Int) = 0 := by omega
      clear e3 eR EB EA ES eU eS
      go_upto_region 6 with fail
      refine put6 (i := R.ix) (j := fs R) (n := n) (fun w' => Did w3 rb ro g' cap' (hang (L ++ [s]) (fs R) false n) w') _ _ _ rfl rfl rfl rfl ?_ ?_
      · refine HFs.out.mono ?_
        rintro e wa ⟨rfl, qa⟩
        refine ⟨rfl, ?_⟩
        refine (HH.out _ qa).mono ?_
        rintro e wb ⟨rfl, db⟩
        exact ⟨rfl, Did.from qa db⟩
      intro a' w4 d4 ha
      subst ha
      rw [← HE.out] at d4
      simp only [Act.put, List.setIfInBounds_toArray, List.set_cons_zero, List.set_cons_succ]
      clear hR' hR
      go_wp2_with (first
        | (go_at_call 74; refine (HM.out _ d4).mono ?_; rintro e w5 ⟨rfl, L5, t5, z5, c5, i5, k5, d5⟩; clear HM)
        | fail)
      go_ret
      obtain ⟨f1, f2, f3⟩ := HFin.out L5 t5 z5 c5 i5 k5
      rw [HN.out]
      refine ⟨rfl, g', cap', L5, t5, f1, f2, ?_, mv.did (d4.trans d5)⟩
      rw [← hs]
      exact f3)
end
def Fit (L : List Sp) : Prop := ∀ i, 0 < i → i < L.length → (gt L i).up < L.length ∧ ∀ b, dn (gt L i) b < L.length
theorem Rep.fit {L : List Sp} (h0 : 0 < L.length) : ∀ {t : T} {p : Nat}, Rep L p t → p < L.length → ∀ i ∈ t.ids, (gt L i).up < L.length ∧ ∀ b, dn (gt L i) b < L.length
  | .nil, _, _, _, i, hi => by simp [T.ids] at hi
  | .nd j l r, p, h, hp, i, hi => by
    obtain ⟨h1, h2, h3, h4, h5, h6, h7⟩ := h
    simp only [T.ids, List.mem_append, List.mem_cons] at hi
    rcases hi with hi | rfl | hi
    · exact Rep.fit h0 h6 h2 i hi
    · refine ⟨by rw [h3]; exact hp, fun b => ?_⟩
      cases b
      · show (gt L i).l < _; rw [h4]; exact ix_lt h6 h0
      · show (gt L i).r < _; rw [h5]; exact ix_lt h7 h0
    · exact Rep.fit h0 h7 h2 i hi
theorem Good.fit {L : List Sp} {t : T} (h : Good L t) : Fit L := fun i h0 hi => Rep.fit h.pos h.zip.rep h.pos i (h.all i h0 hi)
end Go.Proofs.YtifendlpeebofaaGreatDoor
