import Derived.Test.YtifendlpeebofaaGreatDoorP0
import Derived.Test.YtifendlpeebofaaGreatDoorP1
import Derived.Test.YtifendlpeebofaaGreatDoorXea
import Derived.RangeFuncNested
import Derived.RangeFuncBound
import Derived.RangeFuncCalls
import Derived.RangeFuncLeaves
import Derived.RangeFuncFrom
import Derived.OwnWalkIn
import Derived.TacticsInMore
import Derived.Laws.ResultCell
import Derived.Laws.MakeOwn
import Derived.Shelf.Abstract
set_option linter.unusedSimpArgs false
set_option linter.unusedVariables false
set_option maxRecDepth 100000
set_option maxHeartbeats 4000000
namespace Go.Proofs.YtifendlpeebofaaGreatDoor
open Go.RowKit Sq
def ahead1_o0 : Oper := ⟨some 9, .move (.tmp 0), 129, "row.go:220", #[], none⟩
def ahead1_o1 : Oper := ⟨some 10, .move (.tmp 1), 3, "row.go:220", #[], none⟩
def ahead1_o2 : Oper := ⟨some 11, .move (.tmp 2), 3, "row.go:220", #[], none⟩
def ahead1_o3 : Oper := ⟨some 12, .call { callee := Callee.value (Operand.func 126), args := #[.tmp 9, .tmp 10, Operand.const (Value.int IntKind.i64 0), .tmp 11], argTypes := #[129, 3, 3, 3] }, 3, "row.go:220", #[⟨0, .data⟩, ⟨1, .data⟩, ⟨2, .data⟩], none⟩
def ahead1_o4 : Oper := ⟨some 7, .assign (.tmp 12), 3, "row.go:220", #[⟨3, .data⟩, ⟨3, .chain⟩, ⟨0, .phase⟩, ⟨1, .phase⟩, ⟨2, .phase⟩, ⟨3, .phase⟩], none⟩
def ahead1_ops : Array Oper := #[ahead1_o0, ahead1_o1, ahead1_o2, ahead1_o3, ahead1_o4]
theorem ahead1 {rb ro i u : Nat} {c : Bool} (Fin : World → Prop) (a : Act) (w : World) (Q : Exit → Act → World → Prop) (zz : a.tmps.size = 43)
    (t0 : a.tmps.getD 0 undef = .pointer (some ⟨rb, ro, none⟩))
    (t1 : a.tmps.getD 1 undef = .int .i64 (i : Int))
    (t2 : a.tmps.getD 2 undef = .int .i64 (nb c : Int))
    (CU : Calls Tryz.prog 126 #[.pointer (some ⟨rb, ro, none⟩), .int .i64 (i : Int), .int .i64 0, .int .i64 (nb c : Int)] w fun e w' => e = .returned (.int .i64 (u : Int)) ∧ Fin w')
    (h : ∀ (a' : Act) (w' : World), Fin w' → a' = (((((a).put (some 9) (.pointer (some ⟨rb, ro, none⟩))).put (some 10) (.int .i64 (i : Int))).put (some 11) (.int .i64 (nb c : Int))).put (some 12) (.int .i64 (u : Int))).put (some 7) (.int .i64 (u : Int)) → Q .normal a' w') :
    (Code.region 1 ahead1_ops false).wp Tryz.prog Q a w := by
  refine z0 rfl ?_
  refine zv rfl (xmv rfl (zi t0 rfl)) ?_
  refine zv rfl (xmv rfl (zi t1 rfl)) ?_
  refine zv rfl (xmv rfl (zi t2 rfl)) ?_
  refine zc rfl (exec_c4 rfl (zg zz rfl) (zg zz rfl) rfl (zg zz rfl)) (CU) (fun e x3 hx => ?_)
  obtain ⟨rfl, HF⟩ := hx
  refine ⟨_, rfl, ?_⟩
  refine zv rfl (xas rfl (zg zz rfl)) ?_
  exact ze rfl (h _ _ (HF) rfl)
def ahead2_o0 : Oper := ⟨some 13, .move (.tmp 0), 129, "row.go:221", #[], none⟩
def ahead2_o1 : Oper := ⟨some 14, .nilCheck (.tmp 13), 0, "row.go:221", #[⟨0, .data⟩], none⟩
def ahead2_o2 : Oper := ⟨some 15, .fieldAddr 75 (.tmp 14) 0, 0, "row.go:221", #[⟨1, .data⟩], none⟩
def ahead2_o3 : Oper := ⟨some 16, .load 73 (.tmp 15), 73, "row.go:221", #[⟨2, .data⟩], none⟩
def ahead2_o4 : Oper := ⟨some 17, .move (.tmp 1), 3, "row.go:221", #[], none⟩
def ahead2_o5 : Oper := ⟨some 18, .indexAddr 73 (.tmp 16) (.tmp 17), 0, "row.go:221", #[⟨3, .data⟩, ⟨4, .data⟩], none⟩
def ahead2_o6 : Oper := ⟨some 19, .fieldAddr 128 (.tmp 18) 2, 0, "row.go:221", #[⟨5, .data⟩], none⟩
def ahead2_o7 : Oper := ⟨some 20, .load 3 (.tmp 19), 3, "row.go:221", #[⟨6, .data⟩], none⟩
def ahead2_o8 : Oper := ⟨some 8, .assign (.tmp 20), 3, "row.go:221", #[⟨7, .data⟩, ⟨0, .phase⟩, ⟨1, .phase⟩, ⟨2, .phase⟩, ⟨3, .phase⟩, ⟨4, .phase⟩, ⟨5, .phase⟩, ⟨6, .phase⟩, ⟨7, .phase⟩], none⟩
def ahead2_ops : Array Oper := #[ahead2_o0, ahead2_o1, ahead2_o2, ahead2_o3, ahead2_o4, ahead2_o5, ahead2_o6, ahead2_o7, ahead2_o8]
theorem ahead2 {rb ro g cap : Nat} {L : List Sp} {i : Nat} (a : Act) (w : World) (Q : Exit → Act → World → Prop) (zz : a.tmps.size = 43)
    (t0 : a.tmps.getD 0 undef = .pointer (some ⟨rb, ro, none⟩))
    (t1 : a.tmps.getD 1 undef = .int .i64 (i : Int))
    (hR : SqAt w rb ro g cap L) (hi : i < L.length)
    (h : ∀ (a' : Act) (w' : World), w' = w → a' = (((((((((a).put (some 13) (.pointer (some ⟨rb, ro, none⟩))).put (some 14) (.pointer (some ⟨rb, ro, none⟩))).put (some 15) (.pointer (some ⟨rb, ro + 0, none⟩))).put (some 16) (.slice (some ⟨g, 0, none⟩) (L).length cap)).put (some 17) (.int .i64 (i : Int))).put (some 18) (.pointer (some ⟨g, 73 * i, none⟩))).put (some 19) (.pointer (some ⟨g, 73 * i + 68, none⟩))).put (some 20) (.int .i64 ((gt L i).up : Int))).put (some 8) (.int .i64 ((gt L i).up : Int)) → Q .normal a' w') :
    (Code.region 2 ahead2_ops false).wp Tryz.prog Q a w := by
  refine z0 rfl ?_
  refine zv rfl (xmv rfl (zi t0 rfl)) ?_
  refine zv rfl (xnc rfl (zg zz rfl)) ?_
  refine zv rfl (xfa rfl (zg zz rfl) (fg_75_0 _ _ _)) ?_
  refine zv rfl (xld rfl (zg zz rfl) (R_sl hR)) ?_
  refine zv rfl (xmv rfl (zi t1 rfl)) ?_
  refine zv rfl (xia rfl (zg zz rfl) (zg zz rfl) (R_ix hi hR.len _)) ?_
  refine zv rfl (xfa rfl (zg zz rfl) (fg_128_2 _ _ _)) ?_
  refine zv rfl (xld rfl (zg zz rfl) (R_up hR hi)) ?_
  refine zv rfl (xas rfl (zg zz rfl)) ?_
  exact ze rfl (h _ _ (rfl) rfl)
def ahead4_o0 : Oper := ⟨some 23, .move (.tmp 0), 129, "row.go:221", #[], none⟩
def ahead4_o1 : Oper := ⟨some 24, .nilCheck (.tmp 23), 0, "row.go:221", #[⟨0, .data⟩], none⟩
def ahead4_o2 : Oper := ⟨some 25, .fieldAddr 75 (.tmp 24) 0, 0, "row.go:221", #[⟨1, .data⟩], none⟩
def ahead4_o3 : Oper := ⟨some 26, .load 73 (.tmp 25), 73, "row.go:221", #[⟨2, .data⟩], none⟩
def ahead4_o4 : Oper := ⟨some 27, .move (.tmp 1), 3, "row.go:221", #[], none⟩
def ahead4_o5 : Oper := ⟨some 28, .indexAddr 73 (.tmp 26) (.tmp 27), 0, "row.go:221", #[⟨3, .data⟩, ⟨4, .data⟩], none⟩
def ahead4_o6 : Oper := ⟨some 29, .fieldAddr 128 (.tmp 28) 2, 0, "row.go:221", #[⟨5, .data⟩], none⟩
def ahead4_o7 : Oper := ⟨some 30, .load 3 (.tmp 29), 3, "row.go:221", #[⟨6, .data⟩], none⟩
def ahead4_o8 : Oper := ⟨some 8, .assign (.tmp 30), 3, "row.go:221", #[⟨7, .data⟩, ⟨0, .phase⟩, ⟨1, .phase⟩, ⟨2, .phase⟩, ⟨3, .phase⟩, ⟨4, .phase⟩, ⟨5, .phase⟩, ⟨6, .phase⟩, ⟨7, .phase⟩], none⟩
def ahead4_ops : Array Oper := #[ahead4_o0, ahead4_o1, ahead4_o2, ahead4_o3, ahead4_o4, ahead4_o5, ahead4_o6, ahead4_o7, ahead4_o8]
theorem ahead4 {rb ro g cap : Nat} {L : List Sp} {i : Nat} (a : Act) (w : World) (Q : Exit → Act → World → Prop) (zz : a.tmps.size = 43)
    (t0 : a.tmps.getD 0 undef = .pointer (some ⟨rb, ro, none⟩))
    (t1 : a.tmps.getD 1 undef = .int .i64 (i : Int))
    (hR : SqAt w rb ro g cap L) (hi : i < L.length)
    (h : ∀ (a' : Act) (w' : World), w' = w → a' = (((((((((a).put (some 23) (.pointer (some ⟨rb, ro, none⟩))).put (some 24) (.pointer (some ⟨rb, ro, none⟩))).put (some 25) (.pointer (some ⟨rb, ro + 0, none⟩))).put (some 26) (.slice (some ⟨g, 0, none⟩) (L).length cap)).put (some 27) (.int .i64 (i : Int))).put (some 28) (.pointer (some ⟨g, 73 * i, none⟩))).put (some 29) (.pointer (some ⟨g, 73 * i + 68, none⟩))).put (some 30) (.int .i64 ((gt L i).up : Int))).put (some 8) (.int .i64 ((gt L i).up : Int)) → Q .normal a' w') :
    (Code.region 4 ahead4_ops false).wp Tryz.prog Q a w := by
  refine z0 rfl ?_
  refine zv rfl (xmv rfl (zi t0 rfl)) ?_
  refine zv rfl (xnc rfl (zg zz rfl)) ?_
  refine zv rfl (xfa rfl (zg zz rfl) (fg_75_0 _ _ _)) ?_
  refine zv rfl (xld rfl (zg zz rfl) (R_sl hR)) ?_
  refine zv rfl (xmv rfl (zi t1 rfl)) ?_
  refine zv rfl (xia rfl (zg zz rfl) (zg zz rfl) (R_ix hi hR.len _)) ?_
  refine zv rfl (xfa rfl (zg zz rfl) (fg_128_2 _ _ _)) ?_
  refine zv rfl (xld rfl (zg zz rfl) (R_up hR hi)) ?_
  refine zv rfl (xas rfl (zg zz rfl)) ?_
  exact ze rfl (h _ _ (rfl) rfl)
def ahead5_o0 : Oper := ⟨some 31, .move (.tmp 0), 129, "row.go:222", #[], none⟩
def ahead5_o1 : Oper := ⟨some 32, .move (.tmp 1), 3, "row.go:222", #[], none⟩
def ahead5_o2 : Oper := ⟨some 33, .call { callee := Callee.value (Operand.func 127), args := #[.tmp 31, .tmp 32], argTypes := #[129, 3] }, 3, "row.go:222", #[⟨0, .data⟩, ⟨1, .data⟩], none⟩
def ahead5_o3 : Oper := ⟨some 34, .binOp BinOp.eql 3 (.tmp 33) (Operand.const (Value.int IntKind.i64 1)) 3, 4, "row.go:222", #[⟨2, .data⟩], none⟩
def ahead5_ops : Array Oper := #[ahead5_o0, ahead5_o1, ahead5_o2, ahead5_o3]
theorem ahead5 {rb ro i : Nat} {s : Bool} (Fin : World → Prop) (a : Act) (w : World) (Q : Exit → Act → World → Prop) (zz : a.tmps.size = 43)
    (t0 : a.tmps.getD 0 undef = .pointer (some ⟨rb, ro, none⟩))
    (t1 : a.tmps.getD 1 undef = .int .i64 (i : Int))
    (hs : decide ((nb s : Int) = 1) = s) (CS : Calls Tryz.prog 127 #[.pointer (some ⟨rb, ro, none⟩), .int .i64 (i : Int)] w fun e w' => e = .returned (.int .i64 (nb s : Int)) ∧ Fin w')
    (h : ∀ (a' : Act) (w' : World), Fin w' → a' = ((((a).put (some 31) (.pointer (some ⟨rb, ro, none⟩))).put (some 32) (.int .i64 (i : Int))).put (some 33) (.int .i64 (nb s : Int))).put (some 34) (.bool s) → Q .normal a' w') :
    (Code.region 5 ahead5_ops false).wp Tryz.prog Q a w := by
  refine z0 rfl ?_
  refine zv rfl (xmv rfl (zi t0 rfl)) ?_
  refine zv rfl (xmv rfl (zi t1 rfl)) ?_
  refine zc rfl (exec_c2 rfl (zg zz rfl) (zg zz rfl)) (CS) (fun e x2 hx => ?_)
  obtain ⟨rfl, HF⟩ := hx
  refine ⟨_, rfl, ?_⟩
  refine zv (v := .bool s) rfl (ex_eql rfl (zg zz rfl) rfl hs) ?_
  exact ze rfl (h _ _ (HF) rfl)
def ahead6_o0 : Oper := ⟨some 35, .move (.tmp 7), 3, "row.go:223", #[], none⟩
def ahead6_o1 : Oper := ⟨some 36, .move (.tmp 0), 129, "row.go:223", #[], none⟩
def ahead6_o2 : Oper := ⟨some 37, .move (.tmp 8), 3, "row.go:223", #[], none⟩
def ahead6_o3 : Oper := ⟨some 38, .move (.tmp 2), 3, "row.go:223", #[], none⟩
def ahead6_o4 : Oper := ⟨some 39, .call { callee := Callee.value (Operand.func 123), args := #[.tmp 36, .tmp 37, .tmp 38], argTypes := #[129, 3, 3] }, 3, "row.go:223", #[⟨1, .data⟩, ⟨2, .data⟩, ⟨3, .data⟩], none⟩
def ahead6_o5 : Oper := ⟨some 40, .binOp BinOp.add 3 (.tmp 35) (.tmp 39) 3, 3, "row.go:223", #[⟨0, .data⟩, ⟨4, .data⟩], none⟩
def ahead6_o6 : Oper := ⟨some 7, .assign (.tmp 40), 3, "row.go:223", #[⟨5, .data⟩, ⟨4, .chain⟩, ⟨0, .phase⟩, ⟨1, .phase⟩, ⟨2, .phase⟩, ⟨3, .phase⟩, ⟨4, .phase⟩, ⟨5, .phase⟩], none⟩
def ahead6_ops : Array Oper := #[ahead6_o0, ahead6_o1, ahead6_o2, ahead6_o3, ahead6_o4, ahead6_o5, ahead6_o6]
theorem ahead6 {rb ro n u x : Nat} {c : Bool} (Fin : World → Prop) (a : Act) (w : World) (Q : Exit → Act → World → Prop) (zz : a.tmps.size = 43)
    (t0 : a.tmps.getD 0 undef = .pointer (some ⟨rb, ro, none⟩))
    (t2 : a.tmps.getD 2 undef = .int .i64 (nb c : Int))
    (t7 : a.tmps.getD 7 undef = .int .i64 (n : Int))
    (t8 : a.tmps.getD 8 undef = .int .i64 (u : Int))
    (hs : n + x ≤ 9223372036854775807) (CU : Calls Tryz.prog 123 #[.pointer (some ⟨rb, ro, none⟩), .int .i64 (u : Int), .int .i64 (nb c : Int)] w fun e w' => e = .returned (.int .i64 (x : Int)) ∧ Fin w')
    (h : ∀ (a' : Act) (w' : World), Fin w' → a' = (((((((a).put (some 35) (.int .i64 (n : Int))).put (some 36) (.pointer (some ⟨rb, ro, none⟩))).put (some 37) (.int .i64 (u : Int))).put (some 38) (.int .i64 (nb c : Int))).put (some 39) (.int .i64 (x : Int))).put (some 40) (.int .i64 ((n + x : Nat) : Int))).put (some 7) (.int .i64 ((n + x : Nat) : Int)) → Q .normal a' w') :
    (Code.region 6 ahead6_ops false).wp Tryz.prog Q a w := by
  refine z0 rfl ?_
  refine zv rfl (xmv rfl (zi t7 rfl)) ?_
  refine zv rfl (xmv rfl (zi t0 rfl)) ?_
  refine zv rfl (xmv rfl (zi t8 rfl)) ?_
  refine zv rfl (xmv rfl (zi t2 rfl)) ?_
  refine zc rfl (exec_c3 rfl (zg zz rfl) (zg zz rfl) (zg zz rfl)) (CU) (fun e x4 hx => ?_)
  obtain ⟨rfl, HF⟩ := hx
  refine ⟨_, rfl, ?_⟩
  refine zv (v := .int .i64 ((n + x : Nat) : Int)) rfl (ex_addN rfl (zg zz rfl) (zg zz rfl) hs) ?_
  refine zv rfl (xas rfl (zg zz rfl)) ?_
  exact ze rfl (h _ _ (HF) rfl)
def find3_o0 : Oper := ⟨some 14, .move (.tmp 0), 129, "row.go:234", #[], none⟩
def find3_o1 : Oper := ⟨some 15, .move (.tmp 7), 3, "row.go:234", #[], none⟩
def find3_o2 : Oper := ⟨some 16, .move (.tmp 2), 3, "row.go:234", #[], none⟩
def find3_o3 : Oper := ⟨some 17, .call { callee := Callee.value (Operand.func 126), args := #[.tmp 14, .tmp 15, Operand.const (Value.int IntKind.i64 0), .tmp 16], argTypes := #[129, 3, 3, 3] }, 3, "row.go:234", #[⟨0, .data⟩, ⟨1, .data⟩, ⟨2, .data⟩], none⟩
def find3_o4 : Oper := ⟨some 18, .move (.tmp 0), 129, "row.go:234", #[], none⟩
def find3_o5 : Oper := ⟨some 19, .move (.tmp 7), 3, "row.go:234", #[], none⟩
def find3_o6 : Oper := ⟨some 20, .move (.tmp 2), 3, "row.go:234", #[], none⟩
def find3_o7 : Oper := ⟨some 21, .call { callee := Callee.value (Operand.func 123), args := #[.tmp 18, .tmp 19, .tmp 20], argTypes := #[129, 3, 3] }, 3, "row.go:234", #[⟨4, .data⟩, ⟨5, .data⟩, ⟨6, .data⟩, ⟨3, .chain⟩], none⟩
def find3_o8 : Oper := ⟨some 8, .assign (.tmp 17), 3, "row.go:234", #[⟨3, .data⟩, ⟨7, .chain⟩, ⟨0, .phase⟩, ⟨1, .phase⟩, ⟨2, .phase⟩, ⟨3, .phase⟩, { on := 4, ground := Ground.textOnly Departure.lateStores }, { on := 5, ground := Ground.textOnly Departure.lateStores }, { on := 6, ground := Ground.textOnly Departure.lateStores }, { on := 7, ground := Ground.textOnly Departure.lateStoresUnsure }], none⟩
def find3_o9 : Oper := ⟨some 9, .assign (.tmp 21), 3, "row.go:234", #[⟨7, .data⟩, ⟨8, .chain⟩, ⟨0, .phase⟩, ⟨1, .phase⟩, ⟨2, .phase⟩, ⟨3, .phase⟩, ⟨4, .phase⟩, ⟨5, .phase⟩, ⟨6, .phase⟩, ⟨7, .phase⟩, ⟨8, .phase⟩], none⟩
def find3_ops : Array Oper := #[find3_o0, find3_o1, find3_o2, find3_o3, find3_o4, find3_o5, find3_o6, find3_o7, find3_o8, find3_o9]
theorem find3 {rb ro i u x : Nat} {c : Bool} (Fin : World → Prop) (a : Act) (w : World) (Q : Exit → Act → World → Prop) (zz : a.tmps.size = 52)
    (t0 : a.tmps.getD 0 undef = .pointer (some ⟨rb, ro, none⟩))
    (t2 : a.tmps.getD 2 undef = .int .i64 (nb c : Int))
    (t7 : a.tmps.getD 7 undef = .int .i64 (i : Int))
    (CU : Calls Tryz.prog 126 #[.pointer (some ⟨rb, ro, none⟩), .int .i64 (i : Int), .int .i64 0, .int .i64 (nb c : Int)] w fun e w' => e = .returned (.int .i64 (u : Int)) ∧ Calls Tryz.prog 123 #[.pointer (some ⟨rb, ro, none⟩), .int .i64 (i : Int), .int .i64 (nb c : Int)] w' fun e2 w2 => e2 = .returned (.int .i64 (x : Int)) ∧ Fin w2)
    (h : ∀ (a' : Act) (w' : World), Fin w' → a' = ((((((((((a).put (some 14) (.pointer (some ⟨rb, ro, none⟩))).put (some 15) (.int .i64 (i : Int))).put (some 16) (.int .i64 (nb c : Int))).put (some 17) (.int .i64 (u : Int))).put (some 18) (.pointer (some ⟨rb, ro, none⟩))).put (some 19) (.int .i64 (i : Int))).put (some 20) (.int .i64 (nb c : Int))).put (some 21) (.int .i64 (x : Int))).put (some 8) (.int .i64 (u : Int))).put (some 9) (.int .i64 (x : Int)) → Q .normal a' w') :
    (Code.region 3 find3_ops false).wp Tryz.prog Q a w := by
  refine z0 rfl ?_
  refine zv rfl (xmv rfl (zi t0 rfl)) ?_
  refine zv rfl (xmv rfl (zi t7 rfl)) ?_
  refine zv rfl (xmv rfl (zi t2 rfl)) ?_
  refine zc rfl (exec_c4 rfl (zg zz rfl) (zg zz rfl) rfl (zg zz rfl)) (CU) (fun e x3 hx => ?_)
  obtain ⟨rfl, CO⟩ := hx
  refine ⟨_, rfl, ?_⟩
  refine zv rfl (xmv rfl (zi t0 rfl)) ?_
  refine zv rfl (xmv rfl (zi t7 rfl)) ?_
  refine zv rfl (xmv rfl (zi t2 rfl)) ?_
  refine zc rfl (exec_c3 rfl (zg zz rfl) (zg zz rfl) (zg zz rfl)) (CO) (fun e x7 hx => ?_)
  obtain ⟨rfl, HF⟩ := hx
  refine ⟨_, rfl, ?_⟩
  refine zv rfl (xas rfl (zg zz rfl)) ?_
  refine zv rfl (xas rfl (zg zz rfl)) ?_
  exact ze rfl (h _ _ (HF) rfl)
def find6_o0 : Oper := ⟨some 35, .move (.tmp 1), 3, "row.go:236", #[], none⟩
def find6_o1 : Oper := ⟨some 36, .move (.tmp 8), 3, "row.go:236", #[], none⟩
def find6_o2 : Oper := ⟨some 37, .binOp BinOp.lss 3 (.tmp 35) (.tmp 36) 3, 4, "row.go:236", #[⟨0, .data⟩, ⟨1, .data⟩], none⟩
def find6_o3 : Oper := ⟨some 34, .assign (.tmp 37), 4, "row.go:236", #[⟨2, .data⟩], none⟩
def find6_ops : Array Oper := #[find6_o0, find6_o1, find6_o2, find6_o3]
theorem find6 {k : Int} {u : Nat} {r : Bool} (a : Act) (w : World) (Q : Exit → Act → World → Prop) (zz : a.tmps.size = 52)
    (t1 : a.tmps.getD 1 undef = .int .i64 k)
    (t8 : a.tmps.getD 8 undef = .int .i64 (u : Int))
    (hr : decide (k < (u : Int)) = r)
    (h : ∀ (a' : Act) (w' : World), w' = w → a' = ((((a).put (some 35) (.int .i64 k)).put (some 36) (.int .i64 (u : Int))).put (some 37) (.bool r)).put (some 34) (.bool r) → Q .normal a' w') :
    (Code.region 6 find6_ops false).wp Tryz.prog Q a w := by
  refine z0 rfl ?_
  refine zv rfl (xmv rfl (zi t1 rfl)) ?_
  refine zv rfl (xmv rfl (zi t8 rfl)) ?_
  refine zv (v := .bool r) rfl (ex_lss rfl (zg zz rfl) (zg zz rfl) hr) ?_
  refine zv rfl (xas rfl (zg zz rfl)) ?_
  exact ze rfl (h _ _ (rfl) rfl)
def find8_o0 : Oper := ⟨some 48, .move (.tmp 1), 3, "row.go:238", #[], none⟩
def find8_o1 : Oper := ⟨some 49, .move (.tmp 9), 3, "row.go:238", #[], none⟩
def find8_o2 : Oper := ⟨some 50, .binOp BinOp.lss 3 (.tmp 48) (.tmp 49) 3, 4, "row.go:238", #[⟨0, .data⟩, ⟨1, .data⟩], none⟩
def find8_o3 : Oper := ⟨some 47, .assign (.tmp 50), 4, "row.go:238", #[⟨2, .data⟩], none⟩
def find8_ops : Array Oper := #[find8_o0, find8_o1, find8_o2, find8_o3]
theorem find8 {k : Int} {x : Nat} {r : Bool} (a : Act) (w : World) (Q : Exit → Act → World → Prop) (zz : a.tmps.size = 52)
    (t1 : a.tmps.getD 1 undef = .int .i64 k)
    (t9 : a.tmps.getD 9 undef = .int .i64 (x : Int))
    (hr : decide (k < (x : Int)) = r)
    (h : ∀ (a' : Act) (w' : World), w' = w → a' = ((((a).put (some 48) (.int .i64 k)).put (some 49) (.int .i64 (x : Int))).put (some 50) (.bool r)).put (some 47) (.bool r) → Q .normal a' w') :
    (Code.region 8 find8_ops false).wp Tryz.prog Q a w := by
  refine z0 rfl ?_
  refine zv rfl (xmv rfl (zi t1 rfl)) ?_
  refine zv rfl (xmv rfl (zi t9 rfl)) ?_
  refine zv (v := .bool r) rfl (ex_lss rfl (zg zz rfl) (zg zz rfl) hr) ?_
  refine zv rfl (xas rfl (zg zz rfl)) ?_
  exact ze rfl (h _ _ (rfl) rfl)
def find4_o0 : Oper := ⟨some 22, .move (.tmp 1), 3, "row.go:241", #[], none⟩
def find4_o1 : Oper := ⟨some 23, .move (.tmp 9), 3, "row.go:241", #[], none⟩
def find4_o2 : Oper := ⟨some 24, .binOp BinOp.sub 3 (.tmp 22) (.tmp 23) 3, 3, "row.go:241", #[⟨0, .data⟩, ⟨1, .data⟩], none⟩
def find4_o3 : Oper := ⟨some 1, .assign (.tmp 24), 3, "row.go:241", #[⟨2, .data⟩, ⟨0, .phase⟩, ⟨1, .phase⟩, ⟨2, .phase⟩], none⟩
def find4_ops : Array Oper := #[find4_o0, find4_o1, find4_o2, find4_o3]
theorem find4 {k : Int} {x : Nat} (a : Act) (w : World) (Q : Exit → Act → World → Prop) (zz : a.tmps.size = 52)
    (t1 : a.tmps.getD 1 undef = .int .i64 k)
    (t9 : a.tmps.getD 9 undef = .int .i64 (x : Int))
    (hs : -9223372036854775808 ≤ k - (x : Int) ∧ k - (x : Int) ≤ 9223372036854775807)
    (h : ∀ (a' : Act) (w' : World), w' = w → a' = ((((a).put (some 22) (.int .i64 k)).put (some 23) (.int .i64 (x : Int))).put (some 24) (.int .i64 (k - (x : Int)))).put (some 1) (.int .i64 (k - (x : Int))) → Q .normal a' w') :
    (Code.region 4 find4_ops false).wp Tryz.prog Q a w := by
  refine z0 rfl ?_
  refine zv rfl (xmv rfl (zi t1 rfl)) ?_
  refine zv rfl (xmv rfl (zi t9 rfl)) ?_
  refine zv (v := .int .i64 (k - (x : Int))) rfl (ex_sub rfl (zg zz rfl) (zg zz rfl) hs) ?_
  refine zv rfl (xas rfl (zg zz rfl)) ?_
  exact ze rfl (h _ _ (rfl) rfl)
def find7_o0 : Oper := ⟨some 38, .move (.tmp 0), 129, "row.go:237", #[], none⟩
def find7_o1 : Oper := ⟨some 39, .nilCheck (.tmp 38), 0, "row.go:237", #[⟨0, .data⟩], none⟩
def find7_o2 : Oper := ⟨some 40, .fieldAddr 75 (.tmp 39) 0, 0, "row.go:237", #[⟨1, .data⟩], none⟩
def find7_o3 : Oper := ⟨some 41, .load 73 (.tmp 40), 73, "row.go:237", #[⟨2, .data⟩], none⟩
def find7_o4 : Oper := ⟨some 42, .move (.tmp 7), 3, "row.go:237", #[], none⟩
def find7_o5 : Oper := ⟨some 43, .indexAddr 73 (.tmp 41) (.tmp 42), 0, "row.go:237", #[⟨3, .data⟩, ⟨4, .data⟩], none⟩
def find7_o6 : Oper := ⟨some 44, .fieldAddr 128 (.tmp 43) 3, 0, "row.go:237", #[⟨5, .data⟩], none⟩
def find7_o7 : Oper := ⟨some 45, .indexAddr 126 (.tmp 44) (Operand.const (Value.int IntKind.i64 0)), 0, "row.go:237", #[⟨6, .data⟩], none⟩
def find7_o8 : Oper := ⟨some 46, .load 3 (.tmp 45), 3, "row.go:237", #[⟨7, .data⟩], none⟩
def find7_o9 : Oper := ⟨some 7, .assign (.tmp 46), 3, "row.go:237", #[⟨8, .data⟩, ⟨0, .phase⟩, ⟨1, .phase⟩, ⟨2, .phase⟩, ⟨3, .phase⟩, ⟨4, .phase⟩, ⟨5, .phase⟩, ⟨6, .phase⟩, ⟨7, .phase⟩, ⟨8, .phase⟩], none⟩
def find7_ops : Array Oper := #[find7_o0, find7_o1, find7_o2, find7_o3, find7_o4, find7_o5, find7_o6, find7_o7, find7_o8, find7_o9]
theorem find7 {rb ro g cap : Nat} {L : List Sp} {i : Nat} (a : Act) (w : World) (Q : Exit → Act → World → Prop) (zz : a.tmps.size = 52)
    (t0 : a.tmps.getD 0 undef = .pointer (some ⟨rb, ro, none⟩))
    (t7 : a.tmps.getD 7 undef = .int .i64 (i : Int))
    (hR : SqAt w rb ro g cap L) (hi : i < L.length)
    (h : ∀ (a' : Act) (w' : World), w' = w → a' = ((((((((((a).put (some 38) (.pointer (some ⟨rb, ro, none⟩))).put (some 39) (.pointer (some ⟨rb, ro, none⟩))).put (some 40) (.pointer (some ⟨rb, ro + 0, none⟩))).put (some 41) (.slice (some ⟨g, 0, none⟩) (L).length cap)).put (some 42) (.int .i64 (i : Int))).put (some 43) (.pointer (some ⟨g, 73 * i, none⟩))).put (some 44) (.pointer (some ⟨g, 73 * i + 69, none⟩))).put (some 45) (.pointer (some ⟨g, 73 * i + 69 + nb false, none⟩))).put (some 46) (.int .i64 (dn (gt L i) false : Int))).put (some 7) (.int .i64 (dn (gt L i) false : Int)) → Q .normal a' w') :
    (Code.region 7 find7_ops false).wp Tryz.prog Q a w := by
  refine z0 rfl ?_
  refine zv rfl (xmv rfl (zi t0 rfl)) ?_
  refine zv rfl (xnc rfl (zg zz rfl)) ?_
  refine zv rfl (xfa rfl (zg zz rfl) (fg_75_0 _ _ _)) ?_
  refine zv rfl (xld rfl (zg zz rfl) (R_sl hR)) ?_
  refine zv rfl (xmv rfl (zi t7 rfl)) ?_
  refine zv rfl (xia rfl (zg zz rfl) (zg zz rfl) (R_ix hi hR.len _)) ?_
  refine zv rfl (xfa rfl (zg zz rfl) (fg_128_3 _ _ _)) ?_
  refine zv rfl (xia rfl (zg zz rfl) rfl (ix_a0 _ _)) ?_
  refine zv rfl (xld rfl (zg zz rfl) (R_dn hR hi false)) ?_
  refine zv rfl (xas rfl (zg zz rfl)) ?_
  exact ze rfl (h _ _ (rfl) rfl)
def find5_o0 : Oper := ⟨some 25, .move (.tmp 0), 129, "row.go:242", #[], none⟩
def find5_o1 : Oper := ⟨some 26, .nilCheck (.tmp 25), 0, "row.go:242", #[⟨0, .data⟩], none⟩
def find5_o2 : Oper := ⟨some 27, .fieldAddr 75 (.tmp 26) 0, 0, "row.go:242", #[⟨1, .data⟩], none⟩
def find5_o3 : Oper := ⟨some 28, .load 73 (.tmp 27), 73, "row.go:242", #[⟨2, .data⟩], none⟩
def find5_o4 : Oper := ⟨some 29, .move (.tmp 7), 3, "row.go:242", #[], none⟩
def find5_o5 : Oper := ⟨some 30, .indexAddr 73 (.tmp 28) (.tmp 29), 0, "row.go:242", #[⟨3, .data⟩, ⟨4, .data⟩], none⟩
def find5_o6 : Oper := ⟨some 31, .fieldAddr 128 (.tmp 30) 3, 0, "row.go:242", #[⟨5, .data⟩], none⟩
def find5_o7 : Oper := ⟨some 32, .indexAddr 126 (.tmp 31) (Operand.const (Value.int IntKind.i64 1)), 0, "row.go:242", #[⟨6, .data⟩], none⟩
def find5_o8 : Oper := ⟨some 33, .load 3 (.tmp 32), 3, "row.go:242", #[⟨7, .data⟩], none⟩
def find5_o9 : Oper := ⟨some 7, .assign (.tmp 33), 3, "row.go:242", #[⟨8, .data⟩, ⟨0, .phase⟩, ⟨1, .phase⟩, ⟨2, .phase⟩, ⟨3, .phase⟩, ⟨4, .phase⟩, ⟨5, .phase⟩, ⟨6, .phase⟩, ⟨7, .phase⟩, ⟨8, .phase⟩], none⟩
def find5_ops : Array Oper := #[find5_o0, find5_o1, find5_o2, find5_o3, find5_o4, find5_o5, find5_o6, find5_o7, find5_o8, find5_o9]
theorem find5 {rb ro g cap : Nat} {L : List Sp} {i : Nat} (a : Act) (w : World) (Q : Exit → Act → World → Prop) (zz : a.tmps.size = 52)
    (t0 : a.tmps.getD 0 undef = .pointer (some ⟨rb, ro, none⟩))
    (t7 : a.tmps.getD 7 undef = .int .i64 (i : Int))
    (hR : SqAt w rb ro g cap L) (hi : i < L.length)
    (h : ∀ (a' : Act) (w' : World), w' = w → a' = ((((((((((a).put (some 25) (.pointer (some ⟨rb, ro, none⟩))).put (some 26) (.pointer (some ⟨rb, ro, none⟩))).put (some 27) (.pointer (some ⟨rb, ro + 0, none⟩))).put (some 28) (.slice (some ⟨g, 0, none⟩) (L).length cap)).put (some 29) (.int .i64 (i : Int))).put (some 30) (.pointer (some ⟨g, 73 * i, none⟩))).put (some 31) (.pointer (some ⟨g, 73 * i + 69, none⟩))).put (some 32) (.pointer (some ⟨g, 73 * i + 69 + nb true, none⟩))).put (some 33) (.int .i64 (dn (gt L i) true : Int))).put (some 7) (.int .i64 (dn (gt L i) true : Int)) → Q .normal a' w') :
    (Code.region 5 find5_ops false).wp Tryz.prog Q a w := by
  refine z0 rfl ?_
  refine zv rfl (xmv rfl (zi t0 rfl)) ?_
  refine zv rfl (xnc rfl (zg zz rfl)) ?_
  refine zv rfl (xfa rfl (zg zz rfl) (fg_75_0 _ _ _)) ?_
  refine zv rfl (xld rfl (zg zz rfl) (R_sl hR)) ?_
  refine zv rfl (xmv rfl (zi t7 rfl)) ?_
  refine zv rfl (xia rfl (zg zz rfl) (zg zz rfl) (R_ix hi hR.len _)) ?_
  refine zv rfl (xfa rfl (zg zz rfl) (fg_128_3 _ _ _)) ?_
  refine zv rfl (xia rfl (zg zz rfl) rfl (ix_a1 _ _)) ?_
  refine zv rfl (xld rfl (zg zz rfl) (R_dn hR hi true)) ?_
  refine zv rfl (xas rfl (zg zz rfl)) ?_
  exact ze rfl (h _ _ (rfl) rfl)
def cq (L : List Sp) (c : Bool) (i : Nat) : Bool := !c || (gt L i).sh
theorem own_cq (L : List Sp) (i : Nat) (c : Bool) : own L i c = if cq L c i = true then 1 else 0 := by
  unfold own cq
  cases c <;> simp
theorem cnt_cq (L : List Sp) (c : Bool) (t : T) : cnt L c t = t.ids.countP (cq L c) := rfl
theorem under_nd {L : List Sp} {p i : Nat} {l r : T} (h : Rep L p (.nd i l r)) (hl : Cnt L l) (h0 : ∀ w, ct (gt L 0) w = 0) (c : Bool) : under L i false c = l.ids.countP (cq L c) := by
  unfold under
  rw [show dn (gt L i) false = l.ix from h.2.2.2.1, hl.at h0 c]
  rfl
section
variable {w : World} {rb ro g cap i n : Nat} {L : List Sp}
theorem rahead_any {t : T} {A B : List Nat} (c : Bool) (h : SqAt w rb ro g cap L) (hg : Good L t) (hi : t.ids = A ++ i :: B) :
    Calls Tryz.prog 98 #[.pointer (some ⟨rb, ro, none⟩), .int .i64 (i : Int), .int .i64 (nb c : Int)] w fun e w' => e = .returned (.int .i64 (A.countP (cq L c) : Int)) ∧ Qt w w' := by
  have him : i ∈ t.ids := by rw [hi]; simp
  obtain ⟨hi0, hil⟩ := hg.lt him
  obtain ⟨c0, l, r, et, z, hcc, hc⟩ := hg.focus him
  have hA : A = pre c0 ++ l.ids := by
    have nd := hg.nodup
    have e1 : t.ids = (pre c0 ++ l.ids) ++ i :: (r.ids ++ post c0) := by rw [et, plug_ids]; simp [T.ids]
    rw [hi] at e1 nd
    have key : ∀ (A A' B B' : List Nat), (A ++ i :: B).Nodup → A ++ i :: B = A' ++ i :: B' → A = A' := by
      intro A
      induction A with
      | nil =>
        intro A' B B' nd e
        cases A' with
        | nil => rfl
        | cons a A' =>
          simp only [List.nil_append, List.cons_append, List.cons.injEq] at e
          obtain ⟨rfl, e⟩ := e
          simp only [List.nil_append, List.nodup_cons] at nd
          exact absurd (by rw [e]; simp) nd.1
      | cons a A ih =>
        intro A' B B' nd e
        cases A' with
        | nil =>
          simp only [List.nil_append, List.cons_append, List.cons.injEq] at e
          obtain ⟨rfl, e⟩ := e
          simp only [List.cons_append, List.nodup_cons] at nd
          exact absurd (by simp) nd.1
        | cons a' A' =>
          simp only [List.cons_append, List.cons.injEq] at e
          simp only [List.cons_append, List.nodup_cons] at nd
          rw [e.1, ih A' B B' nd.2 e.2]
    exact key A _ B _ nd e1
  obtain ⟨N, hN⟩ : ∃ N, L.length = N := ⟨_, rfl⟩
  have hNl : N ≤ 1400000000000 := by rw [← hN]; exact h.len
  have HAL := hidMk (show A.countP (cq L c) ≤ N by
    have h1 : A.countP (cq L c) ≤ A.length := List.countP_le_length
    have h2 := ids_le hg.zip
    rw [hi] at h2
    simp at h2
    omega)
  obtain ⟨K, hK⟩ : ∃ K, A.countP (cq L c) = K := ⟨_, rfl⟩
  rw [hK]
  rw [hK] at HAL
  have HU := hidMk (under_any (b := false) (c := c) h hil (show dn (gt L i) false < L.length from (hg.fit i (by omega) hil).2 false))
  have eu : under L i false c = l.ids.countP (cq L c) := under_nd z.rep hc.2.1 hg.zip.z c
  have hK0 : l.ids.countP (cq L c) + (pre c0).countP (cq L c) = K := by rw [← hK, hA, List.countP_append]; omega
  rw [eu] at HU
  have HUP := hidMk z.rep.2.2.1
  have HN := hidMk hN
  clear eu hA hK hi him hN
  go_enter Tryz.func98, Tryz.ntmps98
  go_upto_region 1 with fail
  refine ahead1 (c := c) (fun w' => Qt w w') _ _ _ rfl rfl rfl rfl HU.out ?_
  intro a' w1 q1 ha
  subst ha
  have h1 := h.qt q1
  simp only [Act.put, List.setIfInBounds_toArray, List.set_cons_zero, List.set_cons_succ, Nat.add_zero]
  go_upto_region 2 with fail
  refine ahead2 _ _ _ rfl rfl rfl h1 hil ?_
  rw [HUP.out]
  intro a' w2 hw ha
  subst ha
  obtain rfl : w2 = w1 := hw
  simp only [Act.put, List.setIfInBounds_toArray, List.set_cons_zero, List.set_cons_succ, Nat.add_zero]
  have H0 := hidMk hK0
  clear hK0 HU HUP
  go_wp2
  go_loopw [1, 7, 8] (fun v1 v7 v8 wr => ∃ (c1 : Ctx) (t1 : T) (a m u : Nat), v1 = .int .i64 (a : Int) ∧ v7 = .int .i64 (m : Int) ∧ v8 = .int .i64 (u : Int) ∧ a = t1.ix ∧ a ≠ 0 ∧ u = upOf c1 ∧ Zip L c1 t1 ∧ CntC L c1 ∧ m + (pre c1).countP (cq L c) = K ∧ Qt w wr) (fun _ _ v8 _ => dep (fun a => (gt L a).up) N (intOf v8).toNat)
  case atStart => exact ⟨c0, .nd i l r, i, l.ids.countP (cq L c), upOf c0, rfl, rfl, rfl, rfl, hi0, rfl, z, hcc, H0.out, q1⟩
  case round =>
    clear H0 z hcc hc et h1 hil hi0
    obtain ⟨c1, t1, a, m, u, rfl, rfl, rfl, ha1, ha0, hu1, z1, cc1, hm, q⟩ := hrel
    have hx := h.qt q
    have HM := hidMk hm
    have hmN : m ≤ N := by have := HAL.out; omega
    cases c1 with
    | nil =>
      have hu0 : u = 0 := hu1
      subst hu0
      have HM2 := hidMk (show m = K by have := HM.out; simpa [pre] using this)
      clear hm hu1 z1 cc1 ha1
      go_wp2
      go_ret
      exact ⟨by rw [← HM2.out]; rfl, q⟩
    | cons f c2 =>
      obtain ⟨u', s, o⟩ := f
      obtain rfl : u = u' := hu1
      obtain ⟨r1, r2, r3, r4, r5, r6, r7⟩ := z1.repc
      have zo := z1.out
      have hal : a < L.length := by rw [ha1]; exact ix_lt z1.rep zo.repc.pos
      have hau : (gt L a).up < L.length := (hg.fit a (by omega) hal).1
      have sa : sideOf L a = s := by have := z1.side (by rw [← ha1]; exact ha0); rw [← ha1] at this; exact this
      have HSD := hidMk (side_any hx hal hau)
      rw [sa] at HSD
      have hu' : ¬ (u : Int) = 0 := by omega
      have HD1 := hidMk (show dep (fun a => (gt L a).up) N u = c2.length + 1 by
        have hcl := ctx_len z1.repc (List.nodup_append.1 z1.nd).2.1
        simp only [List.length_cons] at hcl
        obtain ⟨k, hk⟩ : ∃ k, N = k + 1 := ⟨N - 1, by have := HN.out; omega⟩
        rw [hk]
        show (if u = 0 then 0 else dep (fun a => (gt L a).up) k (gt L u).up + 1) = _
        rw [if_neg r1, r3, dep_ctx _ (fun a _ => rfl) c2 _ k r7 (by have := HN.out; omega)])
      have HD2 := hidMk (show dep (fun a => (gt L a).up) N (upOf c2) = c2.length by
        have hcl := ctx_len z1.repc (List.nodup_append.1 z1.nd).2.1
        simp only [List.length_cons] at hcl
        exact dep_ctx _ (fun a _ => rfl) c2 _ N r7 (by have := HN.out; omega))
      have HR3 := hidMk r3
      go_upto_region 5 with fail
      refine ahead5 (s := s) (fun w' => Qt w w') _ _ _ rfl rfl rfl (by cases s <;> rfl) ?_ ?_
      · refine HSD.out.mono ?_
        rintro e wa ⟨rfl, qa⟩
        exact ⟨rfl, q.trans qa⟩
      intro a' w3 q3 ha
      subst ha
      have h3 := h.qt q3
      simp only [Act.put, List.setIfInBounds_toArray, List.set_cons_zero, List.set_cons_succ, Nat.add_zero]
      clear HSD sa hau hm
      cases s with
      | false =>
        have HM2 := hidMk (show m + (pre c2).countP (cq L c) = K by have := HM.out; simpa [pre] using this)
        have Z2 := hidMk zo
        have CC2 := hidMk cc1.2
        clear zo cc1 z1 r4 r5 r6 r7 HM
        go_upto_region 4 with fail
        refine ahead4 (i := u) _ _ _ rfl rfl rfl h3 r2 ?_
        rw [HR3.out]
        intro a' w4 hw ha
        subst ha
        obtain rfl : w4 = w3 := hw
        simp only [Act.put, List.setIfInBounds_toArray, List.set_cons_zero, List.set_cons_succ, Nat.add_zero]
        go_wp2
        refine ⟨⟨c2, mk u false t1 o, u, m, upOf c2, rfl, rfl, rfl, (mk_ix _ _ _ _).symm, r1, rfl, Z2.out, CC2.out, HM2.out, q3⟩, ?_⟩
        show dep (fun a => (gt L a).up) N (upOf c2 : Int).toNat < dep (fun a => (gt L a).up) N (u : Int).toNat
        rw [Int.toNat_natCast, Int.toNat_natCast, HD1.out, HD2.out]
        omega
      | true =>
        have eup : upTo L u c = o.ids.countP (cq L c) + (if cq L c u = true then 1 else 0) := by
          unfold upTo
          rw [own_cq]
          congr 1
          unfold under
          rw [show dn (gt L u) false = o.ix from r5, cc1.1.at hg.zip.z c]
          rfl
        have HM2 := hidMk (show (m + upTo L u c) + (pre c2).countP (cq L c) = K by
          have := HM.out
          rw [eup]
          simp only [pre, if_true, List.countP_append, List.countP_cons, List.countP_nil] at this
          omega)
        have hb1 : upTo L u c ≤ N := by have := HM2.out; have := HAL.out; omega
        have hb2 : under L u false c ≤ 2800000000000 := by unfold upTo at hb1; omega
        have HUT := hidMk (upTo_any (c := c) h3 r2 ((hg.fit u (by omega) r2).2 false) hb2)
        have Z2 := hidMk zo
        have CC2 := hidMk cc1.2
        clear zo cc1 z1 r4 r5 r6 r7 HM eup
        obtain ⟨x, hx2⟩ : ∃ x, upTo L u c = x := ⟨_, rfl⟩
        rw [hx2] at HM2 HUT hb1
        clear hx2 hb2
        go_upto_region 6 with fail
        refine ahead6 (c := c) (x := x) (fun w' => Qt w w') _ _ _ rfl rfl rfl rfl rfl (by omega) ?_ ?_
        · refine HUT.out.mono ?_
          rintro e wa ⟨rfl, qa⟩
          exact ⟨rfl, q3.trans qa⟩
        intro a' w4 q4 ha
        subst ha
        have h4 := h.qt q4
        simp only [Act.put, List.setIfInBounds_toArray, List.set_cons_zero, List.set_cons_succ, Nat.add_zero]
        obtain ⟨mx, hmx⟩ : ∃ mx, m + x = mx := ⟨_, rfl⟩
        rw [hmx] at HM2 ⊢
        clear hmx hb1
        go_upto_region 4 with fail
        refine ahead4 (i := u) _ _ _ rfl rfl rfl h4 r2 ?_
        rw [HR3.out]
        intro a' w5 hw ha
        subst ha
        obtain rfl : w5 = w4 := hw
        simp only [Act.put, List.setIfInBounds_toArray, List.set_cons_zero, List.set_cons_succ, Nat.add_zero]
        go_wp2
        refine ⟨⟨c2, mk u true t1 o, u, mx, upOf c2, rfl, rfl, rfl, (mk_ix _ _ _ _).symm, r1, rfl, Z2.out, CC2.out, HM2.out, q4⟩, ?_⟩
        show dep (fun a => (gt L a).up) N (upOf c2 : Int).toNat < dep (fun a => (gt L a).up) N (u : Int).toNat
        rw [Int.toNat_natCast, Int.toNat_natCast, HD1.out, HD2.out]
        omega
end
def nth (l : List Nat) (k : Int) : Nat := if 0 ≤ k ∧ k < (l.length : Int) then l.getD k.toNat 0 else 0
theorem nth_left {A B : List Nat} {i : Nat} {x : Bool} {k : Int} (h : k < (A.length : Int)) : nth (A ++ ((if x then [i] else []) ++ B)) k = nth A k := by
  obtain ⟨M, hM⟩ : ∃ M : List Nat, M = if x then [i] else [] := ⟨_, rfl⟩
  rw [← hM]
  unfold nth
  by_cases h0 : 0 ≤ k
  · rw [if_pos ⟨h0, by simp only [List.length_append]; omega⟩, if_pos ⟨h0, h⟩, List.getD_eq_getElem?_getD, List.getD_eq_getElem?_getD, List.getElem?_append_left (by omega)]
  · rw [if_neg (fun q => h0 q.1), if_neg (fun q => h0 q.1)]
theorem nth_mid {A B : List Nat} {i : Nat} {x : Bool} {k : Int} (h1 : ¬ k < (A.length : Int)) (h2 : k < ((A.length + if x = true then 1 else 0 : Nat) : Int)) : nth (A ++ ((if x then [i] else []) ++ B)) k = i := by
  cases x with
  | false => simp at h2; omega
  | true =>
    simp only [if_true] at h2 ⊢
    have hk : k = (A.length : Int) := by omega
    subst hk
    unfold nth
    rw [if_pos ⟨by omega, by simp only [List.length_append, List.length_cons, List.length_nil]; omega⟩, List.getD_eq_getElem?_getD, Int.toNat_natCast, List.getElem?_append_right (Nat.le_refl _)]
    simp
theorem nth_right {A B : List Nat} {i : Nat} {x : Bool} {k : Int} (h2 : ¬ k < ((A.length + if x = true then 1 else 0 : Nat) : Int)) : nth (A ++ ((if x then [i] else []) ++ B)) k = nth B (k - ((A.length + if x = true then 1 else 0 : Nat) : Int)) := by
  obtain ⟨M, hM⟩ : ∃ M : List Nat, M = if x then [i] else [] := ⟨_, rfl⟩
  have hl : M.length = if x = true then 1 else 0 := by rw [hM]; cases x <;> rfl
  rw [← hl] at h2 ⊢
  rw [← hM]
  clear hl hM
  unfold nth
  by_cases h : k - ((A.length + M.length : Nat) : Int) < (B.length : Int)
  · rw [if_pos ⟨by omega, by simp only [List.length_append]; omega⟩, if_pos ⟨by omega, h⟩, List.getD_eq_getElem?_getD, List.getD_eq_getElem?_getD, ← List.append_assoc, List.getElem?_append_right (by simp only [List.length_append]; omega)]
    congr 2
    simp only [List.length_append]
    omega
  · rw [if_neg (fun q => h (by have := q.2; simp only [List.length_append] at this; omega)), if_neg (fun q => h q.2)]
def vis (L : List Sp) (c : Bool) (t : T) : List Nat := t.ids.filter (cq L c)
theorem vis_nd (L : List Sp) (c : Bool) (i : Nat) (l r : T) : vis L c (.nd i l r) = vis L c l ++ ((if cq L c i then [i] else []) ++ vis L c r) := by
  unfold vis
  rw [T.ids, List.filter_append, List.filter_cons]
  cases cq L c i <;> simp
theorem vis_len (L : List Sp) (c : Bool) (t : T) : (vis L c t).length = cnt L c t := by
  unfold vis
  rw [cnt_cq, List.countP_eq_length_filter]
section
variable {w : World} {rb ro g cap i n : Nat} {L : List Sp}
theorem rfind_any {t : T} (c : Bool) (k : Int) (hk : -9223372036854775808 ≤ k ∧ k ≤ 9223372036854775807) (h : SqAt w rb ro g cap L) (hg : Good L t) :
    Calls Tryz.prog 128 #[.pointer (some ⟨rb, ro, none⟩), .int .i64 k, .int .i64 (nb c : Int)] w fun e w' => e = .returned (.int .i64 (nth (vis L c t) k : Int)) ∧ Qt w w' := by
  have hl := h.len
  have HRT := hidMk (root_any h hg)
  obtain ⟨res, hres⟩ : ∃ res, nth (vis L c t) k = res := ⟨_, rfl⟩
  rw [hres]
  have HRES := hidMk hres
  have HK := hidMk hk
  clear hres hk
  go_enter Tryz.func128, Tryz.ntmps128
  go_wp2_with (first
    | (go_at_call 115; refine HRT.out.mono ?_; rintro e w1 ⟨rfl, hw⟩; obtain rfl := hw; clear HRT)
    | fail)
  go_loopw [1, 7] (fun v1 v7 wr => ∃ (t1 : T) (p a : Nat) (k1 : Int), v1 = .int .i64 k1 ∧ v7 = .int .i64 (a : Int) ∧ a = t1.ix ∧ Rep L p t1 ∧ Cnt L t1 ∧ t1.ids.length ≤ L.length ∧ nth (vis L c t1) k1 = res ∧ (-9223372036854775808 ≤ k1 ∧ k1 ≤ 9223372036854775807) ∧ Qt w1 wr) (fun _ v7 _ => (gt L (intOf v7).toNat).ca)
  case atStart => exact ⟨t, 0, t.ix, k, rfl, rfl, rfl, hg.zip.rep, hg.cnt, by have := ids_le hg.zip; omega, HRES.out, HK.out, Qt.refl _⟩
  case round =>
    clear HRES HK
    obtain ⟨t1, p, a, k1, rfl, rfl, ha, hr, hc, hle, hn, hkb, q⟩ := hrel
    have HN := hidMk hn
    have HKB := hidMk hkb
    clear hn hkb
    have hx := h.qt q
    cases t1 with
    | nil =>
      obtain rfl : a = 0 := ha
      have HZ := hidMk (show res = 0 by rw [← HN.out]; simp [nth, vis, T.ids])
      clear HN hr hc hle
      go_wp2
      go_ret
      exact ⟨by rw [HZ.out]; rfl, q⟩
    | nd j l r =>
      obtain rfl : a = j := ha
      obtain ⟨r1, r2, r3, r4, r5, r6, r7⟩ := hr
      have ha0 : ¬ (a : Int) = 0 := by omega
      have hdl : dn (gt L a) false = l.ix := r4
      have hdr : dn (gt L a) true = r.ix := r5
      have lids : l.ids.length + r.ids.length + 1 ≤ L.length := by simp [T.ids] at hle; omega
      have eu : under L a false c = (vis L c l).length := by rw [vis_len, cnt_cq]; exact under_nd ⟨r1, r2, r3, r4, r5, r6, r7⟩ hc.2.1 hg.zip.z c
      have vle : (vis L c l).length ≤ l.ids.length := List.length_filter_le _ _
      have HU := hidMk (under_any (b := false) (c := c) hx r2 (show dn (gt L a) false < L.length by rw [hdl]; exact ix_lt r6 hg.pos))
      have HT := hidMk (fun (W : World) (qW : Qt w1 W) => upTo_any (c := c) (h.qt qW) r2 (show (gt L a).l < L.length by rw [r4]; exact ix_lt r6 hg.pos) (by rw [eu]; omega))
      have et : upTo L a c = (vis L c l).length + if cq L c a = true then 1 else 0 := by unfold upTo; rw [eu, own_cq]
      rw [eu] at HU
      rw [et] at HT
      have HV := hidMk (vis_nd L c a l r)
      have HCA := hidMk (show (gt L a).ca = (T.nd a l r).ids.length by
        have := hc.1 false
        simp only [ct, Bool.false_eq_true, if_false] at this
        rw [this]
        simp [cnt])
      have hcl : (gt L l.ix).ca = l.ids.length := by
        have := hc.2.1.at hg.zip.z false
        simp only [ct, Bool.false_eq_true, if_false] at this
        rw [this]
        simp [cnt]
      have hcr : (gt L r.ix).ca = r.ids.length := by
        have := hc.2.2.at hg.zip.z false
        simp only [ct, Bool.false_eq_true, if_false] at this
        rw [this]
        simp [cnt]
      have HCL := hidMk hcl
      have HCR := hidMk hcr
      obtain ⟨x, hx1⟩ : ∃ x, (vis L c l).length + (if cq L c a = true then 1 else 0) = x := ⟨_, rfl⟩
      have hxb : x ≤ 1400000000001 := by rw [← hx1]; split <;> omega
      rw [hx1] at HT
      have HX := hidMk hx1
      obtain ⟨u, hu1⟩ : ∃ u, (vis L c l).length = u := ⟨_, rfl⟩
      rw [hu1] at HU
      have HUU := hidMk hu1
      clear et eu hx1 hu1 hcl hcr vle
      go_upto_region 3 with fail
      refine find3 (c := c) (u := u) (x := x) (fun w' => Qt w1 w') _ _ _ rfl rfl rfl rfl ?_ ?_
      · refine HU.out.mono ?_
        rintro e wa ⟨rfl, qa⟩
        refine ⟨rfl, ?_⟩
        refine (HT.out _ (q.trans qa)).mono ?_
        rintro e wb ⟨rfl, qb⟩
        exact ⟨rfl, (q.trans qa).trans qb⟩
      intro a' w2 q2 ha
      subst ha
      have h2 := h.qt q2
      simp only [Act.put, List.setIfInBounds_toArray, List.set_cons_zero, List.set_cons_succ, Nat.add_zero]
      clear HU HT
      go_upto_region 6 with fail
      refine find6 (k := k1) (u := u) (r := decide (k1 < (u : Int))) _ _ _ rfl rfl rfl rfl ?_
      intro a' w3 hw ha
      subst ha
      obtain rfl : w3 = w2 := hw
      simp only [Act.put, List.setIfInBounds_toArray, List.set_cons_zero, List.set_cons_succ, Nat.add_zero]
      by_cases hku : k1 < (u : Int)
      · rw [show decide (k1 < (u : Int)) = true from decide_eq_true hku]
        have HN2 := hidMk (show nth (vis L c l) k1 = res by rw [← HN.out, HV.out, nth_left (by rw [HUU.out]; exact hku)])
        clear hku
        go_upto_region 7 with fail
        refine find7 (i := a) _ _ _ rfl rfl rfl h2 r2 ?_
        rw [hdl]
        intro a' w4 hw ha
        subst ha
        obtain rfl : w4 = w3 := hw
        simp only [Act.put, List.setIfInBounds_toArray, List.set_cons_zero, List.set_cons_succ, Nat.add_zero]
        clear hdl hdr
        go_wp2
        refine ⟨⟨l, a, l.ix, k1, rfl, rfl, rfl, r6, hc.2.1, by omega, HN2.out, HKB.out, q2⟩, ?_⟩
        show (gt L (l.ix : Int).toNat).ca < (gt L (a : Int).toNat).ca
        rw [Int.toNat_natCast, Int.toNat_natCast, HCL.out, HCA.out]
        simp only [T.ids, List.length_append, List.length_cons]
        omega
      · rw [show decide (k1 < (u : Int)) = false from decide_eq_false hku]
        go_upto_region 8 with fail
        refine find8 (k := k1) (x := x) (r := decide (k1 < (x : Int))) _ _ _ rfl rfl rfl rfl ?_
        intro a' w4 hw ha
        subst ha
        obtain rfl : w4 = w3 := hw
        simp only [Act.put, List.setIfInBounds_toArray, List.set_cons_zero, List.set_cons_succ, Nat.add_zero]
        by_cases hkx : k1 < (x : Int)
        · rw [show decide (k1 < (x : Int)) = true from decide_eq_true hkx]
          have HN2 := hidMk (show res = a by rw [← HN.out, HV.out, nth_mid (by rw [HUU.out]; exact hku) (by rw [HX.out]; exact hkx)])
          clear hku hkx
          go_wp2
          go_ret
          exact ⟨by rw [HN2.out]; rfl, q2⟩
        · rw [show decide (k1 < (x : Int)) = false from decide_eq_false hkx]
          have HN2 := hidMk (show nth (vis L c r) (k1 - (x : Int)) = res by
            rw [← HN.out, HV.out, nth_right (by rw [HX.out]; exact hkx), HX.out])
          have hkb := HKB.out
          have HK2 := hidMk (show -9223372036854775808 ≤ k1 - (x : Int) ∧ k1 - (x : Int) ≤ 9223372036854775807 by omega)
          clear hku hkx hkb
          go_upto_region 4 with fail
          refine find4 (k := k1) (x := x) _ _ _ rfl rfl rfl HK2.out ?_
          intro a' w5 hw ha
          subst ha
          obtain rfl : w5 = w4 := hw
          simp only [Act.put, List.setIfInBounds_toArray, List.set_cons_zero, List.set_cons_succ, Nat.add_zero]
          obtain ⟨k2, hk2⟩ : ∃ k2, k1 - (x : Int) = k2 := ⟨_, rfl⟩
          rw [hk2] at HN2 HK2 ⊢
          clear hk2
          go_upto_region 5 with fail
          refine find5 (i := a) _ _ _ rfl rfl rfl h2 r2 ?_
          rw [hdr]
          intro a' w6 hw ha
          subst ha
          obtain rfl : w6 = w5 := hw
          simp only [Act.put, List.setIfInBounds_toArray, List.set_cons_zero, List.set_cons_succ, Nat.add_zero]
          clear hdl hdr
          go_wp2
          refine ⟨⟨r, a, r.ix, k2, rfl, rfl, rfl, r7, hc.2.2, by omega, HN2.out, HK2.out, q2⟩, ?_⟩
          show (gt L (r.ix : Int).toNat).ca < (gt L (a : Int).toNat).ca
          rw [Int.toNat_natCast, Int.toNat_natCast, HCR.out, HCA.out]
          simp only [T.ids, List.length_append, List.length_cons]
          omega
end
/- Steps of a list of operations inside a fence that lets all by. -/
section
variable {F : Fence} {n : Nat} {P : Program} {ops : Array Oper} {rest : List Oper} {o : Oper} {a : Act} {w w2 : World} {Q : Exit → Act → World → Prop}
theorem qkI {v : Value} {d : Nat} (hw : Region.wanted o (yielded ops a.tmps) = true) (hr : (execOp a.eval o).run P w = .ok (.value v) w2) (h : ∀ a', a' = a.put (some d) v → wpListIn F n P ops Q rest a' w2) (hd : o.dst = some d := by rfl) (hF : ∀ f, F.fn f := by exact fun _ => trivial) (hn : ∀ c, o.op ≠ .defer c := by intro c h; cases h) : wpListIn F n P ops Q (o :: rest) a w :=
  wpListIn_step fun K hK => by
    rw [if_pos hw]
    refine ⟨fun f _ => hF f, ?_⟩
    rw [Oper.semAt_plain F _ _ hn, hr, Oper.uponIn_value]
    exact hK _ _ (by rw [hd]; exact h _ rfl)
theorem qvI {v : Value} {d : Nat} (hw : Region.wanted o (yielded ops a.tmps) = true) (hr : (execOp a.eval o).run P w = .ok (.value v) w) (h : ∀ a', a' = a.put (some d) v → wpListIn F n P ops Q rest a' w) (hd : o.dst = some d := by rfl) (hF : ∀ f, F.fn f := by exact fun _ => trivial) (hn : ∀ c, o.op ≠ .defer c := by intro c h; cases h) : wpListIn F n P ops Q (o :: rest) a w := qkI hw hr h hd hF hn
theorem qsI (hw : Region.wanted o (yielded ops a.tmps) = true) (hr : (execOp a.eval o).run P w = .ok .skip w2) (h : wpListIn F n P ops Q rest a w2) (hd : o.dst = none := by rfl) (hF : ∀ f, F.fn f := by exact fun _ => trivial) (hn : ∀ c, o.op ≠ .defer c := by intro c h; cases h) : wpListIn F n P ops Q (o :: rest) a w :=
  wpListIn_step fun K hK => by
    rw [if_pos hw]
    refine ⟨fun f _ => hF f, ?_⟩
    rw [Oper.semAt_plain F _ _ hn, hr, Oper.uponIn_skip]
    exact hK _ _ (by rw [hd]; exact h)
theorem qyI {l : Nat} {vs : Array Value} {R : Ending → World → Prop} {d : Nat} (hw : Region.wanted o (yielded ops a.tmps) = true) (hr : (execOp a.eval o).run P w = (Instr.yield l vs).run P w) (hC : YieldAt Fence.wide (n - 1) P l vs w R) (h : ∀ e w', R e w' → ∃ v, e = .returned v ∧ ∀ a', a' = a.put (some d) v → wpListIn Fence.wide n P ops Q rest a' w') (hd : o.dst = some d := by rfl) (hn : ∀ c, o.op ≠ .defer c := by intro c h; cases h) : wpListIn Fence.wide n P ops Q (o :: rest) a w :=
  wpListIn_step fun K hK => by
    rw [if_pos hw]
    refine ⟨fun f _ => trivial, ?_⟩
    obtain ⟨fn, tmps, assign, body, hy, hR⟩ := hC
    rw [Oper.semAt_plain Fence.wide _ _ hn, hr, hy, Oper.uponIn_round]
    refine ⟨fun h => by simp [Fence.wide] at h, hR.mono ?_⟩
    intro e w' hp
    obtain ⟨v, rfl, hh⟩ := h e w' hp
    exact hK _ _ (by rw [hd]; exact hh _ rfl)
end
structure Elt where
  id : IdK
  bh : IdK
  sh : Bool
def eltAt (L : List Sp) (i : Nat) : Elt := ⟨(gt L i).kp.id, (gt L i).kp.bh, (gt L i).sh⟩
def elts (L : List Sp) (t : T) : List Elt := t.ids.map (eltAt L)
def hasE (E : List Elt) (k : IdK) : Bool := E.any (fun e => decide (e.id = k))
theorem hasE_iff {E : List Elt} {k : IdK} : hasE E k = true ↔ ∃ e ∈ E, e.id = k := by simp [hasE]
def folE (E : List Elt) (k : IdK) : Nat := E.countP (fun e => decide (e.bh = k))
structure SeqOk (E : List Elt) : Prop where
  nd : (E.map (·.id)).Nodup
  ok : ∀ e ∈ E, e.id.ok ∧ e.bh.ok ∧ 1 ≤ e.id.n
  bh : ∀ e ∈ E, e.bh = zId ∨ hasE E e.bh = true
def insE : List Elt → IdK → Elt → List Elt
  | [], _, x => [x]
  | e :: E, b, x => if e.id = b then e :: x :: E else e :: insE E b x
def putE (E : List Elt) (b : IdK) (x : Elt) : List Elt := if b = zId then x :: E else insE E b x
theorem insE_mid {A B : List Elt} {e x : Elt} (h : ∀ y ∈ A, y.id ≠ e.id) : insE (A ++ e :: B) e.id x = A ++ e :: x :: B := by
  induction A with
  | nil => simp [insE]
  | cons a A ih =>
    rw [List.cons_append, insE, if_neg (h a (by simp)), ih (fun y hy => h y (by simp [hy]))]
    rfl
theorem insE_perm (E : List Elt) (b : IdK) (x : Elt) : (insE E b x).Perm (x :: E) := by
  induction E with
  | nil => exact List.Perm.refl _
  | cons e E ih =>
    unfold insE
    split
    · exact List.Perm.swap _ _ _
    · exact (List.Perm.cons e ih).trans (List.Perm.swap _ _ _)
theorem putE_perm (E : List Elt) (b : IdK) (x : Elt) : (putE E b x).Perm (x :: E) := by
  unfold putE
  split
  · exact List.Perm.refl _
  · exact insE_perm E b x
theorem folE_perm {E F : List Elt} (h : E.Perm F) (k : IdK) : folE E k = folE F k := h.countP_eq _
theorem hasE_perm {E F : List Elt} (h : E.Perm F) (k : IdK) : hasE E k = hasE F k := by
  rw [Bool.eq_iff_iff, hasE_iff, hasE_iff]
  exact ⟨fun ⟨e, he, q⟩ => ⟨e, h.mem_iff.1 he, q⟩, fun ⟨e, he, q⟩ => ⟨e, h.mem_iff.2 he, q⟩⟩
theorem SeqOk.perm {E F : List Elt} (h : SeqOk E) (p : E.Perm F) : SeqOk F :=
  ⟨(p.map _).nodup_iff.1 h.nd, fun e he => h.ok e (p.mem_iff.2 he), fun e he => (h.bh e (p.mem_iff.2 he)).imp id (fun q => by rw [← hasE_perm p]; exact q)⟩
theorem SeqOk.cons {E : List Elt} (h : SeqOk E) {x : Elt} (hx : x.id.ok ∧ x.bh.ok ∧ 1 ≤ x.id.n) (hn : hasE E x.id = false) (hb : x.bh = zId ∨ hasE E x.bh = true) : SeqOk (x :: E) := by
  have hni : ∀ e ∈ E, e.id ≠ x.id := fun e he q => by
    have : hasE E x.id = true := hasE_iff.2 ⟨e, he, q⟩
    rw [hn] at this; cases this
  refine ⟨?_, ?_, ?_⟩
  · rw [List.map_cons, List.nodup_cons]
    exact ⟨fun q => by obtain ⟨e, he, q⟩ := List.mem_map.1 q; exact hni e he q, h.nd⟩
  · intro e he
    rcases List.mem_cons.1 he with rfl | he
    · exact hx
    · exact h.ok e he
  · intro e he
    have up : ∀ k, hasE E k = true → hasE (x :: E) k = true := fun k q => by
      obtain ⟨e, he, q⟩ := hasE_iff.1 q
      exact hasE_iff.2 ⟨e, by simp [he], q⟩
    rcases List.mem_cons.1 he with rfl | he
    · exact hb.imp id (up _)
    · exact (h.bh e he).imp id (up _)
theorem SeqOk.put {E : List Elt} (h : SeqOk E) {x : Elt} (hx : x.id.ok ∧ x.bh.ok ∧ 1 ≤ x.id.n) (hn : hasE E x.id = false) (hb : x.bh = zId ∨ hasE E x.bh = true) : SeqOk (putE E x.bh x) :=
  (h.cons hx hn hb).perm (putE_perm E x.bh x).symm
structure Sx where
  sb : Nat
  mb : Nat
  g : Nat
  cap : Nat
  L : List Sp
  t : T
  N : List (IdK × Nat)
def Sx.bl (s : Sx) : List Nat := [s.sb, s.mb, s.g]
def entM (N : List (IdK × Nat)) : List (IdK × Value) := M.onV (fun n : Nat => Value.int .i64 (n : Int)) N
structure Lk (s : Sx) (E : List Elt) : Prop where
  good : Good s.L s.t
  e : E = elts s.L s.t
  ok : SeqOk E
  map : ∀ k n, M.look s.N k = some n ↔ (n ∈ s.t.ids ∧ (gt s.L n).kp.id = k)
  zid : (gt s.L 0).kp.id = zId
  fol : ∀ n, n = 0 ∨ n ∈ s.t.ids → (gt s.L n).kp.fol = (folE E (gt s.L n).kp.id : Int)
structure SeqAt (w : World) (s : Sx) (E : List Elt) : Prop where
  c0 : w.cell? ⟨s.sb, 0, none⟩ = some (.map (some s.mb))
  row : SqAt w s.sb 1 s.g s.cap s.L
  map : M.MapAt w s.mb IdK.v IdK.ok (entM s.N)
  nm : s.sb ≠ s.mb ∧ s.g ≠ s.mb
  lk : Lk s E
theorem SeqAt.lt {w : World} {s : Sx} {E : List Elt} (h : SeqAt w s E) : ∀ j ∈ s.bl, j < w.heap.size := by
  intro j hj
  simp only [Sx.bl, List.mem_cons, List.not_mem_nil, or_false] at hj
  rcases hj with rfl | rfl | rfl
  · exact h.row.lt.1
  · exact h.map.lt
  · exact h.row.lt.2
theorem SeqAt.keep {w w' : World} {s : Sx} {E : List Elt} (h : SeqAt w s E) (hk : ∀ j ∈ s.bl, w'.heap[j]? = w.heap[j]?) : SeqAt w' s E :=
  ⟨(World.cell?_of_block (a := ⟨s.sb, 0, none⟩) (hk s.sb (by simp [Sx.bl]))).trans h.c0, h.row.keep (hk s.sb (by simp [Sx.bl])) (hk s.g (by simp [Sx.bl])), h.map.below (hk s.mb (by simp [Sx.bl])), h.nm, h.lk⟩
theorem SeqAt.below {w w' : World} {s : Sx} {E : List Elt} (h : SeqAt w s E) (b : Below w.heap.size w w') : SeqAt w' s E := h.keep (fun j hj => b.block j (h.lt j hj))
theorem SeqAt.drew {w : World} {s : Sx} {E : List Elt} (h : SeqAt w s E) : SeqAt w.drew s E := h.keep (fun _ _ => rfl)
theorem SeqAt.qt {w w' : World} {s : Sx} {E : List Elt} (h : SeqAt w s E) (q : Qt w w') : SeqAt w' s E := h.keep (fun j _ => by rw [q.heap])
theorem look_entM (N : List (IdK × Nat)) (k : IdK) : M.look (entM N) k = (M.look N k).map (fun n : Nat => Value.int .i64 (n : Int)) := M.look_on _ _ _
theorem Lk.has {s : Sx} {E : List Elt} (h : Lk s E) (k : IdK) : hasE E k = (M.look s.N k).isSome := by
  rw [Bool.eq_iff_iff, hasE_iff]
  constructor
  · rintro ⟨e, he, q⟩
    rw [h.e, elts] at he
    obtain ⟨n, hn, rfl⟩ := List.mem_map.1 he
    rw [(h.map k n).2 ⟨hn, q⟩]
    rfl
  · intro q
    obtain ⟨n, hn⟩ := Option.isSome_iff_exists.1 q
    obtain ⟨h1, h2⟩ := (h.map k n).1 hn
    exact ⟨eltAt s.L n, by rw [h.e, elts]; exact List.mem_map.2 ⟨n, h1, rfl⟩, h2⟩
def spotOf (s : Sx) (k : IdK) : Nat := (M.look s.N k).getD 0
theorem Lk.spot {s : Sx} {E : List Elt} (h : Lk s E) {k : IdK} (hk : hasE E k = true) : spotOf s k ∈ s.t.ids ∧ (gt s.L (spotOf s k)).kp.id = k := by
  rw [h.has] at hk
  obtain ⟨n, hn⟩ := Option.isSome_iff_exists.1 hk
  unfold spotOf
  rw [hn]
  exact (h.map k n).1 hn
theorem Lk.spot0 {s : Sx} {E : List Elt} (h : Lk s E) {k : IdK} (hk : hasE E k = false) : spotOf s k = 0 := by
  rw [h.has] at hk
  unfold spotOf
  cases q : M.look s.N k with
  | none => rfl
  | some n => rw [q] at hk; cases hk
theorem Lk.zero {s : Sx} {E : List Elt} (h : Lk s E) : hasE E zId = false := by
  cases q : hasE E zId with
  | false => rfl
  | true =>
    obtain ⟨e, he, q⟩ := hasE_iff.1 q
    have := (h.ok.ok e he).2.2
    rw [q] at this
    simp [zId] at this
theorem Lk.spot_has {s : Sx} {E : List Elt} (h : Lk s E) (k : IdK) : (decide ((spotOf s k : Int) ≠ 0)) = hasE E k := by
  cases q : hasE E k with
  | false => rw [h.spot0 q]; rfl
  | true =>
    have := (h.good.lt (h.spot q).1).1
    simp; omega
theorem look_spot {w : World} {s : Sx} {E : List Elt} (h : SeqAt w s E) (k : IdK) (hk : k.ok) : (Instr.lookup 72 (.map (some s.mb)) k.v false).run Tryz.prog w = .ok (.int .i64 (spotOf s k : Int)) w := by
  have hz : (zeroValue 3).run Tryz.prog w = .ok (.int .i64 0) w := by kernel_rfl
  rw [M.run_look idKey Tryz.underlying72 h.map k hk hz false, look_entM, if_neg (by decide)]
  unfold spotOf
  cases M.look s.N k <;> rfl
section
variable {w : World} {rb ro g cap i : Nat} {L : List Sp}
theorem Sp.get_id {s : Sp} {j : Nat} {v : Value} (h : (s.kp.id.c)[j]? = some v) : (Sp.c s)[j]? = some v := by
  have hl := (List.getElem?_eq_some_iff.1 h).1
  rw [Sp.c, List.getElem?_append_left (by simp [KpV.c]; omega), KpV.c, List.getElem?_append_left hl]
  exact h
theorem Sp.get_fol {s : Sp} (ok : KpV.ok s.kp) : (Sp.c s)[66]? = some (.int .i64 s.kp.fol) := by
  have l1 := IdK.len ok.id
  have l2 := IdK.len ok.bh
  rw [Sp.c, List.getElem?_append_left (by simp [KpV.c, l1, l2]), KpV.c, List.getElem?_append_right (by omega), l1, List.getElem?_append_right (by omega), l2]
  rfl
theorem R_id (h : SqAt w rb ro g cap L) (hi : i < L.length) : (Instr.loadAt 36 (.pointer (some ⟨g, 73 * i + 0 + 0, none⟩))).run Tryz.prog w = .ok (gt L i).kp.id.v w :=
  run_loadAt_mid (P := Tryz.prog) w g (73 * i) 36 (gt L i).kp.id.c _ (fun j v hv => h.range hi j v (Sp.get_id hv)) Tryz.underlying36 rfl (by rw [IdK.len (h.ok.gt hi).id]; exact szId)
theorem R_fol (h : SqAt w rb ro g cap L) (hi : i < L.length) : (Instr.loadAt 3 (.pointer (some ⟨g, 73 * i + 0 + 66, none⟩))).run Tryz.prog w = .ok (.int .i64 (gt L i).kp.fol) w := by
  have := h.range hi 66 _ (Sp.get_fol (h.ok.gt hi))
  rw [Nat.add_zero]
  go_simp
def setFol (L : List Sp) (i : Nat) (v : Int) : List Sp := md L i (fun s => { s with kp := { s.kp with fol := v } })
theorem st_fol (h : SqAt w rb ro g cap L) (hi : i < L.length) (v : Int) : ∃ w', (Instr.storeAt 3 (.pointer (some ⟨g, 73 * i + 0 + 66, none⟩)) (.int .i64 v)).run Tryz.prog w = .ok () w' ∧ Did w rb ro g cap (setFol L i v) w' := by
  have ok := h.ok.gt hi
  have l1 := IdK.len ok.id
  have l2 := IdK.len ok.bh
  obtain ⟨w', e, a, t, z⟩ := h.seg (k := 66) (n := 1) (t := 3) (v := .int .i64 v) hi (fun s => { s with kp := { s.kp with fol := v } }) [.int .i64 v] rfl (by
    have e1 : (Sp.c (gt L i)).take 66 = (gt L i).kp.id.c ++ (gt L i).kp.bh.c := by
      rw [Sp.c, KpV.c, ← List.append_assoc, List.append_assoc, List.take_append_of_le_length (by simp [l1, l2]), List.take_of_length_le (by simp [l1, l2])]
    have e2 : (Sp.c (gt L i)).drop (66 + 1) = Sp.t (gt L i) := by
      rw [Sp.c, List.drop_append, KpV.len ok, List.drop_of_length_le (by rw [KpV.len ok]; omega)]
      simp
    rw [e1, e2]
    simp [Sp.c, KpV.c, Sp.t]) (by omega) ⟨ok.id, ok.bh⟩ (by simp [Value.oneCell']) (by kernel_rfl) rfl
  exact ⟨w', e, a, t, z⟩
end
theorem setFol_len (L : List Sp) (i : Nat) (v : Int) : (setFol L i v).length = L.length := md_len _ _ _
theorem setFol_gt (L : List Sp) (i : Nat) (v : Int) (j : Nat) : (gt (setFol L i v) j).kp.id = (gt L j).kp.id ∧ (gt (setFol L i v) j).kp.bh = (gt L j).kp.bh ∧ Sq.Alike L (setFol L i v) j ∧ (∀ w, ct (gt (setFol L i v) j) w = ct (gt L j) w) ∧ (gt (setFol L i v) j).sh = (gt L j).sh ∧ (gt (setFol L i v) j).kp.fol = if i = j ∧ i < L.length then v else (gt L j).kp.fol := by
  unfold setFol
  by_cases e : i = j ∧ i < L.length
  · rw [if_pos e]
    have : gt (md L i (fun s => { s with kp := { s.kp with fol := v } })) j = { gt L j with kp := { (gt L j).kp with fol := v } } := by rw [gt_md, if_pos e]
    rw [this]
    exact ⟨rfl, rfl, ⟨by rw [this], by rw [this], by rw [this]⟩, fun w => by cases w <;> rfl, rfl, rfl⟩
  · rw [if_neg e]
    have : gt (md L i (fun s => { s with kp := { s.kp with fol := v } })) j = gt L j := by rw [gt_md, if_neg e]
    rw [this]
    exact ⟨rfl, rfl, ⟨by rw [this], by rw [this], by rw [this]⟩, fun w => rfl, rfl, rfl⟩
theorem Good.setFol {L : List Sp} {t : T} (h : Good L t) (i : Nat) (v : Int) : Good (setFol L i v) t :=
  ⟨⟨h.zip.rep.same (md_len _ _ _) (fun j _ => (setFol_gt L i v j).2.2.1), h.zip.repc.same (md_len _ _ _) (fun j _ => (setFol_gt L i v j).2.2.1) ⟨(setFol_gt L i v 0).2.2.1.l, (setFol_gt L i v 0).2.2.1.r⟩, h.zip.nd, fun w => by rw [(setFol_gt L i v 0).2.2.2.1]; exact h.zip.z w⟩,
    h.cnt.same (fun j _ => ⟨(setFol_gt L i v j).2.2.2.2.1, (setFol_gt L i v j).2.2.2.1⟩), fun j h0 hj => h.all j h0 (by rw [setFol_len] at hj; exact hj)⟩
theorem fg_80_0 (b o : Nat) (W : World) : (Instr.fieldAt 80 (.pointer (some ⟨b, o, none⟩)) 0).run Tryz.prog W = .ok (.pointer (some ⟨b, o + 0, none⟩)) W := by go_simp
theorem fg_80_1 (b o : Nat) (W : World) : (Instr.fieldAt 80 (.pointer (some ⟨b, o, none⟩)) 1).run Tryz.prog W = .ok (.pointer (some ⟨b, o + 1, none⟩)) W := by go_simp
theorem fg_78_0 (b o : Nat) (W : World) : (Instr.fieldAt 78 (.pointer (some ⟨b, o, none⟩)) 0).run Tryz.prog W = .ok (.pointer (some ⟨b, o + 0, none⟩)) W := by go_simp
theorem fg_78_2 (b o : Nat) (W : World) : (Instr.fieldAt 78 (.pointer (some ⟨b, o, none⟩)) 2).run Tryz.prog W = .ok (.pointer (some ⟨b, o + 66, none⟩)) W := by go_simp
theorem fg_36_1 (b o : Nat) (W : World) : (Instr.fieldAt 36 (.pointer (some ⟨b, o, none⟩)) 1).run Tryz.prog W = .ok (.pointer (some ⟨b, o + 32, none⟩)) W := by go_simp
theorem ld_map {w : World} {sb mb : Nat} (h : w.cell? ⟨sb, 0, none⟩ = some (.map (some mb))) : (Instr.loadAt 72 (.pointer (some ⟨sb, 0, none⟩))).run Tryz.prog w = .ok (.map (some mb)) w := by go_simp
theorem ld_n {w : World} {b : Nat} {k : IdK} (hk : k.ok) (h : IdAt w b k) : (Instr.loadAt 3 (.pointer (some ⟨b, 32, none⟩))).run Tryz.prog w = .ok (.int .i64 k.n) w := by
  have : w.cell? ⟨b, 32, none⟩ = some (.int .i64 k.n) := by
    have := cells_range h 32 (.int .i64 k.n) (by
      rw [IdK.c, List.getElem?_append_right (by rw [hcs_len, hk.l]; omega), hcs_len, hk.l]
      rfl)
    rwa [Nat.zero_add] at this
  go_simp
theorem build_id (w : World) : (Instr.build 36 #[]).run Tryz.prog w = .ok zId.v w := by kernel_rfl
theorem guard_id (x y : Operand) (a b : IdK) (w : World) (op : BinOp) : (eqGuard op 36 x y a.v b.v).run Tryz.prog w = .ok () w := by
  have h : Tryz.prog.eqGuardType Tryz.prog.depth 36 = false := by kernel_rfl
  have hp : ∀ w : World, (program).run Tryz.prog w = .ok Tryz.prog w := fun w => rfl
  unfold eqGuard IdK.v
  cases op <;> simp [h, hp, Result.andThen]
theorem eql_id (a b : IdK) (ha : a.ok) (hb : b.ok) (w : World) : (binOp .eql 36 a.v b.v).run Tryz.prog w = .ok (.bool (decide (a = b))) w := by
  have h : (Op.equalIn Op.maxDepth 36 a.v b.v).run Tryz.prog w = .ok (decide (a = b)) w := eqId 9997 a b ha hb w
  unfold IdK.v at h ⊢
  simp [binOp, Op.equal, h, Result.andThen]
theorem neq_id (a b : IdK) (ha : a.ok) (hb : b.ok) (w : World) : (binOp .neq 36 a.v b.v).run Tryz.prog w = .ok (.bool (!decide (a = b))) w := by
  have h : (Op.equalIn Op.maxDepth 36 a.v b.v).run Tryz.prog w = .ok (decide (a = b)) w := eqId 9997 a b ha hb w
  unfold IdK.v at h ⊢
  simp [binOp, Op.equal, h, Result.andThen]
section
variable {w : World} {a : Act} {o : Oper} {x y : Operand} {p q : IdK} {r : Bool}
theorem ex_neqI (ho : o.op = .binOp .neq 36 x y 36) (hx : a.eval x = p.v) (hy : a.eval y = q.v) (hp : p.ok) (hq : q.ok) (h : (!decide (p = q)) = r) : (execOp a.eval o).run Tryz.prog w = .ok (.value (.bool r)) w :=
  exec_binOp ho hx hy (guard_id _ _ _ _ _ _) (by rw [neq_id p q hp hq, h])
theorem ex_eqlI (ho : o.op = .binOp .eql 36 x y 36) (hx : a.eval x = p.v) (hy : a.eval y = q.v) (hp : p.ok) (hq : q.ok) (h : decide (p = q) = r) : (execOp a.eval o).run Tryz.prog w = .ok (.value (.bool r)) w :=
  exec_binOp ho hx hy (guard_id _ _ _ _ _ _) (by rw [eql_id p q hp hq, h])
theorem build_el0 (w : World) (a0 a1 a2 a3 a4 a5 a6 a7 a8 a9 a10 a11 a12 a13 a14 a15 a16 a17 a18 a19 a20 a21 a22 a23 a24 a25 a26 a27 a28 a29 a30 a31 a32 b0 b1 b2 b3 b4 b5 b6 b7 b8 b9 b10 b11 b12 b13 b14 b15 b16 b17 b18 b19 b20 b21 b22 b23 b24 b25 b26 b27 b28 b29 b30 b31 b32 : Value) : (Instr.build 78 #[(0, .agg [a0, a1, a2, a3, a4, a5, a6, a7, a8, a9, a10, a11, a12, a13, a14, a15, a16, a17, a18, a19, a20, a21, a22, a23, a24, a25, a26, a27, a28, a29, a30, a31, a32].toArray), (1, .agg [b0, b1, b2, b3, b4, b5, b6, b7, b8, b9, b10, b11, b12, b13, b14, b15, b16, b17, b18, b19, b20, b21, b22, b23, b24, b25, b26, b27, b28, b29, b30, b31, b32].toArray)]).run Tryz.prog w = .ok (.agg ([a0, a1, a2, a3, a4, a5, a6, a7, a8, a9, a10, a11, a12, a13, a14, a15, a16, a17, a18, a19, a20, a21, a22, a23, a24, a25, a26, a27, a28, a29, a30, a31, a32] ++ ([b0, b1, b2, b3, b4, b5, b6, b7, b8, b9, b10, b11, b12, b13, b14, b15, b16, b17, b18, b19, b20, b21, b22, b23, b24, b25, b26, b27, b28, b29, b30, b31, b32] ++ [Value.int .i64 0])).toArray) w := by kernel_rfl
theorem build_el (w : World) (hp : p.ok) (hq : q.ok) : (Instr.build 78 #[(0, p.v), (1, q.v)]).run Tryz.prog w = .ok (KpV.v ⟨p, q, 0⟩) w := by
  have h := IdK.len hp
  have h2 := IdK.len hq
  unfold KpV.v KpV.c IdK.v
  simp only
  generalize p.c = l at *
  generalize q.c = m at *
  match l, h, m, h2 with
  | a0 :: a1 :: a2 :: a3 :: a4 :: a5 :: a6 :: a7 :: a8 :: a9 :: a10 :: a11 :: a12 :: a13 :: a14 :: a15 :: a16 :: a17 :: a18 :: a19 :: a20 :: a21 :: a22 :: a23 :: a24 :: a25 :: a26 :: a27 :: a28 :: a29 :: a30 :: a31 :: a32 :: [], _, b0 :: b1 :: b2 :: b3 :: b4 :: b5 :: b6 :: b7 :: b8 :: b9 :: b10 :: b11 :: b12 :: b13 :: b14 :: b15 :: b16 :: b17 :: b18 :: b19 :: b20 :: b21 :: b22 :: b23 :: b24 :: b25 :: b26 :: b27 :: b28 :: b29 :: b30 :: b31 :: b32 :: [], _ => exact build_el0 w a0 a1 a2 a3 a4 a5 a6 a7 a8 a9 a10 a11 a12 a13 a14 a15 a16 a17 a18 a19 a20 a21 a22 a23 a24 a25 a26 a27 a28 a29 a30 a31 a32 b0 b1 b2 b3 b4 b5 b6 b7 b8 b9 b10 b11 b12 b13 b14 b15 b16 b17 b18 b19 b20 b21 b22 b23 b24 b25 b26 b27 b28 b29 b30 b31 b32
theorem ex_el (ho : o.op = .build 78 #[(0, x), (1, y)]) (hx : a.eval x = p.v) (hy : a.eval y = q.v) (hp : p.ok) (hq : q.ok) : (execOp a.eval o).run Tryz.prog w = .ok (.value (KpV.v ⟨p, q, 0⟩)) w :=
  exec_build ho (by simp [hx, hy]) (build_el w hp hq)
end
def has1_o0 : Oper := ⟨some 5, .move (.tmp 0), 23, "seq.go:135", #[], none⟩
def has1_o1 : Oper := ⟨some 6, .binOp BinOp.neq 23 (.tmp 5) (Operand.const (Value.pointer none)) 23, 4, "seq.go:135", #[⟨0, .data⟩], none⟩
def has1_o2 : Oper := ⟨some 7, .move (.tmp 6), 4, "seq.go:135", #[⟨1, .data⟩], none⟩
def has1_o3 : Oper := ⟨some 8, .move (.tmp 0), 23, "seq.go:135", #[⟨2, .guard⟩], some (2, true)⟩
def has1_o4 : Oper := ⟨some 9, .nilCheck (.tmp 8), 0, "seq.go:135", #[⟨3, .data⟩, ⟨2, .guard⟩], some (2, true)⟩
def has1_o5 : Oper := ⟨some 10, .fieldAddr 80 (.tmp 9) 0, 0, "seq.go:135", #[⟨4, .data⟩, ⟨2, .guard⟩], some (2, true)⟩
def has1_o6 : Oper := ⟨some 11, .load 72 (.tmp 10), 72, "seq.go:135", #[⟨5, .data⟩, ⟨2, .guard⟩], some (2, true)⟩
def has1_o7 : Oper := ⟨some 12, .load 36 (.tmp 3), 36, "seq.go:135", #[⟨2, .guard⟩], some (2, true)⟩
def has1_o8 : Oper := ⟨some 13, .lookup 72 (.tmp 11) (.tmp 12) false, 3, "seq.go:135", #[⟨6, .data⟩, ⟨7, .data⟩, ⟨2, .guard⟩], some (2, true)⟩
def has1_o9 : Oper := ⟨some 14, .binOp BinOp.neq 3 (.tmp 13) (Operand.const (Value.int IntKind.i64 0)) 3, 4, "seq.go:135", #[⟨8, .data⟩, ⟨2, .guard⟩], some (2, true)⟩
def has1_o10 : Oper := ⟨some 15, .pick (.tmp 7) (.tmp 14) (Operand.const (Value.bool false)), 4, "seq.go:135", #[⟨2, .data⟩, ⟨9, .data⟩], none⟩
def has1_o11 : Oper := ⟨some 4, .assign (.tmp 15), 4, "seq.go:135", #[⟨10, .data⟩, ⟨2, .chain⟩, ⟨0, .phase⟩, ⟨1, .phase⟩, ⟨2, .phase⟩, ⟨3, .phase⟩, ⟨4, .phase⟩, ⟨5, .phase⟩, ⟨6, .phase⟩, ⟨7, .phase⟩, ⟨8, .phase⟩, ⟨9, .phase⟩, ⟨10, .phase⟩], none⟩
def has1_ops : Array Oper := #[has1_o0, has1_o1, has1_o2, has1_o3, has1_o4, has1_o5, has1_o6, has1_o7, has1_o8, has1_o9, has1_o10, has1_o11]
theorem has1 {s : Sx} {E : List Elt} {b1 i : Nat} {k : IdK} {r : Bool} (a : Act) (w : World) (Q : Exit → Act → World → Prop) (zz : a.tmps.size = 16)
    (t0 : a.tmps.getD 0 undef = .pointer (some ⟨s.sb, 0, none⟩))
    (t3 : a.tmps.getD 3 undef = .pointer (some ⟨b1, 0, none⟩))
    (hS : SeqAt w s E) (hk : k.ok) (ib1 : IdAt w b1 k) (ei : spotOf s k = i) (hr : decide ((i : Int) ≠ 0) = r)
    (h : ∀ (a' : Act) (w' : World), w' = w.drew → a' = ((((((((((((a).put (some 5) (.pointer (some ⟨s.sb, 0, none⟩))).put (some 6) (.bool true)).put (some 7) (.bool true)).put (some 8) (.pointer (some ⟨s.sb, 0, none⟩))).put (some 9) (.pointer (some ⟨s.sb, 0, none⟩))).put (some 10) (.pointer (some ⟨s.sb, 0, none⟩))).put (some 11) (.map (some s.mb))).put (some 12) (k.v)).put (some 13) (.int .i64 (i : Int))).put (some 14) (.bool r)).put (some 15) (.bool r)).put (some 4) (.bool r) → Q .normal a' w') :
    (Code.region 1 has1_ops true).wp Tryz.prog Q a w := by
  refine y0 (fun w' => w' = w.drew) (rfl) (fun hHeld => ?_)
  refine yv 0 rfl rfl (fun w1 hw => xmv rfl (zi t0 rfl)) hHeld ?_
  refine yv (v := .bool true) 1 rfl rfl (fun w1 hw => zu1 (zg (i := 5) zz rfl) (fun b t5 => by show (execOp b.eval has1_o1).run _ _ = _; unfold has1_o1; go_simp)) hHeld ?_
  refine yv 2 rfl rfl (fun w1 hw => xmv rfl (zg zz rfl)) hHeld ?_
  refine yv 3 rfl (zw zz rfl rfl rfl (zg zz rfl)) (fun w1 hw => xmv rfl (zi t0 rfl)) hHeld ?_
  refine yv 4 rfl (zw zz rfl rfl rfl (zg zz rfl)) (fun w1 hw => xnc rfl (zg zz rfl)) hHeld ?_
  refine yv 5 rfl (zw zz rfl rfl rfl (zg zz rfl)) (fun w1 hw => xfa rfl (zg zz rfl) (fg_80_0 _ _ _)) hHeld ?_
  refine yv 6 rfl (zw zz rfl rfl rfl (zg zz rfl)) (fun w1 hw => xld rfl (zg zz rfl) (ld_map (hw ▸ hS.drew : SeqAt _ s E).c0)) hHeld ?_
  refine yv 7 rfl (zw zz rfl rfl rfl (zg zz rfl)) (fun w1 hw => xld rfl (zi t3 rfl) (load_id hk (hw ▸ ib1 : IdAt _ b1 k))) hHeld ?_
  refine yv (v := .int .i64 (i : Int)) 8 rfl (zw zz rfl rfl rfl (zg zz rfl)) (fun w1 hw => exec_lookup rfl (zg zz rfl) (zg zz rfl) (by rw [look_spot (hw ▸ hS.drew : SeqAt _ s E) k hk, ei])) hHeld ?_
  refine yv (v := .bool r) 9 rfl (zw zz rfl rfl rfl (zg zz rfl)) (fun w1 hw => ex_neq rfl (zg zz rfl) rfl hr) hHeld ?_
  refine yv 10 rfl rfl (fun w1 hw => exec_pickT rfl (zg zz rfl) (zg zz rfl)) hHeld ?_
  refine yv 11 rfl rfl (fun w1 hw => xas rfl (zg zz rfl)) hHeld ?_
  exact ye rfl (h _ _ (hHeld) rfl)
def elem1_o0 : Oper := ⟨some 5, .move (.tmp 0), 23, "seq.go:92", #[], none⟩
def elem1_o1 : Oper := ⟨some 6, .nilCheck (.tmp 5), 0, "seq.go:92", #[⟨0, .data⟩], none⟩
def elem1_o2 : Oper := ⟨some 7, .fieldAddr 80 (.tmp 6) 1, 0, "seq.go:92", #[⟨1, .data⟩], none⟩
def elem1_o3 : Oper := ⟨some 8, .fieldAddr 75 (.tmp 7) 0, 0, "seq.go:92", #[⟨2, .data⟩], none⟩
def elem1_o4 : Oper := ⟨some 9, .load 73 (.tmp 8), 73, "seq.go:92", #[⟨3, .data⟩], none⟩
def elem1_o5 : Oper := ⟨some 10, .move (.tmp 1), 3, "seq.go:92", #[], none⟩
def elem1_o6 : Oper := ⟨some 11, .indexAddr 73 (.tmp 9) (.tmp 10), 0, "seq.go:92", #[⟨4, .data⟩, ⟨5, .data⟩], none⟩
def elem1_o7 : Oper := ⟨some 12, .fieldAddr 128 (.tmp 11) 0, 0, "seq.go:92", #[⟨6, .data⟩], none⟩
def elem1_o8 : Oper := ⟨some 4, .assign (.tmp 12), 101, "seq.go:92", #[⟨7, .data⟩, ⟨0, .phase⟩, ⟨1, .phase⟩, ⟨2, .phase⟩, ⟨3, .phase⟩, ⟨4, .phase⟩, ⟨5, .phase⟩, ⟨6, .phase⟩, ⟨7, .phase⟩], none⟩
def elem1_ops : Array Oper := #[elem1_o0, elem1_o1, elem1_o2, elem1_o3, elem1_o4, elem1_o5, elem1_o6, elem1_o7, elem1_o8]
theorem elem1 {s : Sx} {i : Nat} (a : Act) (w : World) (Q : Exit → Act → World → Prop) (zz : a.tmps.size = 13)
    (t0 : a.tmps.getD 0 undef = .pointer (some ⟨s.sb, 0, none⟩))
    (t1 : a.tmps.getD 1 undef = .int .i64 (i : Int))
    (hR : SqAt w s.sb 1 s.g s.cap s.L) (hi : i < s.L.length)
    (h : ∀ (a' : Act) (w' : World), w' = w → a' = (((((((((a).put (some 5) (.pointer (some ⟨s.sb, 0, none⟩))).put (some 6) (.pointer (some ⟨s.sb, 0, none⟩))).put (some 7) (.pointer (some ⟨s.sb, 1, none⟩))).put (some 8) (.pointer (some ⟨s.sb, 1, none⟩))).put (some 9) (.slice (some ⟨s.g, 0, none⟩) (s.L).length s.cap)).put (some 10) (.int .i64 (i : Int))).put (some 11) (.pointer (some ⟨s.g, 73 * i, none⟩))).put (some 12) (.pointer (some ⟨s.g, 73 * i + 0, none⟩))).put (some 4) (.pointer (some ⟨s.g, 73 * i + 0, none⟩)) → Q .normal a' w') :
    (Code.region 1 elem1_ops false).wp Tryz.prog Q a w := by
  refine z0 rfl ?_
  refine zv rfl (xmv rfl (zi t0 rfl)) ?_
  refine zv rfl (xnc rfl (zg zz rfl)) ?_
  refine zv rfl (xfa rfl (zg zz rfl) (fg_80_1 _ _ _)) ?_
  refine zv rfl (xfa rfl (zg zz rfl) (fg_75_0 _ _ _)) ?_
  refine zv rfl (xld rfl (zg zz rfl) (R_sl hR)) ?_
  refine zv rfl (xmv rfl (zi t1 rfl)) ?_
  refine zv rfl (xia rfl (zg zz rfl) (zg zz rfl) (R_ix hi hR.len _)) ?_
  refine zv rfl (xfa rfl (zg zz rfl) (fg_128_0 _ _ _)) ?_
  refine zv rfl (xas rfl (zg zz rfl)) ?_
  exact ze rfl (h _ _ (rfl) rfl)
def ins3_o0 : Oper := ⟨some 12, .fieldAddr 36 (.tmp 4) 1, 0, "seq.go:40", #[], none⟩
def ins3_o1 : Oper := ⟨some 13, .load 3 (.tmp 12), 3, "seq.go:40", #[⟨0, .data⟩], none⟩
def ins3_o2 : Oper := ⟨some 14, .binOp BinOp.lss 3 (.tmp 13) (Operand.const (Value.int IntKind.i64 1)) 3, 4, "seq.go:40", #[⟨1, .data⟩], none⟩
def ins3_o3 : Oper := ⟨some 11, .assign (.tmp 14), 4, "seq.go:40", #[⟨2, .data⟩], none⟩
def ins3_ops : Array Oper := #[ins3_o0, ins3_o1, ins3_o2, ins3_o3]
theorem ins3 {b1 : Nat} {k : IdK} {r : Bool} (a : Act) (w : World) (Q : Exit → Act → World → Prop) (zz : a.tmps.size = 57)
    (t4 : a.tmps.getD 4 undef = .pointer (some ⟨b1, 0, none⟩))
    (hk : k.ok) (ib1 : IdAt w b1 k) (hr : decide (k.n < 1) = r)
    (h : ∀ (a' : Act) (w' : World), w' = w → a' = ((((a).put (some 12) (.pointer (some ⟨b1, 32, none⟩))).put (some 13) (.int .i64 k.n)).put (some 14) (.bool r)).put (some 11) (.bool r) → Q .normal a' w') :
    (Code.region 3 ins3_ops false).wp Tryz.prog Q a w := by
  refine z0 rfl ?_
  refine zv rfl (xfa rfl (zi t4 rfl) (fg_36_1 _ _ _)) ?_
  refine zv rfl (xld rfl (zg zz rfl) (ld_n hk ib1)) ?_
  refine zv (v := .bool r) rfl (ex_lss rfl (zg zz rfl) rfl hr) ?_
  refine zv rfl (xas rfl (zg zz rfl)) ?_
  exact ze rfl (h _ _ (rfl) rfl)
def ins5_o0 : Oper := ⟨some 16, .move (.tmp 0), 23, "seq.go:42", #[], none⟩
def ins5_o1 : Oper := ⟨some 17, .load 36 (.tmp 4), 36, "seq.go:42", #[], none⟩
def ins5_o2 : Oper := ⟨some 18, .call { callee := Callee.value (Operand.func 47), args := #[.tmp 16, .tmp 17], argTypes := #[23, 36] }, 4, "seq.go:42", #[⟨0, .data⟩, ⟨1, .data⟩], none⟩
def ins5_o3 : Oper := ⟨some 15, .assign (.tmp 18), 4, "seq.go:42", #[⟨2, .data⟩, ⟨2, .chain⟩], none⟩
def ins5_ops : Array Oper := #[ins5_o0, ins5_o1, ins5_o2, ins5_o3]
theorem ins5 {s : Sx} {b1 : Nat} {k : IdK} {r : Bool} (a : Act) (w : World) (Q : Exit → Act → World → Prop) (zz : a.tmps.size = 57)
    (t0 : a.tmps.getD 0 undef = .pointer (some ⟨s.sb, 0, none⟩))
    (t4 : a.tmps.getD 4 undef = .pointer (some ⟨b1, 0, none⟩))
    (hk : k.ok) (ib1 : IdAt w b1 k) (CH : Calls Tryz.prog 47 #[.pointer (some ⟨s.sb, 0, none⟩), k.v] w fun e w' => e = .returned (.bool r) ∧ Below w.heap.size w w')
    (h : ∀ (a' : Act) (w' : World), Below w.heap.size w w' → a' = ((((a).put (some 16) (.pointer (some ⟨s.sb, 0, none⟩))).put (some 17) (k.v)).put (some 18) (.bool r)).put (some 15) (.bool r) → Q .normal a' w') :
    (Code.region 5 ins5_ops false).wp Tryz.prog Q a w := by
  refine z0 rfl ?_
  refine zv rfl (xmv rfl (zi t0 rfl)) ?_
  refine zv rfl (xld rfl (zi t4 rfl) (load_id hk ib1)) ?_
  refine zc rfl (exec_c2 rfl (zg zz rfl) (zg zz rfl)) (CH) (fun e x2 hx => ?_)
  obtain ⟨rfl, S1⟩ := hx
  refine ⟨_, rfl, ?_⟩
  refine zv rfl (xas rfl (zg zz rfl)) ?_
  exact ze rfl (h _ _ (S1) rfl)
def ins7a_o0 : Oper := ⟨some 20, .load 36 (.tmp 5), 36, "seq.go:44", #[], none⟩
def ins7a_o1 : Oper := ⟨some 21, .build 36 #[], 36, "seq.go:44", #[], none⟩
def ins7a_o2 : Oper := ⟨some 22, .binOp BinOp.neq 36 (.tmp 20) (.tmp 21) 36, 4, "seq.go:44", #[⟨0, .data⟩, ⟨1, .data⟩], none⟩
def ins7a_o3 : Oper := ⟨some 23, .move (.tmp 22), 4, "seq.go:44", #[⟨2, .data⟩], none⟩
def ins7a_o4 : Oper := ⟨some 24, .move (.tmp 0), 23, "seq.go:44", #[⟨3, .guard⟩], some (3, true)⟩
def ins7a_o5 : Oper := ⟨some 25, .load 36 (.tmp 5), 36, "seq.go:44", #[⟨3, .guard⟩], some (3, true)⟩
def ins7a_o6 : Oper := ⟨some 26, .call { callee := Callee.value (Operand.func 47), args := #[.tmp 24, .tmp 25], argTypes := #[23, 36] }, 4, "seq.go:44", #[⟨4, .data⟩, ⟨5, .data⟩, ⟨3, .chain⟩, ⟨3, .guard⟩], some (3, true)⟩
def ins7a_o7 : Oper := ⟨some 27, .unOp UnOp.not 4 (.tmp 26), 4, "seq.go:44", #[⟨6, .data⟩, ⟨3, .guard⟩], some (3, true)⟩
def ins7a_o8 : Oper := ⟨some 28, .pick (.tmp 23) (.tmp 27) (Operand.const (Value.bool false)), 4, "seq.go:44", #[⟨3, .data⟩, ⟨7, .data⟩], none⟩
def ins7a_o9 : Oper := ⟨some 19, .assign (.tmp 28), 4, "seq.go:44", #[⟨8, .data⟩, ⟨6, .chain⟩], none⟩
def ins7a_ops : Array Oper := #[ins7a_o0, ins7a_o1, ins7a_o2, ins7a_o3, ins7a_o4, ins7a_o5, ins7a_o6, ins7a_o7, ins7a_o8, ins7a_o9]
theorem ins7a {s : Sx} {b2 : Nat} {k : IdK} {r : Bool} (a : Act) (w : World) (Q : Exit → Act → World → Prop) (zz : a.tmps.size = 57)
    (t0 : a.tmps.getD 0 undef = .pointer (some ⟨s.sb, 0, none⟩))
    (t5 : a.tmps.getD 5 undef = .pointer (some ⟨b2, 0, none⟩))
    (hk : k.ok) (ib2 : IdAt w b2 k) (hz : (!decide (k = zId)) = true) (CH : Calls Tryz.prog 47 #[.pointer (some ⟨s.sb, 0, none⟩), k.v] w fun e w' => e = .returned (.bool r) ∧ Below w.heap.size w w')
    (h : ∀ (a' : Act) (w' : World), Below w.heap.size w w' → a' = ((((((((((a).put (some 20) (k.v)).put (some 21) (zId.v)).put (some 22) (.bool true)).put (some 23) (.bool true)).put (some 24) (.pointer (some ⟨s.sb, 0, none⟩))).put (some 25) (k.v)).put (some 26) (.bool r)).put (some 27) (.bool (!r))).put (some 28) (.bool (!r))).put (some 19) (.bool (!r)) → Q .normal a' w') :
    (Code.region 7 ins7a_ops false).wp Tryz.prog Q a w := by
  refine z0 rfl ?_
  refine zv rfl (xld rfl (zi t5 rfl) (load_id hk ib2)) ?_
  refine zv rfl (exec_build0 rfl (build_id _)) ?_
  refine zv (v := .bool true) rfl (ex_neqI rfl (zg zz rfl) (zg zz rfl) hk zId_ok hz) ?_
  refine zv rfl (xmv rfl (zg zz rfl)) ?_
  refine zv (zw zz rfl rfl rfl (zg zz rfl)) (xmv rfl (zi t0 rfl)) ?_
  refine zv (zw zz rfl rfl rfl (zg zz rfl)) (xld rfl (zi t5 rfl) (load_id hk ib2)) ?_
  refine zc (zw zz rfl rfl rfl (zg zz rfl)) (exec_c2 rfl (zg zz rfl) (zg zz rfl)) (CH) (fun e x6 hx => ?_)
  obtain ⟨rfl, S1⟩ := hx
  refine ⟨_, rfl, ?_⟩
  refine zv (zw zz rfl rfl rfl (zg zz rfl)) (exec_not rfl (zg zz rfl)) ?_
  refine zv rfl (exec_pickT rfl (zg zz rfl) (zg zz rfl)) ?_
  refine zv rfl (xas rfl (zg zz rfl)) ?_
  exact ze rfl (h _ _ (S1) rfl)
theorem ins7b {s : Sx} {b2 : Nat} {k : IdK} (a : Act) (w : World) (Q : Exit → Act → World → Prop) (zz : a.tmps.size = 57)
    (t0 : a.tmps.getD 0 undef = .pointer (some ⟨s.sb, 0, none⟩))
    (t5 : a.tmps.getD 5 undef = .pointer (some ⟨b2, 0, none⟩))
    (hk : k.ok) (ib2 : IdAt w b2 k) (hz : (!decide (k = zId)) = false)
    (h : ∀ (a' : Act) (w' : World), w' = w → a' = ((((((((((a).put (some 20) (k.v)).put (some 21) (zId.v)).put (some 22) (.bool false)).put (some 23) (.bool false)).put (some 24) (undef)).put (some 25) (undef)).put (some 26) (undef)).put (some 27) (undef)).put (some 28) (.bool false)).put (some 19) (.bool false) → Q .normal a' w') :
    (Code.region 7 ins7a_ops false).wp Tryz.prog Q a w := by
  refine z0 rfl ?_
  refine zv rfl (xld rfl (zi t5 rfl) (load_id hk ib2)) ?_
  refine zv rfl (exec_build0 rfl (build_id _)) ?_
  refine zv (v := .bool false) rfl (ex_neqI rfl (zg zz rfl) (zg zz rfl) hk zId_ok hz) ?_
  refine zv rfl (xmv rfl (zg zz rfl)) ?_
  refine zn (zx zz rfl rfl rfl (zg zz rfl)) ?_
  refine zn (zx zz rfl rfl rfl (zg zz rfl)) ?_
  refine zn (zx zz rfl rfl rfl (zg zz rfl)) ?_
  refine zn (zx zz rfl rfl rfl (zg zz rfl)) ?_
  refine zv rfl (exec_pickF rfl (zg zz rfl) rfl) ?_
  refine zv rfl (xas rfl (zg zz rfl)) ?_
  exact ze rfl (h _ _ (rfl) rfl)
def ins9_o0 : Oper := ⟨some 29, .move (.tmp 0), 23, "seq.go:47", #[], none⟩
def ins9_o1 : Oper := ⟨some 30, .nilCheck (.tmp 29), 0, "seq.go:47", #[⟨0, .data⟩], none⟩
def ins9_o2 : Oper := ⟨some 31, .fieldAddr 80 (.tmp 30) 0, 0, "seq.go:47", #[⟨1, .data⟩], none⟩
def ins9_o3 : Oper := ⟨some 32, .load 72 (.tmp 31), 72, "seq.go:47", #[⟨2, .data⟩], none⟩
def ins9_o4 : Oper := ⟨some 33, .load 36 (.tmp 5), 36, "seq.go:47", #[], none⟩
def ins9_o5 : Oper := ⟨some 34, .lookup 72 (.tmp 32) (.tmp 33) false, 3, "seq.go:47", #[⟨3, .data⟩, ⟨4, .data⟩], none⟩
def ins9_o6 : Oper := ⟨some 7, .assign (.tmp 34), 3, "seq.go:47", #[⟨5, .data⟩, ⟨0, .phase⟩, ⟨1, .phase⟩, ⟨2, .phase⟩, ⟨3, .phase⟩, ⟨4, .phase⟩, ⟨5, .phase⟩], none⟩
def ins9_ops : Array Oper := #[ins9_o0, ins9_o1, ins9_o2, ins9_o3, ins9_o4, ins9_o5, ins9_o6]
theorem ins9 {s : Sx} {E : List Elt} {b2 i : Nat} {k : IdK} (a : Act) (w : World) (Q : Exit → Act → World → Prop) (zz : a.tmps.size = 57)
    (t0 : a.tmps.getD 0 undef = .pointer (some ⟨s.sb, 0, none⟩))
    (t5 : a.tmps.getD 5 undef = .pointer (some ⟨b2, 0, none⟩))
    (hS : SeqAt w s E) (hk : k.ok) (ib2 : IdAt w b2 k) (ei : spotOf s k = i)
    (h : ∀ (a' : Act) (w' : World), w' = w.drew → a' = (((((((a).put (some 29) (.pointer (some ⟨s.sb, 0, none⟩))).put (some 30) (.pointer (some ⟨s.sb, 0, none⟩))).put (some 31) (.pointer (some ⟨s.sb, 0, none⟩))).put (some 32) (.map (some s.mb))).put (some 33) (k.v)).put (some 34) (.int .i64 (i : Int))).put (some 7) (.int .i64 (i : Int)) → Q .normal a' w') :
    (Code.region 9 ins9_ops true).wp Tryz.prog Q a w := by
  refine y0 (fun w' => w' = w.drew) (rfl) (fun hHeld => ?_)
  refine yv 0 rfl rfl (fun w1 hw => xmv rfl (zi t0 rfl)) hHeld ?_
  refine yv 1 rfl rfl (fun w1 hw => xnc rfl (zg zz rfl)) hHeld ?_
  refine yv 2 rfl rfl (fun w1 hw => xfa rfl (zg zz rfl) (fg_80_0 _ _ _)) hHeld ?_
  refine yv 3 rfl rfl (fun w1 hw => xld rfl (zg zz rfl) (ld_map (hw ▸ hS.drew : SeqAt _ s E).c0)) hHeld ?_
  refine yv 4 rfl rfl (fun w1 hw => xld rfl (zi t5 rfl) (load_id hk (hw ▸ ib2 : IdAt _ b2 k))) hHeld ?_
  refine yv (v := .int .i64 (i : Int)) 5 rfl rfl (fun w1 hw => exec_lookup rfl (zg zz rfl) (zg zz rfl) (by rw [look_spot (hw ▸ hS.drew : SeqAt _ s E) k hk, ei])) hHeld ?_
  refine yv 6 rfl rfl (fun w1 hw => xas rfl (zg zz rfl)) hHeld ?_
  exact ye rfl (h _ _ (hHeld) rfl)
def ins10_o0 : Oper := ⟨some 35, .move (.tmp 0), 23, "seq.go:48", #[], none⟩
def ins10_o1 : Oper := ⟨some 36, .move (.tmp 7), 3, "seq.go:48", #[], none⟩
def ins10_o2 : Oper := ⟨some 37, .call { callee := Callee.value (Operand.func 48), args := #[.tmp 35, .tmp 36], argTypes := #[23, 3] }, 101, "seq.go:48", #[⟨0, .data⟩, ⟨1, .data⟩], none⟩
def ins10_o3 : Oper := ⟨some 38, .nilCheck (.tmp 37), 0, "seq.go:48", #[⟨2, .data⟩], none⟩
def ins10_o4 : Oper := ⟨some 39, .fieldAddr 78 (.tmp 38) 2, 0, "seq.go:48", #[⟨3, .data⟩], none⟩
def ins10_o5 : Oper := ⟨some 40, .load 3 (.tmp 39), 3, "seq.go:48", #[⟨4, .data⟩], none⟩
def ins10_o6 : Oper := ⟨some 41, .binOp BinOp.add 3 (.tmp 40) (Operand.const (Value.int IntKind.i64 1)) 3, 3, "seq.go:48", #[⟨5, .data⟩], none⟩
def ins10_o7 : Oper := ⟨some 42, .nilCheck (.tmp 37), 0, "seq.go:48", #[⟨2, .data⟩, ⟨0, .phase⟩, ⟨1, .phase⟩, ⟨2, .phase⟩, ⟨3, .phase⟩, ⟨4, .phase⟩, ⟨5, .phase⟩, ⟨6, .phase⟩], none⟩
def ins10_o8 : Oper := ⟨some 43, .fieldAddr 78 (.tmp 42) 2, 0, "seq.go:48", #[⟨7, .data⟩, ⟨0, .phase⟩, ⟨1, .phase⟩, ⟨2, .phase⟩, ⟨3, .phase⟩, ⟨4, .phase⟩, ⟨5, .phase⟩, ⟨6, .phase⟩], none⟩
def ins10_o9 : Oper := ⟨none, .store 3 (.tmp 43) (.tmp 41), 0, "seq.go:48", #[⟨8, .data⟩, ⟨6, .data⟩, ⟨2, .chain⟩, ⟨0, .phase⟩, ⟨1, .phase⟩, ⟨2, .phase⟩, ⟨3, .phase⟩, ⟨4, .phase⟩, ⟨5, .phase⟩, ⟨6, .phase⟩], none⟩
def ins10_ops : Array Oper := #[ins10_o0, ins10_o1, ins10_o2, ins10_o3, ins10_o4, ins10_o5, ins10_o6, ins10_o7, ins10_o8, ins10_o9]
theorem ins10 {s : Sx} {E : List Elt} {i : Nat} {w2 : World} (a : Act) (w : World) (Q : Exit → Act → World → Prop) (zz : a.tmps.size = 57)
    (t0 : a.tmps.getD 0 undef = .pointer (some ⟨s.sb, 0, none⟩))
    (t7 : a.tmps.getD 7 undef = .int .i64 (i : Int))
    (hS : SeqAt w s E) (hi : i < s.L.length) (hf : -9223372036854775808 ≤ (gt s.L i).kp.fol + 1 ∧ (gt s.L i).kp.fol + 1 ≤ 9223372036854775807) (CE : Calls Tryz.prog 48 #[.pointer (some ⟨s.sb, 0, none⟩), .int .i64 (i : Int)] w fun e w' => e = .returned (.pointer (some ⟨s.g, 73 * i + 0, none⟩)) ∧ w' = w) (ES : (Instr.storeAt 3 (.pointer (some ⟨s.g, 73 * i + 0 + 66, none⟩)) (.int .i64 ((gt s.L i).kp.fol + 1))).run Tryz.prog w = .ok () w2)
    (h : ∀ (a' : Act) (w' : World), w' = w2 → a' = (((((((((a).put (some 35) (.pointer (some ⟨s.sb, 0, none⟩))).put (some 36) (.int .i64 (i : Int))).put (some 37) (.pointer (some ⟨s.g, 73 * i + 0, none⟩))).put (some 38) (.pointer (some ⟨s.g, 73 * i + 0, none⟩))).put (some 39) (.pointer (some ⟨s.g, 73 * i + 0 + 66, none⟩))).put (some 40) (.int .i64 (gt s.L i).kp.fol)).put (some 41) (.int .i64 ((gt s.L i).kp.fol + 1))).put (some 42) (.pointer (some ⟨s.g, 73 * i + 0, none⟩))).put (some 43) (.pointer (some ⟨s.g, 73 * i + 0 + 66, none⟩)) → Q .normal a' w') :
    (Code.region 10 ins10_ops false).wp Tryz.prog Q a w := by
  refine z0 rfl ?_
  refine zv rfl (xmv rfl (zi t0 rfl)) ?_
  refine zv rfl (xmv rfl (zi t7 rfl)) ?_
  refine zc rfl (exec_c2 rfl (zg zz rfl) (zg zz rfl)) (CE) (fun e x2 hx => ?_)
  obtain ⟨rfl, rfl⟩ := hx
  refine ⟨_, rfl, ?_⟩
  refine zv rfl (xnc rfl (zg zz rfl)) ?_
  refine zv rfl (xfa rfl (zg zz rfl) (fg_78_2 _ _ _)) ?_
  refine zv rfl (xld rfl (zg zz rfl) (R_fol hS.row hi)) ?_
  refine zv (v := .int .i64 ((gt s.L i).kp.fol + 1)) rfl (ex_add rfl (zg zz rfl) rfl hf) ?_
  refine zv rfl (xnc rfl (zg zz rfl)) ?_
  refine zv rfl (xfa rfl (zg zz rfl) (fg_78_2 _ _ _)) ?_
  refine zs rfl (exec_store rfl (zg zz rfl) (zg zz rfl) ES) ?_
  exact ze rfl (h _ _ (rfl) rfl)
def IS (s : Sx) (b1 b2 : Nat) (k q : IdK) (w' : World) : Prop := w'.cell? ⟨s.sb, 0, none⟩ = some (.map (some s.mb)) ∧ IdAt w' b1 k ∧ IdAt w' b2 q
def ins11_o0 : Oper := ⟨some 44, .move (.tmp 0), 23, "seq.go:49", #[], none⟩
def ins11_o1 : Oper := ⟨some 45, .nilCheck (.tmp 44), 0, "seq.go:49", #[⟨0, .data⟩], none⟩
def ins11_o2 : Oper := ⟨some 46, .fieldAddr 80 (.tmp 45) 0, 0, "seq.go:49", #[⟨1, .data⟩], none⟩
def ins11_o3 : Oper := ⟨some 47, .load 72 (.tmp 46), 72, "seq.go:49", #[⟨2, .data⟩], none⟩
def ins11_o4 : Oper := ⟨some 48, .load 36 (.tmp 4), 36, "seq.go:49", #[], none⟩
def ins11_o5 : Oper := ⟨some 49, .move (.tmp 0), 23, "seq.go:49", #[], none⟩
def ins11_o6 : Oper := ⟨some 50, .nilCheck (.tmp 49), 0, "seq.go:49", #[⟨5, .data⟩], none⟩
def ins11_o7 : Oper := ⟨some 51, .fieldAddr 80 (.tmp 50) 1, 0, "seq.go:49", #[⟨6, .data⟩], none⟩
def ins11_o8 : Oper := ⟨some 52, .move (.tmp 7), 3, "seq.go:49", #[], none⟩
def ins11_o9 : Oper := ⟨some 53, .load 36 (.tmp 4), 36, "seq.go:49", #[], none⟩
def ins11_o10 : Oper := ⟨some 54, .load 36 (.tmp 5), 36, "seq.go:49", #[], none⟩
def ins11_o11 : Oper := ⟨some 55, .build 78 #[(0, .tmp 53), (1, .tmp 54)], 78, "seq.go:49", #[⟨9, .data⟩, ⟨10, .data⟩], none⟩
def ins11_o12 : Oper := ⟨some 56, .call { callee := Callee.value (Operand.func 49), args := #[.tmp 51, .tmp 52, .tmp 55], argTypes := #[75, 3, 78] }, 3, "seq.go:49", #[⟨7, .data⟩, ⟨8, .data⟩, ⟨11, .data⟩], none⟩
def ins11_o13 : Oper := ⟨none, .mapUpdate 72 (.tmp 47) (.tmp 48) (.tmp 56), 0, "seq.go:49", #[⟨3, .data⟩, ⟨4, .data⟩, ⟨12, .data⟩, ⟨12, .chain⟩, ⟨0, .phase⟩, ⟨1, .phase⟩, ⟨2, .phase⟩, ⟨3, .phase⟩, ⟨4, .phase⟩, ⟨5, .phase⟩, ⟨6, .phase⟩, ⟨7, .phase⟩, ⟨8, .phase⟩, ⟨9, .phase⟩, ⟨10, .phase⟩, ⟨11, .phase⟩, ⟨12, .phase⟩], none⟩
def ins11_ops : Array Oper := #[ins11_o0, ins11_o1, ins11_o2, ins11_o3, ins11_o4, ins11_o5, ins11_o6, ins11_o7, ins11_o8, ins11_o9, ins11_o10, ins11_o11, ins11_o12, ins11_o13]
theorem ins11 {s : Sx} {b1 b2 i n : Nat} {k q : IdK} (Fin : World → Prop) (a : Act) (w : World) (Q : Exit → Act → World → Prop) (zz : a.tmps.size = 57)
    (t0 : a.tmps.getD 0 undef = .pointer (some ⟨s.sb, 0, none⟩))
    (t4 : a.tmps.getD 4 undef = .pointer (some ⟨b1, 0, none⟩))
    (t5 : a.tmps.getD 5 undef = .pointer (some ⟨b2, 0, none⟩))
    (t7 : a.tmps.getD 7 undef = .int .i64 (i : Int))
    (hk : k.ok) (hq : q.ok) (h0 : IS s b1 b2 k q w.drew) (CP : Calls Tryz.prog 49 #[.pointer (some ⟨s.sb, 1, none⟩), .int .i64 (i : Int), KpV.v ⟨k, q, 0⟩] w.drew fun e w' => e = .returned (.int .i64 (n : Int)) ∧ IS s b1 b2 k q w' ∧ ∃ y, (Instr.mapUpdate 72 (.map (some s.mb)) k.v (.int .i64 (n : Int))).run Tryz.prog w' = .ok () y ∧ Fin y)
    (h : ∀ (a' : Act) (w' : World), Fin w' → a' = (((((((((((((a).put (some 44) (.pointer (some ⟨s.sb, 0, none⟩))).put (some 45) (.pointer (some ⟨s.sb, 0, none⟩))).put (some 46) (.pointer (some ⟨s.sb, 0, none⟩))).put (some 47) (.map (some s.mb))).put (some 48) (k.v)).put (some 49) (.pointer (some ⟨s.sb, 0, none⟩))).put (some 50) (.pointer (some ⟨s.sb, 0, none⟩))).put (some 51) (.pointer (some ⟨s.sb, 1, none⟩))).put (some 52) (.int .i64 (i : Int))).put (some 53) (k.v)).put (some 54) (q.v)).put (some 55) (KpV.v ⟨k, q, 0⟩)).put (some 56) (.int .i64 (n : Int)) → Q .normal a' w') :
    (Code.region 11 ins11_ops true).wp Tryz.prog Q a w := by
  refine x0 13 (fun w' => IS s b1 b2 k q w') (h0) (fun hHeld => ?_)
  refine xv 0 rfl rfl (fun w1 hw => xmv rfl (zi t0 rfl)) hHeld ?_
  refine xv 1 rfl rfl (fun w1 hw => xnc rfl (zg zz rfl)) hHeld ?_
  refine xv 2 rfl rfl (fun w1 hw => xfa rfl (zg zz rfl) (fg_80_0 _ _ _)) hHeld ?_
  refine xv 3 rfl rfl (fun w1 hw => xld rfl (zg zz rfl) (ld_map hw.1)) hHeld ?_
  refine xv 4 rfl rfl (fun w1 hw => xld rfl (zi t4 rfl) (load_id hk hw.2.1)) hHeld ?_
  refine xv 5 rfl rfl (fun w1 hw => xmv rfl (zi t0 rfl)) hHeld ?_
  refine xv 6 rfl rfl (fun w1 hw => xnc rfl (zg zz rfl)) hHeld ?_
  refine xv 7 rfl rfl (fun w1 hw => xfa rfl (zg zz rfl) (fg_80_1 _ _ _)) hHeld ?_
  refine xv 8 rfl rfl (fun w1 hw => xmv rfl (zi t7 rfl)) hHeld ?_
  refine xv 9 rfl rfl (fun w1 hw => xld rfl (zi t4 rfl) (load_id hk hw.2.1)) hHeld ?_
  refine xv 10 rfl rfl (fun w1 hw => xld rfl (zi t5 rfl) (load_id hq hw.2.2)) hHeld ?_
  refine xv (v := KpV.v ⟨k, q, 0⟩) 11 rfl rfl (fun w1 hw => ex_el rfl (zg zz rfl) (zg zz rfl) hk hq) hHeld ?_
  refine xc 12 rfl rfl (exec_c3 rfl (zg zz rfl) (zg zz rfl) (zg zz rfl)) (CP) (fun e x12 hx => ?_)
  obtain ⟨rfl, S1, y, EM, HF⟩ := hx
  refine ⟨_, rfl, fun _ => S1, fun hHeld => ?_⟩
  replace hHeld := hHeld (by decide)
  refine xs 13 rfl rfl (exec_mapUpdate rfl (zg zz rfl) (zg zz rfl) (zg zz rfl) EM) (fun hne => absurd rfl hne) (fun _ => ?_)
  exact xe rfl (h _ _ (HF) rfl)
def smany3_o0 : Oper := ⟨some 7, .move (.tmp 0), 23, "seq.go:109", #[], none⟩
def smany3_o1 : Oper := ⟨some 8, .nilCheck (.tmp 7), 0, "seq.go:109", #[⟨0, .data⟩], none⟩
def smany3_o2 : Oper := ⟨some 9, .fieldAddr 80 (.tmp 8) 1, 0, "seq.go:109", #[⟨1, .data⟩], none⟩
def smany3_o3 : Oper := ⟨some 10, .move (.tmp 1), 3, "seq.go:109", #[], none⟩
def smany3_o4 : Oper := ⟨some 11, .call { callee := Callee.value (Operand.func 91), args := #[.tmp 9, .tmp 10], argTypes := #[75, 3] }, 3, "seq.go:109", #[⟨2, .data⟩, ⟨3, .data⟩], none⟩
def smany3_o5 : Oper := ⟨some 4, .assign (.tmp 11), 3, "seq.go:109", #[⟨4, .data⟩, ⟨4, .chain⟩, ⟨0, .phase⟩, ⟨1, .phase⟩, ⟨2, .phase⟩, ⟨3, .phase⟩, ⟨4, .phase⟩], none⟩
def smany3_ops : Array Oper := #[smany3_o0, smany3_o1, smany3_o2, smany3_o3, smany3_o4, smany3_o5]
theorem smany3 {s : Sx} {n : Nat} {c : Bool} (Fin : World → Prop) (a : Act) (w : World) (Q : Exit → Act → World → Prop) (zz : a.tmps.size = 12)
    (t0 : a.tmps.getD 0 undef = .pointer (some ⟨s.sb, 0, none⟩))
    (t1 : a.tmps.getD 1 undef = .int .i64 (nb c : Int))
    (CT : Calls Tryz.prog 91 #[.pointer (some ⟨s.sb, 1, none⟩), .int .i64 (nb c : Int)] w fun e w' => e = .returned (.int .i64 (n : Int)) ∧ Fin w')
    (h : ∀ (a' : Act) (w' : World), Fin w' → a' = ((((((a).put (some 7) (.pointer (some ⟨s.sb, 0, none⟩))).put (some 8) (.pointer (some ⟨s.sb, 0, none⟩))).put (some 9) (.pointer (some ⟨s.sb, 1, none⟩))).put (some 10) (.int .i64 (nb c : Int))).put (some 11) (.int .i64 (n : Int))).put (some 4) (.int .i64 (n : Int)) → Q .normal a' w') :
    (Code.region 3 smany3_ops false).wp Tryz.prog Q a w := by
  refine z0 rfl ?_
  refine zv rfl (xmv rfl (zi t0 rfl)) ?_
  refine zv rfl (xnc rfl (zg zz rfl)) ?_
  refine zv rfl (xfa rfl (zg zz rfl) (fg_80_1 _ _ _)) ?_
  refine zv rfl (xmv rfl (zi t1 rfl)) ?_
  refine zc rfl (exec_c2 rfl (zg zz rfl) (zg zz rfl)) (CT) (fun e x4 hx => ?_)
  obtain ⟨rfl, HF⟩ := hx
  refine ⟨_, rfl, ?_⟩
  refine zv rfl (xas rfl (zg zz rfl)) ?_
  exact ze rfl (h _ _ (HF) rfl)
def ah1_o0 : Oper := ⟨some 7, .move (.tmp 0), 23, "seq.go:157", #[], none⟩
def ah1_o1 : Oper := ⟨some 8, .load 36 (.tmp 4), 36, "seq.go:157", #[], none⟩
def ah1_o2 : Oper := ⟨some 9, .call { callee := Callee.value (Operand.func 47), args := #[.tmp 7, .tmp 8], argTypes := #[23, 36] }, 4, "seq.go:157", #[⟨0, .data⟩, ⟨1, .data⟩], none⟩
def ah1_o3 : Oper := ⟨some 10, .unOp UnOp.not 4 (.tmp 9), 4, "seq.go:157", #[⟨2, .data⟩], none⟩
def ah1_ops : Array Oper := #[ah1_o0, ah1_o1, ah1_o2, ah1_o3]
theorem ah1 {s : Sx} {b1 : Nat} {k : IdK} {r : Bool} (a : Act) (w : World) (Q : Exit → Act → World → Prop) (zz : a.tmps.size = 22)
    (t0 : a.tmps.getD 0 undef = .pointer (some ⟨s.sb, 0, none⟩))
    (t4 : a.tmps.getD 4 undef = .pointer (some ⟨b1, 0, none⟩))
    (hk : k.ok) (ib1 : IdAt w b1 k) (CH : Calls Tryz.prog 47 #[.pointer (some ⟨s.sb, 0, none⟩), k.v] w fun e w' => e = .returned (.bool r) ∧ Below w.heap.size w w')
    (h : ∀ (a' : Act) (w' : World), Below w.heap.size w w' → a' = ((((a).put (some 7) (.pointer (some ⟨s.sb, 0, none⟩))).put (some 8) (k.v)).put (some 9) (.bool r)).put (some 10) (.bool (!r)) → Q .normal a' w') :
    (Code.region 1 ah1_ops false).wp Tryz.prog Q a w := by
  refine z0 rfl ?_
  refine zv rfl (xmv rfl (zi t0 rfl)) ?_
  refine zv rfl (xld rfl (zi t4 rfl) (load_id hk ib1)) ?_
  refine zc rfl (exec_c2 rfl (zg zz rfl) (zg zz rfl)) (CH) (fun e x2 hx => ?_)
  obtain ⟨rfl, S1⟩ := hx
  refine ⟨_, rfl, ?_⟩
  refine zv rfl (exec_not rfl (zg zz rfl)) ?_
  exact ze rfl (h _ _ (S1) rfl)
def ah3_o0 : Oper := ⟨some 11, .move (.tmp 0), 23, "seq.go:160", #[], none⟩
def ah3_o1 : Oper := ⟨some 12, .nilCheck (.tmp 11), 0, "seq.go:160", #[⟨0, .data⟩], none⟩
def ah3_o2 : Oper := ⟨some 13, .fieldAddr 80 (.tmp 12) 1, 0, "seq.go:160", #[⟨1, .data⟩], none⟩
def ah3_o3 : Oper := ⟨some 14, .move (.tmp 0), 23, "seq.go:160", #[], none⟩
def ah3_o4 : Oper := ⟨some 15, .nilCheck (.tmp 14), 0, "seq.go:160", #[⟨3, .data⟩], none⟩
def ah3_o5 : Oper := ⟨some 16, .fieldAddr 80 (.tmp 15) 0, 0, "seq.go:160", #[⟨4, .data⟩], none⟩
def ah3_o6 : Oper := ⟨some 17, .load 72 (.tmp 16), 72, "seq.go:160", #[⟨5, .data⟩], none⟩
def ah3_o7 : Oper := ⟨some 18, .load 36 (.tmp 4), 36, "seq.go:160", #[], none⟩
def ah3_o8 : Oper := ⟨some 19, .lookup 72 (.tmp 17) (.tmp 18) false, 3, "seq.go:160", #[⟨6, .data⟩, ⟨7, .data⟩], none⟩
def ah3_o9 : Oper := ⟨some 20, .move (.tmp 2), 3, "seq.go:160", #[], none⟩
def ah3_o10 : Oper := ⟨some 21, .call { callee := Callee.value (Operand.func 98), args := #[.tmp 13, .tmp 19, .tmp 20], argTypes := #[75, 3, 3] }, 3, "seq.go:160", #[⟨2, .data⟩, ⟨8, .data⟩, ⟨9, .data⟩], none⟩
def ah3_o11 : Oper := ⟨some 6, .assign (.tmp 21), 3, "seq.go:160", #[⟨10, .data⟩, ⟨10, .chain⟩, ⟨0, .phase⟩, ⟨1, .phase⟩, ⟨2, .phase⟩, ⟨3, .phase⟩, ⟨4, .phase⟩, ⟨5, .phase⟩, ⟨6, .phase⟩, ⟨7, .phase⟩, ⟨8, .phase⟩, ⟨9, .phase⟩, ⟨10, .phase⟩], none⟩
def ah3_ops : Array Oper := #[ah3_o0, ah3_o1, ah3_o2, ah3_o3, ah3_o4, ah3_o5, ah3_o6, ah3_o7, ah3_o8, ah3_o9, ah3_o10, ah3_o11]
theorem ah3 {s : Sx} {E : List Elt} {b1 i n : Nat} {k : IdK} {c : Bool} (a : Act) (w : World) (Q : Exit → Act → World → Prop) (zz : a.tmps.size = 22)
    (t0 : a.tmps.getD 0 undef = .pointer (some ⟨s.sb, 0, none⟩))
    (t4 : a.tmps.getD 4 undef = .pointer (some ⟨b1, 0, none⟩))
    (t2 : a.tmps.getD 2 undef = .int .i64 (nb c : Int))
    (hS : SeqAt w s E) (hk : k.ok) (ib1 : IdAt w b1 k) (ei : spotOf s k = i) (CT : Calls Tryz.prog 98 #[.pointer (some ⟨s.sb, 1, none⟩), .int .i64 (i : Int), .int .i64 (nb c : Int)] w.drew fun e w' => e = .returned (.int .i64 (n : Int)) ∧ SeqAt w' s E ∧ IdAt w' b1 k ∧ Qt w w')
    (h : ∀ (a' : Act) (w' : World), Qt w w' → a' = ((((((((((((a).put (some 11) (.pointer (some ⟨s.sb, 0, none⟩))).put (some 12) (.pointer (some ⟨s.sb, 0, none⟩))).put (some 13) (.pointer (some ⟨s.sb, 1, none⟩))).put (some 14) (.pointer (some ⟨s.sb, 0, none⟩))).put (some 15) (.pointer (some ⟨s.sb, 0, none⟩))).put (some 16) (.pointer (some ⟨s.sb, 0, none⟩))).put (some 17) (.map (some s.mb))).put (some 18) (k.v)).put (some 19) (.int .i64 (i : Int))).put (some 20) (.int .i64 (nb c : Int))).put (some 21) (.int .i64 (n : Int))).put (some 6) (.int .i64 (n : Int)) → Q .normal a' w') :
    (Code.region 3 ah3_ops true).wp Tryz.prog Q a w := by
  refine y0 (fun w' => SeqAt w' s E ∧ IdAt w' b1 k ∧ Qt w w') (⟨hS.drew, ib1, Qt.drew w⟩) (fun hHeld => ?_)
  refine yv 0 rfl rfl (fun w1 hw => xmv rfl (zi t0 rfl)) hHeld ?_
  refine yv 1 rfl rfl (fun w1 hw => xnc rfl (zg zz rfl)) hHeld ?_
  refine yv 2 rfl rfl (fun w1 hw => xfa rfl (zg zz rfl) (fg_80_1 _ _ _)) hHeld ?_
  refine yv 3 rfl rfl (fun w1 hw => xmv rfl (zi t0 rfl)) hHeld ?_
  refine yv 4 rfl rfl (fun w1 hw => xnc rfl (zg zz rfl)) hHeld ?_
  refine yv 5 rfl rfl (fun w1 hw => xfa rfl (zg zz rfl) (fg_80_0 _ _ _)) hHeld ?_
  refine yv 6 rfl rfl (fun w1 hw => xld rfl (zg zz rfl) (ld_map hw.1.c0)) hHeld ?_
  refine yv 7 rfl rfl (fun w1 hw => xld rfl (zi t4 rfl) (load_id hk hw.2.1)) hHeld ?_
  refine yv (v := .int .i64 (i : Int)) 8 rfl rfl (fun w1 hw => exec_lookup rfl (zg zz rfl) (zg zz rfl) (by rw [look_spot hw.1 k hk, ei])) hHeld ?_
  refine yv 9 rfl rfl (fun w1 hw => xmv rfl (zi t2 rfl)) hHeld ?_
  refine yc 10 rfl rfl (exec_c3 rfl (zg zz rfl) (zg zz rfl) (zg zz rfl)) (CT) (fun e x10 hx => ?_)
  obtain ⟨rfl, S1⟩ := hx
  refine ⟨_, rfl, S1, fun hHeld => ?_⟩
  refine yv 11 rfl rfl (fun w1 hw => xas rfl (zg zz rfl)) hHeld ?_
  exact ye rfl (h _ _ (hHeld.2.2) rfl)
def fi3_o0 : Oper := ⟨some 12, .move (.tmp 0), 23, "seq.go:177", #[], none⟩
def fi3_o1 : Oper := ⟨some 13, .nilCheck (.tmp 12), 0, "seq.go:177", #[⟨0, .data⟩], none⟩
def fi3_o2 : Oper := ⟨some 14, .fieldAddr 80 (.tmp 13) 1, 0, "seq.go:177", #[⟨1, .data⟩], none⟩
def fi3_o3 : Oper := ⟨some 15, .move (.tmp 1), 3, "seq.go:177", #[], none⟩
def fi3_o4 : Oper := ⟨some 16, .move (.tmp 2), 3, "seq.go:177", #[], none⟩
def fi3_o5 : Oper := ⟨some 17, .call { callee := Callee.value (Operand.func 128), args := #[.tmp 14, .tmp 15, .tmp 16], argTypes := #[75, 3, 3] }, 3, "seq.go:177", #[⟨2, .data⟩, ⟨3, .data⟩, ⟨4, .data⟩], none⟩
def fi3_o6 : Oper := ⟨some 8, .assign (.tmp 17), 3, "seq.go:177", #[⟨5, .data⟩, ⟨5, .chain⟩, ⟨0, .phase⟩, ⟨1, .phase⟩, ⟨2, .phase⟩, ⟨3, .phase⟩, ⟨4, .phase⟩, ⟨5, .phase⟩], none⟩
def fi3_ops : Array Oper := #[fi3_o0, fi3_o1, fi3_o2, fi3_o3, fi3_o4, fi3_o5, fi3_o6]
theorem fi3 {s : Sx} {m : Int} {n : Nat} {c : Bool} (Fin : World → Prop) (a : Act) (w : World) (Q : Exit → Act → World → Prop) (zz : a.tmps.size = 27)
    (t0 : a.tmps.getD 0 undef = .pointer (some ⟨s.sb, 0, none⟩))
    (t1 : a.tmps.getD 1 undef = .int .i64 m)
    (t2 : a.tmps.getD 2 undef = .int .i64 (nb c : Int))
    (CT : Calls Tryz.prog 128 #[.pointer (some ⟨s.sb, 1, none⟩), .int .i64 m, .int .i64 (nb c : Int)] w fun e w' => e = .returned (.int .i64 (n : Int)) ∧ Fin w')
    (h : ∀ (a' : Act) (w' : World), Fin w' → a' = (((((((a).put (some 12) (.pointer (some ⟨s.sb, 0, none⟩))).put (some 13) (.pointer (some ⟨s.sb, 0, none⟩))).put (some 14) (.pointer (some ⟨s.sb, 1, none⟩))).put (some 15) (.int .i64 m)).put (some 16) (.int .i64 (nb c : Int))).put (some 17) (.int .i64 (n : Int))).put (some 8) (.int .i64 (n : Int)) → Q .normal a' w') :
    (Code.region 3 fi3_ops false).wp Tryz.prog Q a w := by
  refine z0 rfl ?_
  refine zv rfl (xmv rfl (zi t0 rfl)) ?_
  refine zv rfl (xnc rfl (zg zz rfl)) ?_
  refine zv rfl (xfa rfl (zg zz rfl) (fg_80_1 _ _ _)) ?_
  refine zv rfl (xmv rfl (zi t1 rfl)) ?_
  refine zv rfl (xmv rfl (zi t2 rfl)) ?_
  refine zc rfl (exec_c3 rfl (zg zz rfl) (zg zz rfl) (zg zz rfl)) (CT) (fun e x5 hx => ?_)
  obtain ⟨rfl, HF⟩ := hx
  refine ⟨_, rfl, ?_⟩
  refine zv rfl (xas rfl (zg zz rfl)) ?_
  exact ze rfl (h _ _ (HF) rfl)
def fi4_o0 : Oper := ⟨some 18, .move (.tmp 8), 3, "seq.go:178", #[], none⟩
def fi4_o1 : Oper := ⟨some 19, .binOp BinOp.eql 3 (.tmp 18) (Operand.const (Value.int IntKind.i64 0)) 3, 4, "seq.go:178", #[⟨0, .data⟩], none⟩
def fi4_ops : Array Oper := #[fi4_o0, fi4_o1]
theorem fi4 {i : Nat} {r : Bool} (a : Act) (w : World) (Q : Exit → Act → World → Prop) (zz : a.tmps.size = 27)
    (t8 : a.tmps.getD 8 undef = .int .i64 (i : Int))
    (hr : decide ((i : Int) = 0) = r)
    (h : ∀ (a' : Act) (w' : World), w' = w → a' = ((a).put (some 18) (.int .i64 (i : Int))).put (some 19) (.bool r) → Q .normal a' w') :
    (Code.region 4 fi4_ops false).wp Tryz.prog Q a w := by
  refine z0 rfl ?_
  refine zv rfl (xmv rfl (zi t8 rfl)) ?_
  refine zv (v := .bool r) rfl (ex_eql rfl (zg zz rfl) rfl hr) ?_
  exact ze rfl (h _ _ (rfl) rfl)
def fi5_o0 : Oper := ⟨some 20, .build 36 #[], 36, "seq.go:179", #[], none⟩
def fi5_o1 : Oper := ⟨none, .store 36 (.tmp 6) (.tmp 20), 0, "seq.go:179", #[⟨0, .data⟩, ⟨0, .phase⟩], none⟩
def fi5_o2 : Oper := ⟨some 7, .assign (Operand.const (Value.bool false)), 4, "seq.go:179", #[⟨1, .chain⟩, ⟨0, .phase⟩, ⟨1, .phase⟩], none⟩
def fi5_ops : Array Oper := #[fi5_o0, fi5_o1, fi5_o2]
theorem fi5 {rb : Nat} {w2 : World} (a : Act) (w : World) (Q : Exit → Act → World → Prop) (zz : a.tmps.size = 27)
    (t6 : a.tmps.getD 6 undef = .pointer (some ⟨rb, 0, none⟩))
    (ES : (Instr.storeAt 36 (.pointer (some ⟨rb, 0, none⟩)) zId.v).run Tryz.prog w = .ok () w2)
    (h : ∀ (a' : Act) (w' : World), w' = w2 → a' = ((a).put (some 20) (zId.v)).put (some 7) (.bool false) → Q .normal a' w') :
    (Code.region 5 fi5_ops false).wp Tryz.prog Q a w := by
  refine z0 rfl ?_
  refine zv rfl (exec_build0 rfl (build_id _)) ?_
  refine zs rfl (exec_store rfl (zi t6 rfl) (zg zz rfl) ES) ?_
  refine zv rfl (xas rfl rfl) ?_
  exact ze rfl (h _ _ (rfl) rfl)
def fi6_o0 : Oper := ⟨some 21, .move (.tmp 0), 23, "seq.go:181", #[], none⟩
def fi6_o1 : Oper := ⟨some 22, .move (.tmp 8), 3, "seq.go:181", #[], none⟩
def fi6_o2 : Oper := ⟨some 23, .call { callee := Callee.value (Operand.func 48), args := #[.tmp 21, .tmp 22], argTypes := #[23, 3] }, 101, "seq.go:181", #[⟨0, .data⟩, ⟨1, .data⟩], none⟩
def fi6_o3 : Oper := ⟨some 24, .nilCheck (.tmp 23), 0, "seq.go:181", #[⟨2, .data⟩], none⟩
def fi6_o4 : Oper := ⟨some 25, .fieldAddr 78 (.tmp 24) 0, 0, "seq.go:181", #[⟨3, .data⟩], none⟩
def fi6_o5 : Oper := ⟨some 26, .load 36 (.tmp 25), 36, "seq.go:181", #[⟨4, .data⟩], none⟩
def fi6_o6 : Oper := ⟨none, .store 36 (.tmp 6) (.tmp 26), 0, "seq.go:181", #[⟨5, .data⟩, ⟨2, .chain⟩, ⟨0, .phase⟩, ⟨1, .phase⟩, ⟨2, .phase⟩, ⟨3, .phase⟩, ⟨4, .phase⟩, ⟨5, .phase⟩], none⟩
def fi6_o7 : Oper := ⟨some 7, .assign (Operand.const (Value.bool true)), 4, "seq.go:181", #[⟨6, .chain⟩, ⟨0, .phase⟩, ⟨1, .phase⟩, ⟨2, .phase⟩, ⟨3, .phase⟩, ⟨4, .phase⟩, ⟨5, .phase⟩, ⟨6, .phase⟩], none⟩
def fi6_ops : Array Oper := #[fi6_o0, fi6_o1, fi6_o2, fi6_o3, fi6_o4, fi6_o5, fi6_o6, fi6_o7]
theorem fi6 {s : Sx} {E : List Elt} {i rb : Nat} {w2 : World} (a : Act) (w : World) (Q : Exit → Act → World → Prop) (zz : a.tmps.size = 27)
    (t0 : a.tmps.getD 0 undef = .pointer (some ⟨s.sb, 0, none⟩))
    (t8 : a.tmps.getD 8 undef = .int .i64 (i : Int))
    (t6 : a.tmps.getD 6 undef = .pointer (some ⟨rb, 0, none⟩))
    (hS : SeqAt w s E) (hi : i < s.L.length) (CE : Calls Tryz.prog 48 #[.pointer (some ⟨s.sb, 0, none⟩), .int .i64 (i : Int)] w fun e w' => e = .returned (.pointer (some ⟨s.g, 73 * i + 0, none⟩)) ∧ w' = w) (ES : (Instr.storeAt 36 (.pointer (some ⟨rb, 0, none⟩)) (gt s.L i).kp.id.v).run Tryz.prog w = .ok () w2)
    (h : ∀ (a' : Act) (w' : World), w' = w2 → a' = (((((((a).put (some 21) (.pointer (some ⟨s.sb, 0, none⟩))).put (some 22) (.int .i64 (i : Int))).put (some 23) (.pointer (some ⟨s.g, 73 * i + 0, none⟩))).put (some 24) (.pointer (some ⟨s.g, 73 * i + 0, none⟩))).put (some 25) (.pointer (some ⟨s.g, 73 * i + 0 + 0, none⟩))).put (some 26) ((gt s.L i).kp.id.v)).put (some 7) (.bool true) → Q .normal a' w') :
    (Code.region 6 fi6_ops false).wp Tryz.prog Q a w := by
  refine z0 rfl ?_
  refine zv rfl (xmv rfl (zi t0 rfl)) ?_
  refine zv rfl (xmv rfl (zi t8 rfl)) ?_
  refine zc rfl (exec_c2 rfl (zg zz rfl) (zg zz rfl)) (CE) (fun e x2 hx => ?_)
  obtain ⟨rfl, rfl⟩ := hx
  refine ⟨_, rfl, ?_⟩
  refine zv rfl (xnc rfl (zg zz rfl)) ?_
  refine zv rfl (xfa rfl (zg zz rfl) (fg_78_0 _ _ _)) ?_
  refine zv rfl (xld rfl (zg zz rfl) (R_id hS.row hi)) ?_
  refine zs rfl (exec_store rfl (zi t6 rfl) (zg zz rfl) ES) ?_
  refine zv rfl (xas rfl rfl) ?_
  exact ze rfl (h _ _ (rfl) rfl)
theorem Good.len {L : List Sp} {t : T} (h : Good L t) : L.length = t.ids.length + 1 := by
  have p : t.ids.Perm (List.range' 1 (L.length - 1)) := by
    rw [List.perm_ext_iff_of_nodup h.nodup (List.nodup_range' ..)]
    intro j
    rw [List.mem_range'_1]
    have := h.pos
    exact ⟨fun q => by have := h.lt q; omega, fun q => h.all j (by omega) (by omega)⟩
  have := p.length_eq
  have := h.pos
  simp at *
  omega
theorem Lk.len {s : Sx} {E : List Elt} (h : Lk s E) : s.L.length = E.length + 1 := by rw [h.good.len, h.e]; simp [elts]
theorem Lk.inj {s : Sx} {E : List Elt} (h : Lk s E) {i j : Nat} (hi : i ∈ s.t.ids) (hj : j ∈ s.t.ids) (e : (gt s.L i).kp.id = (gt s.L j).kp.id) : i = j := by
  have h1 := (h.map _ i).2 ⟨hi, rfl⟩
  have h2 := (h.map _ j).2 ⟨hj, rfl⟩
  rw [e, h2] at h1
  simpa using h1.symm
theorem Lk.nz {s : Sx} {E : List Elt} (h : Lk s E) {i : Nat} (hi : i ∈ s.t.ids) : (gt s.L i).kp.id ≠ zId := fun q => by
  have := h.has zId
  rw [h.zero, (h.map zId i).2 ⟨hi, q⟩] at this
  cases this
theorem Lk.inj0 {s : Sx} {E : List Elt} (h : Lk s E) {i j : Nat} (hi : i = 0 ∨ i ∈ s.t.ids) (hj : j = 0 ∨ j ∈ s.t.ids) (e : (gt s.L i).kp.id = (gt s.L j).kp.id) : i = j := by
  rcases hi with rfl | hi <;> rcases hj with rfl | hj
  · rfl
  · rw [h.zid] at e; exact absurd e.symm (h.nz hj)
  · rw [h.zid] at e; exact absurd e (h.nz hi)
  · exact h.inj hi hj e
theorem Lk.spotIs {s : Sx} {E : List Elt} (h : Lk s E) {k : IdK} (hk : k = zId ∨ hasE E k = true) : (spotOf s k = 0 ∨ spotOf s k ∈ s.t.ids) ∧ (gt s.L (spotOf s k)).kp.id = k := by
  rcases hk with rfl | hk
  · have := h.spot0 h.zero
    rw [this]
    exact ⟨.inl rfl, h.zid⟩
  · exact ⟨.inr (h.spot hk).1, (h.spot hk).2⟩
theorem Lk.memE {s : Sx} {E : List Elt} (h : Lk s E) {i : Nat} (hi : i ∈ s.t.ids) : hasE E (gt s.L i).kp.id = true := hasE_iff.2 ⟨eltAt s.L i, by rw [h.e, elts]; exact List.mem_map.2 ⟨i, hi, rfl⟩, rfl⟩
theorem folE_zero {E : List Elt} (h : SeqOk E) {k : IdK} (hk : hasE E k = false) (hz : k ≠ zId) : folE E k = 0 := by
  unfold folE
  rw [List.countP_eq_zero]
  intro e he q
  simp only [decide_eq_true_eq] at q
  rcases h.bh e he with q2 | q2
  · exact hz (q.symm.trans q2)
  · rw [q, hk] at q2; cases q2
theorem folE_le (E : List Elt) (k : IdK) : folE E k ≤ E.length := List.countP_le_length
theorem gtA {L K : List Sp} {j : Nat} (h : j < L.length) : gt (L ++ K) j = gt L j := by
  unfold gt
  rw [List.getD_eq_getElem?_getD, List.getD_eq_getElem?_getD, List.getElem?_append_left h]
theorem gtB {L : List Sp} {x : Sp} {n : Nat} (h : L.length = n) : gt (L ++ [x]) n = x := by
  unfold gt
  rw [List.getD_eq_getElem?_getD, List.getElem?_append_right (by omega), h]
  simp
theorem Lk.put {s : Sx} {E : List Elt} (h : Lk s E) (hN : (s.N.map (·.1)).Nodup) {k b : IdK} (hk : k.ok ∧ 1 ≤ k.n) (hb : b.ok) (hn : hasE E k = false) (hbh : b = zId ∨ hasE E b = true) {g' cap' : Nat} {L' : List Sp} {t' : T} (hg : Good L' t') (hi : InsB s.t.ids t'.ids (spotOf s b) s.L.length)
    (hK : Kept (setFol s.L (spotOf s b) ((gt s.L (spotOf s b)).kp.fol + 1) ++ [⟨⟨k, b, 0⟩, true, 0, 0, 0, 0, 0⟩]) L') : Lk { s with g := g', cap := cap', L := L', t := t', N := M.put s.N k s.L.length } (putE E b ⟨k, b, true⟩) := by
  obtain ⟨hs1, hs2⟩ := h.spotIs hbh
  obtain ⟨p, hp⟩ : ∃ p, spotOf s b = p := ⟨_, rfl⟩
  rw [hp] at hs1 hs2 hi hK
  obtain ⟨n, hnn⟩ : ∃ n, s.L.length = n := ⟨_, rfl⟩
  rw [hnn] at hi ⊢
  have hpn : p < n := by
    rcases hs1 with rfl | q
    · rw [← hnn]; exact h.good.pos
    · rw [← hnn]; exact (h.good.lt q).2
  have hl0 : (setFol s.L p ((gt s.L p).kp.fol + 1)).length = n := by rw [setFol_len, hnn]
  have old : ∀ j, j < n → (gt L' j).kp.id = (gt s.L j).kp.id ∧ eltAt L' j = eltAt s.L j ∧ (gt L' j).kp.fol = if p = j then (gt s.L j).kp.fol + 1 else (gt s.L j).kp.fol := fun j hj => by
    have e : gt (setFol s.L p ((gt s.L p).kp.fol + 1) ++ [⟨⟨k, b, 0⟩, true, 0, 0, 0, 0, 0⟩]) j = gt (setFol s.L p ((gt s.L p).kp.fol + 1)) j := gtA (by omega)
    have k1 := hK.kp j
    have k2 := hK.sh j
    rw [e] at k1 k2
    obtain ⟨f1, f2, _, _, f5, f6⟩ := setFol_gt s.L p ((gt s.L p).kp.fol + 1) j
    refine ⟨by rw [k1, f1], by unfold eltAt; rw [k1, k2, f1, f2, f5], ?_⟩
    rw [k1, f6]
    by_cases q : p = j
    · subst q; rw [if_pos ⟨rfl, by omega⟩, if_pos rfl]
    · rw [if_neg (fun q2 => q q2.1), if_neg q]
  have new : (gt L' n).kp = ⟨k, b, 0⟩ ∧ (gt L' n).sh = true := by
    have e : gt (setFol s.L p ((gt s.L p).kp.fol + 1) ++ [⟨⟨k, b, 0⟩, true, 0, 0, 0, 0, 0⟩]) n = ⟨⟨k, b, 0⟩, true, 0, 0, 0, 0, 0⟩ := gtB hl0
    have k1 := hK.kp n
    have k2 := hK.sh n
    rw [e] at k1 k2
    exact ⟨k1, k2⟩
  obtain ⟨A, B, e1, e2, e3⟩ := hi
  have mem : ∀ j, j ∈ t'.ids ↔ (j = n ∨ j ∈ s.t.ids) := fun j => by
    rw [e1, e2]
    simp only [List.mem_append, List.mem_cons]
    constructor
    · rintro (q | q | q)
      · exact .inr (.inl q)
      · exact .inl q
      · exact .inr (.inr q)
    · rintro (q | q | q)
      · exact .inr (.inl q)
      · exact .inl q
      · exact .inr (.inr q)
  have lt : ∀ j ∈ s.t.ids, j < n := fun j hj => by rw [← hnn]; exact (h.good.lt hj).2
  have hkz : k ≠ zId := fun q => by have := hk.2; rw [q] at this; simp [zId] at this
  have hnm : ∀ j, j = 0 ∨ j ∈ s.t.ids → (gt s.L j).kp.id ≠ k := fun j hj q => by
    rcases hj with rfl | hj
    · rw [h.zid] at q; exact hkz q.symm
    · have := h.memE hj
      rw [q, hn] at this; cases this
  have hE : putE E b ⟨k, b, true⟩ = elts L' t' := by
    have eA : A.map (eltAt L') = A.map (eltAt s.L) := List.map_congr_left fun j hj => (old j (lt j (by rw [e1]; simp [hj]))).2.1
    have eB : B.map (eltAt L') = B.map (eltAt s.L) := List.map_congr_left fun j hj => (old j (lt j (by rw [e1]; simp [hj]))).2.1
    have en : eltAt L' n = ⟨k, b, true⟩ := by unfold eltAt; rw [new.1, new.2]
    unfold elts
    rw [e2, List.map_append, List.map_cons, eA, eB, en]
    have eE : E = A.map (eltAt s.L) ++ B.map (eltAt s.L) := by rw [h.e, elts, e1, List.map_append]
    rcases e3 with ⟨rfl, rfl⟩ | ⟨A', rfl⟩
    · have : b = zId := by rw [← hs2]; exact h.zid
      unfold putE
      rw [if_pos this, eE]
      rfl
    · have hpi : p ∈ s.t.ids := by rw [e1]; simp
      have hbz : b ≠ zId := by rw [← hs2]; exact h.nz hpi
      unfold putE
      rw [if_neg hbz, eE]
      simp only [List.map_append, List.map_cons, List.map_nil, List.append_assoc, List.cons_append, List.nil_append]
      have : (eltAt s.L p).id = b := hs2
      rw [← this]
      refine insE_mid fun y hy q => ?_
      obtain ⟨j, hj, rfl⟩ := List.mem_map.1 hy
      have hji : j ∈ s.t.ids := by rw [e1]; simp [hj]
      have := h.inj hji hpi q
      subst this
      have nd := h.good.nodup
      rw [e1, List.append_assoc, List.nodup_append] at nd
      exact nd.2.2 j hj j (by simp) rfl
  refine ⟨hg, hE, h.ok.put (x := ⟨k, b, true⟩) ⟨hk.1, hb, hk.2⟩ hn hbh, fun k' m => ?_, ?_, fun m hm => ?_⟩
  · show M.look (M.put s.N k n) k' = some m ↔ m ∈ t'.ids ∧ (gt L' m).kp.id = k'
    rw [M.put_look _ _ _ hN, mem]
    by_cases q : k' = k
    · subst q
      rw [if_pos rfl]
      constructor
      · intro q2
        simp only [Option.some.injEq] at q2
        subst q2
        exact ⟨.inl rfl, by rw [new.1]⟩
      · rintro ⟨rfl | q1, q2⟩
        · rfl
        · rw [(old m (lt m q1)).1] at q2
          exact absurd q2 (hnm m (.inr q1))
    · rw [if_neg q, h.map k' m]
      constructor
      · rintro ⟨q1, q2⟩
        exact ⟨.inr q1, by rw [(old m (lt m q1)).1]; exact q2⟩
      · rintro ⟨rfl | q1, q2⟩
        · rw [new.1] at q2; exact absurd q2.symm q
        · exact ⟨q1, by rw [(old m (lt m q1)).1] at q2; exact q2⟩
  · show (gt L' 0).kp.id = zId
    rw [(old 0 (by omega)).1]; exact h.zid
  · show (gt L' m).kp.fol = (folE (putE E b ⟨k, b, true⟩) (gt L' m).kp.id : Int)
    have hf : ∀ i, folE (putE E b ⟨k, b, true⟩) i = (if b = i then 1 else 0) + folE E i := fun i => by
      rw [folE_perm (putE_perm E b _) i]
      unfold folE
      rw [List.countP_cons, Nat.add_comm]
      congr 1
      simp
    rw [hf]
    have hm' : m = n ∨ m = 0 ∨ m ∈ s.t.ids := by
      rcases hm with q | q
      · exact .inr (.inl q)
      · rcases (mem m).1 q with q | q
        · exact .inl q
        · exact .inr (.inr q)
    rcases hm' with rfl | q
    · rw [new.1]
      show (0 : Int) = _
      have : b ≠ k := fun q => hnm p hs1 (by rw [hs2, q])
      rw [if_neg this, folE_zero h.ok hn hkz]
      rfl
    · have hmn : m < n := by
        rcases q with rfl | q
        · omega
        · exact lt m q
      rw [(old m hmn).2.2, (old m hmn).1, h.fol m q]
      by_cases e : p = m
      · subst e
        rw [if_pos rfl, if_pos hs2.symm]
        omega
      · rw [if_neg e, if_neg (fun q2 => e (h.inj0 hs1 q (by rw [hs2, q2])))]
        omega
theorem IdAt.below {w w' : World} {b : Nat} {k : IdK} (h : IdAt w b k) (hb : Below w.heap.size w w') : IdAt w' b k := (hb.block b (Array.getElem?_eq_some_iff.1 h).1).trans h
theorem IdAt.lt {w : World} {b : Nat} {k : IdK} (h : IdAt w b k) : b < w.heap.size := (Array.getElem?_eq_some_iff.1 h).1
theorem id_new (w : World) (k : IdK) : IdAt (w.alloc (.cells k.c.toArray 36)) w.heap.size k := heap_alloc_new _ _
section
variable {w : World} {s : Sx} {E : List Elt}
theorem has_any (h : SeqAt w s E) {k : IdK} (hk : k.ok) : Calls Tryz.prog 47 #[.pointer (some ⟨s.sb, 0, none⟩), k.v] w fun e w' => e = .returned (.bool (hasE E k)) ∧ Below w.heap.size w w' := by
  have bx : Below w.heap.size w (w.alloc (.cells k.c.toArray 36)) := (Below.refl _ _).alloc (Nat.le_refl _) _
  have hx := id_new w k
  have hr := h.lk.spot_has k
  unfold IdK.v
  go_enter Tryz.func47, Tryz.ntmps47
  go_upto_region 1 with fail
  generalize w.alloc (.cells k.c.toArray 36) = wx at *
  refine has1 (r := hasE E k) _ _ _ rfl rfl rfl (h.below bx) hk hx rfl hr ?_
  intro a' w1 hw ha
  subst ha
  obtain rfl : w1 = wx.drew := hw
  simp only [Act.put, List.setIfInBounds_toArray, List.set_cons_zero, List.set_cons_succ]
  go_wp2
  go_ret
  exact ⟨rfl, bx.trans ((Below.refl _ _).drew)⟩
theorem element_any {i : Nat} (h : SqAt w s.sb 1 s.g s.cap s.L) (hi : i < s.L.length) : Calls Tryz.prog 48 #[.pointer (some ⟨s.sb, 0, none⟩), .int .i64 (i : Int)] w fun e w' => e = .returned (.pointer (some ⟨s.g, 73 * i + 0, none⟩)) ∧ w' = w := by
  go_enter Tryz.func48, Tryz.ntmps48
  go_upto_region 1 with fail
  refine elem1 _ _ _ rfl rfl rfl h hi ?_
  intro a' w1 hw ha
  subst ha
  obtain rfl : w1 = w := hw
  simp only [Act.put, List.setIfInBounds_toArray, List.set_cons_zero, List.set_cons_succ]
  go_wp2
  go_ret
  exact ⟨rfl, rfl⟩
def cE (c : Bool) (e : Elt) : Bool := !c || e.sh
def visE (E : List Elt) (c : Bool) : List Elt := E.filter (cE c)
theorem vis_map (L : List Sp) (c : Bool) (l : List Nat) : (l.filter (cq L c)).map (eltAt L) = (l.map (eltAt L)).filter (cE c) := by
  rw [List.filter_map]
  congr 1
theorem Lk.vis (h : Lk s E) (c : Bool) : (vis s.L c s.t).map (eltAt s.L) = visE E c := by
  unfold visE
  rw [h.e, elts, ← vis_map]
  rfl
theorem Lk.cnt (h : Lk s E) (c : Bool) : cnt s.L c s.t = (visE E c).length := by
  rw [← h.vis c, List.length_map]
  unfold Go.Proofs.YtifendlpeebofaaGreatDoor.vis
  rw [cnt_cq, List.countP_eq_length_filter]
theorem smany_any (h : SeqAt w s E) (c : Bool) : Calls Tryz.prog 100 #[.pointer (some ⟨s.sb, 0, none⟩), .int .i64 (nb c : Int)] w fun e w' => e = .returned (.int .i64 ((visE E c).length : Int)) ∧ Below w.heap.size w w' := by
  have HM := hidMk (rmany_any h.row h.lk.good c)
  rw [h.lk.cnt c] at HM
  go_enter Tryz.func100, Tryz.ntmps100
  go_upto_region 3 with fail
  refine smany3 (fun w' => Qt w w') _ _ _ rfl rfl rfl HM.out ?_
  intro a' w1 hw ha
  subst ha
  simp only [Act.put, List.setIfInBounds_toArray, List.set_cons_zero, List.set_cons_succ]
  go_wp2
  go_ret
  exact ⟨rfl, hw.below _⟩
def aheadE (E : List Elt) (c : Bool) (k : IdK) : Int := if hasE E k = true then ((E.takeWhile (fun e => !decide (e.id = k))).countP (cE c) : Int) else -1
theorem takeWhile_mid {α : Type} {A B : List α} {x : α} {p : α → Bool} (h : ∀ y ∈ A, p y = true) (hx : p x = false) : (A ++ x :: B).takeWhile p = A := by
  induction A with
  | nil => simp [List.takeWhile_cons, hx]
  | cons a A ih => rw [List.cons_append, List.takeWhile_cons, h a (by simp)]; simp [ih (fun y hy => h y (by simp [hy]))]
theorem Lk.split (h : Lk s E) {k : IdK} (hk : hasE E k = true) : ∃ A B, s.t.ids = A ++ spotOf s k :: B ∧ E.takeWhile (fun e => !decide (e.id = k)) = A.map (eltAt s.L) := by
  obtain ⟨h1, h2⟩ := h.spot hk
  obtain ⟨A, B, e⟩ := List.append_of_mem h1
  refine ⟨A, B, e, ?_⟩
  rw [h.e, elts, e, List.map_append, List.map_cons]
  refine takeWhile_mid (fun y hy => ?_) ?_
  · obtain ⟨x, hx, rfl⟩ := List.mem_map.1 hy
    have hxm : x ∈ s.t.ids := by rw [e]; simp [hx]
    have : (eltAt s.L x).id ≠ k := fun q => by
      have := h.inj hxm h1 (q.trans h2.symm)
      subst this
      have nd := h.good.nodup
      rw [e, List.nodup_append] at nd
      exact nd.2.2 _ hx _ (by simp) rfl
    rw [decide_eq_false this]; rfl
  · rw [decide_eq_true (show (eltAt s.L (spotOf s k)).id = k from h2)]; rfl
theorem sahead_any (h : SeqAt w s E) {k : IdK} (hk : k.ok) (c : Bool) : Calls Tryz.prog 76 #[.pointer (some ⟨s.sb, 0, none⟩), k.v, .int .i64 (nb c : Int)] w fun e w' => e = .returned (.int .i64 (aheadE E c k)) ∧ Below w.heap.size w w' := by
  have bx : Below w.heap.size w (w.alloc (.cells k.c.toArray 36)) := (Below.refl _ _).alloc (Nat.le_refl _) _
  have hx := id_new w k
  have HA : Hid (∀ W, SeqAt W s E → Calls Tryz.prog 47 #[.pointer (some ⟨s.sb, 0, none⟩), k.v] W fun e w' => e = .returned (.bool (hasE E k)) ∧ Below W.heap.size W w') := fun W hW => has_any hW hk
  have HE : Hid (aheadE E c k = if hasE E k = true then ((E.takeWhile (fun e => !decide (e.id = k))).countP (cE c) : Int) else -1) := rfl
  show Calls Tryz.prog 76 #[.pointer (some ⟨s.sb, 0, none⟩), .agg k.c.toArray, .int .i64 (nb c : Int)] w _
  generalize aheadE E c k = res at *
  go_enter Tryz.func76, Tryz.ntmps76
  go_upto_region 1 with fail
  generalize w.alloc (.cells k.c.toArray 36) = wx at *
  have h1 := h.below bx
  refine ah1 (k := k) (r := hasE E k) _ _ _ rfl rfl rfl hk hx (HA.out _ h1) ?_
  intro a' w1 hw ha
  subst ha
  have h2 := h1.below hw
  have hx2 := hx.below hw
  have b2 := bx.trans (hw.mono bx.size)
  simp only [Act.put, List.setIfInBounds_toArray, List.set_cons_zero, List.set_cons_succ]
  cases hq : hasE E k with
  | false =>
    have hres := HE.out
    rw [hq] at hres
    simp only [Bool.false_eq_true, if_false] at hres
    subst hres
    clear HE hq HA
    go_wp2
    go_ret
    exact ⟨rfl, b2⟩
  | true =>
    obtain ⟨A, B, e1, e2⟩ := h.lk.split hq
    have hres : res = (A.countP (cq s.L c) : Int) := by
      rw [HE.out, if_pos hq, e2, List.countP_map]
      rfl
    have HR := hidMk (rahead_any c h2.row.drew h.lk.good e1)
    clear HE HA e2 hq
    go_upto_region 3 with fail
    refine ah3 (E := E) (k := k) (n := A.countP (cq s.L c)) _ _ _ rfl rfl rfl rfl h2 hk hx2 rfl (HR.out.mono ?_) ?_
    · rintro e w' ⟨rfl, q⟩
      exact ⟨rfl, h2.drew.qt q, (show w'.heap[_]? = _ by rw [q.heap]; exact hx2), (Qt.drew w1).trans q⟩
    intro a' w3 hw3 ha
    subst ha
    simp only [Act.put, List.setIfInBounds_toArray, List.set_cons_zero, List.set_cons_succ]
    subst hres
    clear HR e1
    go_wp2
    go_ret
    exact ⟨rfl, b2.trans (hw3.below _)⟩
theorem rank_any (h : SeqAt w s E) {k : IdK} (hk : k.ok) : Calls Tryz.prog 54 #[.pointer (some ⟨s.sb, 0, none⟩), k.v] w fun e w' => e = .returned (.int .i64 (aheadE E false k)) ∧ Below w.heap.size w w' := by
  have bx : Below w.heap.size w (w.alloc (.cells k.c.toArray 36)) := (Below.refl _ _).alloc (Nat.le_refl _) _
  have hx := id_new w k
  have HA : Hid (∀ W, SeqAt W s E → Calls Tryz.prog 76 #[.pointer (some ⟨s.sb, 0, none⟩), k.v, .int .i64 0] W fun e w' => e = .returned (.int .i64 (aheadE E false k)) ∧ Below W.heap.size W w') := fun W hW => sahead_any hW hk false
  show Calls Tryz.prog 54 #[.pointer (some ⟨s.sb, 0, none⟩), .agg k.c.toArray] w _
  go_enter Tryz.func54, Tryz.ntmps54
  go_upto_region 1 with fail
  generalize w.alloc (.cells k.c.toArray 36) = wx at *
  have h1 := h.below bx
  have HL := hidMk (load_id hk hx)
  clear hx
  go_wp2_with (first
    | (refine wload wx rfl rfl rfl HL.out rfl ?_)
    | (go_at_call 76; refine (HA.out _ h1).mono ?_; rintro e w' ⟨rfl, hb⟩)
    | fail)
  go_ret
  exact ⟨rfl, bx.trans (hb.mono bx.size)⟩
theorem index_any (h : SeqAt w s E) {k : IdK} (hk : k.ok) : Calls Tryz.prog 78 #[.pointer (some ⟨s.sb, 0, none⟩), k.v] w fun e w' => e = .returned (.int .i64 (aheadE E true k)) ∧ Below w.heap.size w w' := by
  have bx : Below w.heap.size w (w.alloc (.cells k.c.toArray 36)) := (Below.refl _ _).alloc (Nat.le_refl _) _
  have hx := id_new w k
  have HA : Hid (∀ W, SeqAt W s E → Calls Tryz.prog 76 #[.pointer (some ⟨s.sb, 0, none⟩), k.v, .int .i64 1] W fun e w' => e = .returned (.int .i64 (aheadE E true k)) ∧ Below W.heap.size W w') := fun W hW => sahead_any hW hk true
  show Calls Tryz.prog 78 #[.pointer (some ⟨s.sb, 0, none⟩), .agg k.c.toArray] w _
  go_enter Tryz.func78, Tryz.ntmps78
  go_upto_region 1 with fail
  generalize w.alloc (.cells k.c.toArray 36) = wx at *
  have h1 := h.below bx
  have HL := hidMk (load_id hk hx)
  clear hx
  go_wp2_with (first
    | (refine wload wx rfl rfl rfl HL.out rfl ?_)
    | (go_at_call 76; refine (HA.out _ h1).mono ?_; rintro e w' ⟨rfl, hb⟩)
    | fail)
  go_ret
  exact ⟨rfl, bx.trans (hb.mono bx.size)⟩
theorem len_any (h : SeqAt w s E) : Calls Tryz.prog 103 #[.pointer (some ⟨s.sb, 0, none⟩)] w fun e w' => e = .returned (.int .i64 ((visE E false).length : Int)) ∧ Below w.heap.size w w' := by
  have HA : Hid (Calls Tryz.prog 100 #[.pointer (some ⟨s.sb, 0, none⟩), .int .i64 0] w fun e w' => e = .returned (.int .i64 ((visE E false).length : Int)) ∧ Below w.heap.size w w') := smany_any h false
  go_enter Tryz.func103, Tryz.ntmps103
  go_wp2_with (first
    | (go_at_call 100; refine HA.out.mono ?_; rintro e w' ⟨rfl, hb⟩)
    | fail)
  go_ret
  exact ⟨rfl, hb⟩
theorem shown_any (h : SeqAt w s E) : Calls Tryz.prog 79 #[.pointer (some ⟨s.sb, 0, none⟩)] w fun e w' => e = .returned (.int .i64 ((visE E true).length : Int)) ∧ Below w.heap.size w w' := by
  have HA : Hid (Calls Tryz.prog 100 #[.pointer (some ⟨s.sb, 0, none⟩), .int .i64 1] w fun e w' => e = .returned (.int .i64 ((visE E true).length : Int)) ∧ Below w.heap.size w w') := smany_any h true
  go_enter Tryz.func79, Tryz.ntmps79
  go_wp2_with (first
    | (go_at_call 100; refine HA.out.mono ?_; rintro e w' ⟨rfl, hb⟩)
    | fail)
  go_ret
  exact ⟨rfl, hb⟩
end
theorem results_c2 {P : Program} {fn : Func} {a b : Nat} {t : TypeId} (h : fn.results = #[.cell a t, .tmp b]) {tmps : Array Value} {w : World} {p : Addr} {v : Value} (ha : tmps.getD a undef = .pointer (some p)) (hl : (loadVar t p).run P w = .ok v w) :
    (results fn tmps).run P w = .ok (.tuple #[v, tmps.getD b undef]) w := by
  rw [Array.getD_eq_getD_getElem?] at ha
  simp [results, h, asAddr, ha, hl, Array.mapM_eq_mapM_toList, Result.andThen]
theorem loadVar_id {w : World} {b : Nat} {k : IdK} (hk : k.ok) (h : IdAt w b k) : (loadVar 36 ⟨b, 0, none⟩).run Tryz.prog w = .ok k.v w :=
  run_loadVar_mid (P := Tryz.prog) w b 0 36 k.c _ (cells_range h) Tryz.underlying36 rfl (by rw [IdK.len hk]; exact szId)
theorem zeroId (w : World) : (zeroValue 36).run Tryz.prog w = .ok zId.v w := by kernel_rfl
theorem id_zero (w : World) : (Instr.alloc 36 true (.tuple #[])).run Tryz.prog w = .ok (.pointer (some ⟨w.heap.size, 0, none⟩)) (w.alloc (.cells zId.c.toArray 36)) := by
  simp only [Instr.alloc, newVar, newRow, newObj, Sem.run_bind, zeroId, Result.andThen_ok, IdK.v, Value.cells]
  rfl
theorem store_id {w : World} {b : Nat} {x u : IdK} (hx : x.ok) (hu : u.ok) (h : IdAt w b x) : (Instr.storeAt 36 (.pointer (some ⟨b, 0, none⟩)) u.v).run Tryz.prog w = .ok () (w.setRow b u.c.toArray) := by
  have e2 := run_storeVar_row (P := Tryz.prog) w b 36 36 x.c.toArray u.c.toArray h (by rw [List.size_toArray, IdK.len hu]; exact szId)
    (by rw [List.size_toArray, List.size_toArray, IdK.len hu, IdK.len hx]) (by rw [List.all_toArray, List.all_eq_true]; exact u.one)
  simp only [Instr.storeAt, Instr.sureAddr, Sem.run_bind, Sem.run_pure, Result.andThen_ok, IdK.v, e2]
theorem IdAt.set {w : World} {b : Nat} {x : IdK} (u : IdK) (h : IdAt w b x) : IdAt (w.setRow b u.c.toArray) b u := setRow_heap w b _ _ _ _ h
theorem two_boxes (w : World) (k u : IdK) : IdAt ((w.alloc (.cells k.c.toArray 36)).alloc (.cells u.c.toArray 36)) w.heap.size k ∧ IdAt ((w.alloc (.cells k.c.toArray 36)).alloc (.cells u.c.toArray 36)) (w.heap.size + 1) u ∧
    Below w.heap.size w ((w.alloc (.cells k.c.toArray 36)).alloc (.cells u.c.toArray 36)) ∧ ((w.alloc (.cells k.c.toArray 36)).alloc (.cells u.c.toArray 36)).heap.size = w.heap.size + 2 := by
  have z : (w.alloc (.cells k.c.toArray 36)).heap.size = w.heap.size + 1 := by simp
  refine ⟨?_, ?_, ((Below.refl _ _).alloc (Nat.le_refl _) _).alloc (by simp) _, by simp⟩
  · unfold IdAt
    rw [Below.heap_alloc _ _ _ (by rw [z]; omega)]
    exact heap_alloc_new _ _
  · unfold IdAt
    rw [← z]
    exact heap_alloc_new _ _
theorem set_below {w : World} {b n : Nat} (cs : Array Value) (hn : n ≤ w.heap.size) (hb : n ≤ b) : Below n w (w.setRow b cs) := (setRow_tch w b cs).below hn (fun j e => by simp at e; omega)
def nthE (E : List Elt) (c : Bool) (m : Int) : IdK × Bool := if 0 ≤ m ∧ m < ((visE E c).length : Int) then (((visE E c).map (·.id)).getD m.toNat zId, true) else (zId, false)
section
variable {w : World} {s : Sx} {E : List Elt}
theorem lk_nth (h : Lk s E) (c : Bool) (m : Int) : (nth (vis s.L c s.t) m = 0 ∧ nthE E c m = (zId, false)) ∨ (nth (vis s.L c s.t) m ∈ s.t.ids ∧ nthE E c m = ((gt s.L (nth (vis s.L c s.t) m)).kp.id, true)) := by
  have hv := h.vis c
  obtain ⟨V, hV⟩ : ∃ V, Go.Proofs.YtifendlpeebofaaGreatDoor.vis s.L c s.t = V := ⟨_, rfl⟩
  have hs : ∀ x ∈ V, x ∈ s.t.ids := fun x hx => by rw [← hV] at hx; exact (List.mem_filter.1 hx).1
  rw [hV] at hv ⊢
  have hl : (visE E c).length = V.length := by rw [← hv, List.length_map]
  unfold Go.Proofs.YtifendlpeebofaaGreatDoor.nth nthE
  rw [hl]
  by_cases q : 0 ≤ m ∧ m < (V.length : Int)
  · rw [if_pos q, if_pos q]
    have hm : m.toNat < V.length := by omega
    have e1 : V.getD m.toNat 0 = V[m.toNat] := by rw [List.getD_eq_getElem?_getD, List.getElem?_eq_getElem hm]; rfl
    rw [e1]
    refine .inr ⟨hs _ (List.getElem_mem hm), ?_⟩
    rw [← hv, List.map_map, List.getD_eq_getElem?_getD, List.getElem?_map, List.getElem?_eq_getElem hm]
    rfl
  · rw [if_neg q, if_neg q]
    exact .inl ⟨rfl, rfl⟩
theorem sfind_any (h : SeqAt w s E) (c : Bool) (m : Int) (hm : -9223372036854775808 ≤ m ∧ m ≤ 9223372036854775807) : Calls Tryz.prog 99 #[.pointer (some ⟨s.sb, 0, none⟩), .int .i64 m, .int .i64 (nb c : Int)] w fun e w' => e = .returned (.tuple #[(nthE E c m).1.v, .bool (nthE E c m).2]) ∧ Below w.heap.size w w' := by
  have hr := id_new w zId
  have bx : Below w.heap.size w (w.alloc (.cells zId.c.toArray 36)) := (Below.refl _ _).alloc (Nat.le_refl _) _
  have zx : (w.alloc (.cells zId.c.toArray 36)).heap.size = w.heap.size + 1 := by simp
  have HRF : Hid (∀ W, SeqAt W s E → Calls Tryz.prog 128 #[.pointer (some ⟨s.sb, 1, none⟩), .int .i64 m, .int .i64 (nb c : Int)] W fun e w' => e = .returned (.int .i64 (nth (vis s.L c s.t) m : Int)) ∧ Qt W w') := fun W hW => rfind_any c m hm hW.row hW.lk.good
  have HN := hidMk (lk_nth h.lk c m)
  have HL := hidMk (fun i (hi : i ∈ s.t.ids) => (h.lk.good.lt hi))
  generalize nth (vis s.L c s.t) m = i at *
  generalize nthE E c m = res at *
  go_enter Tryz.func99, Tryz.ntmps99
  go_upto_region 3 with (first
    | (refine wpList_run rfl (exec_alloc (t := 36) rfl (id_zero _)) ?_)
    | fail)
  generalize w.alloc (.cells zId.c.toArray 36) = wx at *
  have ZX := hidMk zx
  clear zx
  have h1 := h.below bx
  refine fi3 (fun w' => Qt wx w') _ _ _ rfl rfl rfl rfl (HRF.out _ h1) ?_
  intro a' w1 hw ha
  subst ha
  have h2 := h1.qt hw
  have hr2 : IdAt w1 w.heap.size zId := by unfold IdAt; rw [hw.heap]; exact hr
  have b2 := bx.trans (hw.below _)
  clear HRF
  simp only [Act.put, List.setIfInBounds_toArray, List.set_cons_zero, List.set_cons_succ]
  go_upto_region 4 with fail
  rcases HN.out with ⟨hi0, rfl⟩ | ⟨him, rfl⟩
  · subst hi0
    refine fi4 (i := 0) (r := true) _ _ _ rfl rfl rfl ?_
    intro a' w3 hw3 ha
    subst ha
    obtain rfl : w3 = w1 := hw3
    simp only [Act.put, List.setIfInBounds_toArray, List.set_cons_zero, List.set_cons_succ]
    go_upto_region 5 with fail
    refine fi5 _ _ _ rfl rfl (store_id zId_ok zId_ok hr2) ?_
    intro a' w4 hw4 ha
    subst ha
    obtain rfl : w4 = _ := hw4
    simp only [Act.put, List.setIfInBounds_toArray, List.set_cons_zero, List.set_cons_succ]
    have hr3 := hr2.set zId
    have b3 : Below w.heap.size w (w3.setRow w.heap.size zId.c.toArray) := b2.trans (set_below _ b2.size (Nat.le_refl _))
    generalize w3.setRow w.heap.size zId.c.toArray = w4 at *
    go_wp2
    refine bodyPost_ret (results_c2 rfl rfl (loadVar_id zId_ok hr3)) rfl ?_
    exact ⟨rfl, b3⟩
  · obtain ⟨hi0, hil⟩ := HL.out i him
    refine fi4 (i := i) (r := false) _ _ _ rfl rfl (by simpa using hi0) ?_
    intro a' w3 hw3 ha
    subst ha
    obtain rfl : w3 = w1 := hw3
    simp only [Act.put, List.setIfInBounds_toArray, List.set_cons_zero, List.set_cons_succ]
    go_upto_region 6 with fail
    have ok := (h2.row.ok.gt hil).id
    refine fi6 (E := E) _ _ _ rfl rfl rfl rfl h2 hil (element_any h2.row hil) (store_id zId_ok ok hr2) ?_
    intro a' w4 hw4 ha
    subst ha
    obtain rfl : w4 = _ := hw4
    simp only [Act.put, List.setIfInBounds_toArray, List.set_cons_zero, List.set_cons_succ]
    have hr3 := hr2.set (gt s.L i).kp.id
    have b3 : Below w.heap.size w (w3.setRow w.heap.size (gt s.L i).kp.id.c.toArray) := b2.trans (set_below _ b2.size (Nat.le_refl _))
    generalize w3.setRow w.heap.size (gt s.L i).kp.id.c.toArray = w4 at *
    go_wp2
    refine bodyPost_ret (results_c2 rfl rfl (loadVar_id ok hr3)) rfl ?_
    exact ⟨rfl, b3⟩
end
structure Nxt (s : Sx) (w : World) (s' : Sx) (E' : List Elt) (w' : World) : Prop where
  at' : SeqAt w' s' E'
  sb : s'.sb = s.sb
  mb : s'.mb = s.mb
  own : s'.g = s.g ∨ w.heap.size ≤ s'.g
  tch : Tch (fun j => j ∈ s.bl) w w'
theorem tch_below {w w' : World} (h : Below w.heap.size w w') (O : Nat → Prop) : Tch O w w' := Tch.of_below h (fun k hk hb => by omega)
theorem Nxt.same {s : Sx} {w w' : World} {E : List Elt} (h : SeqAt w s E) (b : Below w.heap.size w w') : Nxt s w s E w' := ⟨h.below b, rfl, rfl, .inl rfl, tch_below b _⟩
theorem SeqAt.keys {w : World} {s : Sx} {E : List Elt} (h : SeqAt w s E) : (s.N.map (·.1)).Nodup := by
  have := h.map.2.1
  unfold entM at this
  rwa [M.onV_keys] at this
theorem put_entM (N : List (IdK × Nat)) (k : IdK) (n : Nat) : M.put (entM N) k (Value.int .i64 (n : Int)) = entM (M.put N k n) := M.put_on (fun n : Nat => Value.int .i64 (n : Int)) N k n
def insC (E : List Elt) (k b : IdK) : Nat := if k.n < 1 then 2 else if hasE E k = true then 5 else if b ≠ zId ∧ hasE E b = false then 4 else 0
def insR (E : List Elt) (k b : IdK) : List Elt := if insC E k b = 0 then putE E b ⟨k, b, true⟩ else E
section
variable {w : World} {s : Sx} {E : List Elt}
end
section
variable {w : World} {s : Sx} {E : List Elt}
theorem ins_end {w4 w5 : World} {k b : IdK} {b1 b2 : Nat} {v : Int} (h : SeqAt w4 s E) (hb1 : IdAt w4 b1 k) (hb2 : IdAt w4 b2 b) (n1 : b1 ∉ s.bl) (n2 : b2 ∉ s.bl) (hk : k.ok) (hb : b.ok) (hp : spotOf s b = 0 ∨ spotOf s b ∈ s.t.ids)
    (d : Did w4 s.sb 1 s.g s.cap (setFol s.L (spotOf s b) v) w5) (hl : s.L.length + 1 ≤ 1400000000000)
    (hlk : ∀ g' cap' L' t', Good L' t' → InsB s.t.ids t'.ids (spotOf s b) s.L.length → Kept (setFol s.L (spotOf s b) v ++ [⟨⟨k, b, 0⟩, true, 0, 0, 0, 0, 0⟩]) L' → Lk { s with g := g', cap := cap', L := L', t := t', N := M.put s.N k s.L.length } (putE E b ⟨k, b, true⟩)) :
    IS s b1 b2 k b w5.drew ∧ Calls Tryz.prog 49 #[.pointer (some ⟨s.sb, 1, none⟩), .int .i64 (spotOf s b : Int), KpV.v ⟨k, b, 0⟩] w5.drew fun e w' => e = .returned (.int .i64 (s.L.length : Int)) ∧ IS s b1 b2 k b w' ∧ ∃ y, (Instr.mapUpdate 72 (.map (some s.mb)) k.v (.int .i64 (s.L.length : Int))).run Tryz.prog w' = .ok () y ∧ ∃ s', Nxt s w4 s' (putE E b ⟨k, b, true⟩) y := by
  have nb : ∀ x, x ∉ s.bl → x ≠ s.sb ∧ x ≠ s.mb ∧ x ≠ s.g := fun x hx => by simpa [Sx.bl] using hx
  obtain ⟨p1, p2, p3⟩ := nb b1 n1
  obtain ⟨q1, q2, q3⟩ := nb b2 n2
  have l1 := hb1.lt
  have l2 := hb2.lt
  have lm := h.map.lt
  have ls := h.row.lt
  have sz : w5.heap.size = w4.heap.size := d.size
  have is5 : IS s b1 b2 k b w5.drew := ⟨(World.cell?_of_block (w := w4) (w' := w5) (a := ⟨s.sb, 0, none⟩) (d.tch.block s.sb ls.1 h.row.ne)).trans h.c0, (d.tch.block b1 l1 p3).trans hb1, (d.tch.block b2 l2 q3).trans hb2⟩
  have m5 : M.MapAt w5.drew s.mb IdK.v IdK.ok (entM s.N) := h.map.below (d.tch.block s.mb lm (fun e => h.nm.2 e.symm))
  refine ⟨is5, ?_⟩
  have rp := rput_any (k := ⟨k, b, 0⟩) d.at'.drew (h.lk.good.setFol (spotOf s b) v) hp ⟨hk, hb⟩ (by rw [setFol_len]; exact hl)
  rw [setFol_len] at rp
  refine rp.mono ?_
  rintro e w' ⟨rfl, g', cap', L', t', a1, a2, a3, mv⟩
  have sz6 : w5.heap.size ≤ w'.heap.size := mv.tch.size
  have keep : ∀ x, x < w5.heap.size → x ≠ s.g → x ≠ s.sb → w'.heap[x]? = w5.heap[x]? := fun x hx e1 e2 => mv.tch.block x hx (fun q => q.elim e1 e2)
  have is6 : IS s b1 b2 k b w' := ⟨(mv.oth 0 (by decide)).trans is5.1, (keep b1 (by omega) p3 p1).trans is5.2.1, (keep b2 (by omega) q3 q1).trans is5.2.2⟩
  have m6 : M.MapAt w' s.mb IdK.v IdK.ok (entM s.N) := m5.below (keep s.mb (by omega) (fun e => h.nm.2 e.symm) (fun e => h.nm.1 e.symm))
  obtain ⟨o, e1, m7⟩ := M.run_put (P := Tryz.prog) idKey Tryz.underlying72 m6 k hk (Value.int .i64 (s.L.length : Int))
  rw [put_entM] at m7
  have hgm : g' ≠ s.mb := by
    rcases mv.own with e | e
    · rw [e]; exact h.nm.2
    · have : w5.drew.heap.size = w5.heap.size := rfl
      omega
  refine ⟨rfl, is6, _, e1, { s with g := g', cap := cap', L := L', t := t', N := M.put s.N k s.L.length }, ?_, rfl, rfl, ?_, ?_⟩
  · refine ⟨(World.cell?_of_block (w := w') (a := ⟨s.sb, 0, none⟩) (M.setM_other o h.nm.1)).trans is6.1, mv.at'.keep (M.setM_other o h.nm.1) (M.setM_other o hgm), m7, ⟨h.nm.1, hgm⟩, hlk g' cap' L' t' a1 a2 a3⟩
  · rcases mv.own with e | e
    · exact .inl e
    · exact .inr (by have : w5.drew.heap.size = w5.heap.size := rfl; show w4.heap.size ≤ g'; omega)
  · have t1 : Tch (fun j => j ∈ s.bl) w4 w5.drew := (d.tch.mono (fun j _ q => by rw [q]; simp [Sx.bl])).drew
    have t2 : Tch (fun j => j ∈ s.bl) w4 w' := t1.trans' mv.tch (fun j _ q => by rcases q with q | q <;> rw [q] <;> simp [Sx.bl])
    exact t2.setM (.inr (by simp [Sx.bl])) o
theorem insert_any (h : SeqAt w s E) {k b : IdK} (hk : k.ok) (hb : b.ok) (hl : E.length + 2 ≤ 1400000000000) : Calls Tryz.prog 16 #[.pointer (some ⟨s.sb, 0, none⟩), k.v, b.v] w fun e w' => e = .returned (.int .i64 (insC E k b : Int)) ∧ ∃ s', Nxt s w s' (insR E k b) w' := by
  have HA : Hid (∀ W, SeqAt W s E → ∀ x : IdK, x.ok → Calls Tryz.prog 47 #[.pointer (some ⟨s.sb, 0, none⟩), x.v] W fun e w' => e = .returned (.bool (hasE E x)) ∧ Below W.heap.size W w') := fun W hW x hx => has_any hW hx
  obtain ⟨hx, hy, bx, zx⟩ := two_boxes w k b
  have HB := hidMk h.lt
  show Calls Tryz.prog 16 #[.pointer (some ⟨s.sb, 0, none⟩), .agg k.c.toArray, .agg b.c.toArray] w _
  go_enter Tryz.func16, Tryz.ntmps16
  go_upto_region 3 with fail
  generalize (w.alloc (.cells k.c.toArray 36)).alloc (.cells b.c.toArray 36) = wx at *
  have ZX := hidMk zx
  clear zx
  have h1 := h.below bx
  cases hn : decide (k.n < 1) with
  | true =>
    have HN := hidMk (of_decide_eq_true hn)
    refine ins3 (k := k) (r := true) _ _ _ rfl rfl hk hx hn ?_
    intro a' w1 hw ha
    subst ha
    obtain rfl : w1 = wx := hw
    simp only [Act.put, List.setIfInBounds_toArray, List.set_cons_zero, List.set_cons_succ]
    clear hn
    go_wp2
    go_ret
    have e : insC E k b = 2 := by unfold insC; rw [if_pos HN.out]
    exact ⟨by rw [e]; rfl, s, by unfold insR; rw [e]; exact Nxt.same h bx⟩
  | false =>
    have HN := hidMk (of_decide_eq_false hn)
    refine ins3 (k := k) (r := false) _ _ _ rfl rfl hk hx hn ?_
    intro a' w1 hw ha
    subst ha
    obtain rfl : w1 = wx := hw
    simp only [Act.put, List.setIfInBounds_toArray, List.set_cons_zero, List.set_cons_succ]
    clear hn
    go_upto_region 5 with fail
    refine ins5 (k := k) (r := hasE E k) _ _ _ rfl rfl rfl hk hx (HA.out _ h1 k hk) ?_
    intro a' w2 hw2 ha
    subst ha
    simp only [Act.put, List.setIfInBounds_toArray, List.set_cons_zero, List.set_cons_succ]
    have h2 := h1.below hw2
    have hx2 := hx.below hw2
    have hy2 := hy.below hw2
    have b2 := bx.trans (hw2.mono bx.size)
    clear hx hy h1 hw2
    cases hq : hasE E k with
    | true =>
      have HQ := hidMk hq
      clear hq
      go_wp2
      go_ret
      have e : insC E k b = 5 := by unfold insC; rw [if_neg (by have := HN.out; omega), if_pos HQ.out]
      exact ⟨by rw [e]; rfl, s, by unfold insR; rw [e]; exact Nxt.same h b2⟩
    | false =>
      have HQ := hidMk hq
      clear hq
      go_upto_region 7 with fail
      have fin : ∀ (w3 : World), Below w.heap.size w w3 → SeqAt w3 s E → IdAt w3 w.heap.size k → IdAt w3 (w.heap.size + 1) b → (b = zId ∨ hasE E b = true) → ∃ w5 v, (Instr.storeAt 3 (.pointer (some ⟨s.g, 73 * spotOf s b + 0 + 66, none⟩)) (.int .i64 ((gt s.L (spotOf s b)).kp.fol + 1))).run Tryz.prog w3 = .ok () w5 ∧ spotOf s b < s.L.length ∧ (-9223372036854775808 ≤ (gt s.L (spotOf s b)).kp.fol + 1 ∧ (gt s.L (spotOf s b)).kp.fol + 1 ≤ 9223372036854775807) ∧
          IS s w.heap.size (w.heap.size + 1) k b w5.drew ∧ Calls Tryz.prog 49 #[.pointer (some ⟨s.sb, 1, none⟩), .int .i64 (spotOf s b : Int), KpV.v ⟨k, b, 0⟩] w5.drew fun e w' => e = .returned (.int .i64 (v : Nat)) ∧ IS s w.heap.size (w.heap.size + 1) k b w' ∧ ∃ y, (Instr.mapUpdate 72 (.map (some s.mb)) k.v (.int .i64 (v : Nat))).run Tryz.prog w' = .ok () y ∧ ∃ s', Nxt s w s' (insR E k b) y := by
        intro w3 b3 h3 i1 i2 hbb
        have hp := (h.lk.spotIs hbb).1
        have hpl : spotOf s b < s.L.length := by
          rcases hp with e | e
          · rw [e]; exact h.lk.good.pos
          · exact (h.lk.good.lt e).2
        obtain ⟨w5, e5, d5⟩ := st_fol h3.row hpl ((gt s.L (spotOf s b)).kp.fol + 1)
        have hfol := h.lk.fol (spotOf s b) hp
        have hfl := folE_le E (gt s.L (spotOf s b)).kp.id
        have hlen := h.lk.len
        have e : insC E k b = 0 := by
          unfold insC
          rw [if_neg (by have := HN.out; omega), if_neg (by rw [HQ.out]; decide), if_neg (fun q => by rcases hbb with r | r; exact q.1 r; rw [r] at q; cases q.2)]
        have he := ins_end (k := k) (b := b) (v := (gt s.L (spotOf s b)).kp.fol + 1) h3 i1 i2 (fun q => by have := HB.out _ q; omega) (fun q => by have := HB.out _ q; omega) hk hb hp d5 (by omega)
          (fun g' cap' L' t' a1 a2 a3 => h.lk.put h.keys ⟨hk, by have := HN.out; omega⟩ hb HQ.out hbb a1 a2 a3)
        refine ⟨w5, s.L.length, e5, hpl, by omega, he.1, he.2.mono ?_⟩
        rintro e' w' ⟨r1, r2, y, r3, s', nx⟩
        refine ⟨r1, r2, y, r3, s', ?_⟩
        unfold insR
        rw [if_pos e]
        exact ⟨nx.at', nx.sb, nx.mb, nx.own.imp id (fun q => Nat.le_trans b3.size q), (tch_below b3 _).trans nx.tch⟩
      have FIN := hidMk fin
      clear fin
      cases hz : (!decide (b = zId)) with
      | true =>
        have HZ := hidMk (show b ≠ zId by simpa using hz)
        refine ins7a (k := b) (r := hasE E b) _ _ _ rfl rfl rfl hb hy2 hz (HA.out _ h2 b hb) ?_
        intro a' w3 hw3 ha
        subst ha
        simp only [Act.put, List.setIfInBounds_toArray, List.set_cons_zero, List.set_cons_succ]
        have h3 := h2.below hw3
        have hx3 := hx2.below hw3
        have hy3 := hy2.below hw3
        have b3 := b2.trans (hw3.mono b2.size)
        clear hx2 hy2 h2 hw3 b2 HA hz
        cases hq2 : hasE E b with
        | false =>
          have HQ2 := hidMk hq2
          clear hq2
          go_wp2
          go_ret
          have e : insC E k b = 4 := by unfold insC; rw [if_neg (by have := HN.out; omega), if_neg (by rw [HQ.out]; decide), if_pos ⟨HZ.out, HQ2.out⟩]
          exact ⟨by rw [e]; rfl, s, by unfold insR; rw [e]; exact Nxt.same h b3⟩
        | true =>
          have HQ2 := hidMk hq2
          clear hq2
          go_upto_region 9 with fail
          refine ins9 (E := E) (k := b) _ _ _ rfl rfl rfl h3 hb hy3 rfl ?_
          intro a' w4 hw4 ha
          subst ha
          obtain rfl : w4 = w3.drew := hw4
          simp only [Act.put, List.setIfInBounds_toArray, List.set_cons_zero, List.set_cons_succ]
          obtain ⟨w5, v, e5, hpl, hf5, is5, cp5⟩ := FIN.out w3.drew b3.drew h3.drew hx3 hy3 (.inr HQ2.out)
          have IS5 := hidMk is5
          have CP5 := hidMk cp5
          have E0 := hidMk (show insC E k b = 0 by
            unfold insC
            rw [if_neg (by have := HN.out; omega), if_neg (by rw [HQ.out]; decide), if_neg (fun q => by rw [HQ2.out] at q; cases q.2)])
          clear is5 cp5 FIN
          go_upto_region 10 with fail
          refine ins10 (E := E) _ _ _ rfl rfl rfl h3.drew hpl hf5 (element_any h3.drew.row hpl) e5 ?_
          intro a' w6 hw6 ha
          subst ha
          obtain rfl : w6 = w5 := hw6
          simp only [Act.put, List.setIfInBounds_toArray, List.set_cons_zero, List.set_cons_succ]
          clear hf5 e5
          go_upto_region 11 with fail
          refine ins11 (k := k) (q := b) (fun y => ∃ s', Nxt s w s' (insR E k b) y) _ _ _ rfl rfl rfl rfl rfl hk hb IS5.out CP5.out ?_
          intro a' w7 hw7 ha
          subst ha
          have HW7 := hidMk hw7
          clear hw7 IS5 CP5 h3 hx3 hy3
          simp only [Act.put, List.setIfInBounds_toArray, List.set_cons_zero, List.set_cons_succ]
          go_wp2
          go_ret
          exact ⟨by rw [E0.out]; rfl, HW7.out⟩
      | false =>
        have HZ := hidMk (show b = zId by simpa using hz)
        refine ins7b (k := b) _ _ _ rfl rfl rfl hb hy2 hz ?_
        intro a' w3 hw3 ha
        subst ha
        obtain rfl : w3 = w2 := hw3
        simp only [Act.put, List.setIfInBounds_toArray, List.set_cons_zero, List.set_cons_succ]
        clear HA hz
        go_upto_region 9 with fail
        refine ins9 (E := E) (k := b) _ _ _ rfl rfl rfl h2 hb hy2 rfl ?_
        intro a' w4 hw4 ha
        subst ha
        obtain rfl : w4 = w3.drew := hw4
        simp only [Act.put, List.setIfInBounds_toArray, List.set_cons_zero, List.set_cons_succ]
        obtain ⟨w5, v, e5, hpl, hf5, is5, cp5⟩ := FIN.out w3.drew b2.drew h2.drew hx2 hy2 (.inl HZ.out)
        have IS5 := hidMk is5
        have CP5 := hidMk cp5
        have E0 := hidMk (show insC E k b = 0 by
          unfold insC
          rw [if_neg (by have := HN.out; omega), if_neg (by rw [HQ.out]; decide), if_neg (fun q => q.1 HZ.out)])
        clear is5 cp5 FIN
        go_upto_region 10 with fail
        refine ins10 (E := E) _ _ _ rfl rfl rfl h2.drew hpl hf5 (element_any h2.drew.row hpl) e5 ?_
        intro a' w6 hw6 ha
        subst ha
        obtain rfl : w6 = w5 := hw6
        simp only [Act.put, List.setIfInBounds_toArray, List.set_cons_zero, List.set_cons_succ]
        clear hf5 e5
        go_upto_region 11 with fail
        refine ins11 (k := k) (q := b) (fun y => ∃ s', Nxt s w s' (insR E k b) y) _ _ _ rfl rfl rfl rfl rfl hk hb IS5.out CP5.out ?_
        intro a' w7 hw7 ha
        subst ha
        have HW7 := hidMk hw7
        clear hw7 IS5 CP5 h2 hx2 hy2
        simp only [Act.put, List.setIfInBounds_toArray, List.set_cons_zero, List.set_cons_succ]
        go_wp2
        go_ret
        exact ⟨by rw [E0.out]; rfl, HW7.out⟩
end
end Go.Proofs.YtifendlpeebofaaGreatDoor
namespace Go.Proofs.YtifendlpeebofaaGreatDoor
open Go.RowKit Go.Shelf Sq
attribute [local go_sem] Oper.semAt_some
section
variable {w : World} {s : Sx} {E : List Elt}
theorem nthE_ok (h : SeqOk E) (c : Bool) (m : Int) : (nthE E c m).1.ok := by
  unfold nthE
  split
  · rw [List.getD_eq_getElem?_getD]
    cases q : ((visE E c).map (·.id))[m.toNat]? with
    | none => exact zId_ok
    | some x =>
      obtain ⟨e, he, rfl⟩ := List.mem_map.1 (List.mem_of_getElem? q)
      exact (h.ok e (List.mem_filter.1 he).1).1
  · exact zId_ok
theorem at_any (h : SeqAt w s E) (m : Int) (hm : -9223372036854775808 ≤ m ∧ m ≤ 9223372036854775807) : Calls Tryz.prog 77 #[.pointer (some ⟨s.sb, 0, none⟩), .int .i64 m] w fun e w' => e = .returned (.tuple #[(nthE E false m).1.v, .bool (nthE E false m).2]) ∧ Below w.heap.size w w' := by
  have hr := id_new w zId
  have bx : Below w.heap.size w (w.alloc (.cells zId.c.toArray 36)) := (Below.refl _ _).alloc (Nat.le_refl _) _
  have zx : (w.alloc (.cells zId.c.toArray 36)).heap.size = w.heap.size + 1 := by simp
  have HA : Hid (∀ W, SeqAt W s E → Calls Tryz.prog 99 #[.pointer (some ⟨s.sb, 0, none⟩), .int .i64 m, .int .i64 0] W fun e w' => e = .returned (.tuple #[(nthE E false m).1.v, .bool (nthE E false m).2]) ∧ Below W.heap.size W w') := fun W hW => sfind_any hW false m hm
  have OK : (nthE E false m).1.ok := nthE_ok h.lk.ok false m
  generalize nthE E false m = res at *
  go_enter Tryz.func77, Tryz.ntmps77
  go_upto_region 1 with (first
    | (refine wpList_run rfl (exec_alloc (t := 36) rfl (id_zero _)) ?_)
    | fail)
  generalize w.alloc (.cells zId.c.toArray 36) = wx at *
  have h1 := h.below bx
  have HR := hidMk hr
  have BX := hidMk bx
  have ZX := hidMk zx
  clear hr bx zx
  go_wp2_with (first
    | (go_at_call 99; refine (HA.out _ h1).mono ?_; rintro e w1 ⟨rfl, hb⟩; have ST := hidMk (store_id zId_ok OK (HR.out.below hb)))
    | (refine wpList_skip rfl rfl (exec_store (t := 36) (xv := .pointer (some ⟨w.heap.size, 0, none⟩)) (yv := res.1.v) rfl rfl rfl ST.out) ?_)
    | fail)
  refine bodyPost_ret (results_c2 rfl rfl (loadVar_id OK ((HR.out.below hb).set res.1))) rfl ?_
  have b2 := BX.out.trans (hb.mono BX.out.size)
  exact ⟨rfl, b2.trans (set_below _ b2.size (Nat.le_refl _))⟩
end
theorem good_new : Good [zSp] .nil := by
  refine ⟨⟨trivial, ⟨by simp, rfl, rfl⟩, by simp [T.ids, cids], fun w => by cases w <;> rfl⟩, trivial, fun i h0 h1 => ?_⟩
  simp at h1; omega
theorem zSp_ok : OkS [zSp] := fun x hx => by
  rw [List.mem_singleton.1 hx]; exact zK_ok
theorem lk_new (sb mb g cap : Nat) : Lk ⟨sb, mb, g, cap, [zSp], .nil, []⟩ [] := by
  refine ⟨good_new, rfl, ⟨by simp, by simp, by simp⟩, fun k n => ?_, rfl, fun n hn => ?_⟩
  · constructor
    · intro h; cases h
    · rintro ⟨h, _⟩; simp [T.ids] at h
  · rcases hn with rfl | h
    · rfl
    · simp [T.ids] at h
theorem make_sp (w : World) : (Instr.makeSlice 73 (.int .i64 1) (.int .i64 1)).run Tryz.prog w = .ok (.slice (some ⟨w.heap.size, 0, none⟩) 1 1) (w.alloc (.cells (Sp.c zSp).toArray 128)) := by kernel_rfl
theorem results_c1 {P : Program} {fn : Func} {a : Nat} {t : TypeId} (h : fn.results = #[.cell a t]) {tmps : Array Value} {w : World} {p : Addr} {v : Value} (ha : tmps.getD a undef = .pointer (some p)) (hl : (loadVar t p).run P w = .ok v w) :
    (results fn tmps).run P w = .ok v w := by
  rw [Array.getD_eq_getD_getElem?] at ha
  simp [results, h, asAddr, ha, hl, Array.mapM_eq_mapM_toList, Result.andThen]
theorem newRow_any (w : World) : Calls Tryz.prog 38 #[] w fun e w' => e = .returned (.agg #[.slice (some ⟨w.heap.size + 1, 0, none⟩) 1 1]) ∧ w'.heap[w.heap.size + 1]? = some (.cells (Sp.c zSp).toArray 128 (0, 0)) ∧ w'.heap.size = w.heap.size + 2 ∧ Below w.heap.size w w' := by
  go_enter Tryz.func38, Tryz.ntmps38
  go_wp2_with (first
    | (refine wpList_run rfl (exec_makeSlice rfl rfl rfl (make_sp _)) ?_)
    | fail)
  have z : (w.alloc (.cells #[.slice (some ⟨w.heap.size + 1, 0, none⟩) 1 1] 75)).heap.size = w.heap.size + 1 := by simp
  have hb : ((w.alloc (.cells #[.slice (some ⟨w.heap.size + 1, 0, none⟩) 1 1] 75)).alloc (.cells (Sp.c zSp).toArray 128)).heap[w.heap.size]? = some (.cells [Value.slice (some ⟨w.heap.size + 1, 0, none⟩) 1 1].toArray 75 (0, 0)) := (Below.heap_alloc _ _ _ (by simp)).trans (heap_alloc_new _ _)
  have hl := run_loadVar_mid (P := Tryz.prog) _ w.heap.size 0 75 [Value.slice (some ⟨w.heap.size + 1, 0, none⟩) 1 1] _ (cells_range hb) Tryz.underlying75 rfl (by kernel_rfl)
  refine bodyPost_ret (results_c1 rfl rfl hl) rfl ?_
  refine ⟨rfl, ?_, by simp, ((Below.refl _ _).alloc (Nat.le_refl _) _).alloc (by simp) _⟩
  have hn := heap_alloc_new (w.alloc (.cells #[.slice (some ⟨w.heap.size + 1, 0, none⟩) 1 1] 75)) (.cells (Sp.c zSp).toArray 128)
  rw [z] at hn
  exact hn
theorem new_any (w : World) : Calls Tryz.prog 8 #[] w fun e w' => ∃ s, e = .returned (.pointer (some ⟨s.sb, 0, none⟩)) ∧ SeqAt w' s [] ∧ (∀ j ∈ s.bl, w.heap.size ≤ j) ∧ Below w.heap.size w w' := by
  have HR : Hid (∀ W, Calls Tryz.prog 38 #[] W fun e w' => e = .returned (.agg #[.slice (some ⟨W.heap.size + 1, 0, none⟩) 1 1]) ∧ w'.heap[W.heap.size + 1]? = some (.cells (Sp.c zSp).toArray 128 (0, 0)) ∧ w'.heap.size = W.heap.size + 2 ∧ Below W.heap.size W w') := newRow_any
  have hm := M.MapAt.new w IdK.v IdK.ok
  have bm : Below w.heap.size w (w.alloc (.map #[] 0)) := (Below.refl _ _).alloc (Nat.le_refl _) _
  have zm : (w.alloc (.map #[] 0)).heap.size = w.heap.size + 1 := by simp
  go_enter Tryz.func8, Tryz.ntmps8
  have MK : Hid (∀ W : World, (Instr.makeMap 72 none).run Tryz.prog W = .ok (.map (some W.heap.size)) (W.alloc (.map #[] 0))) := fun W => by kernel_rfl
  go_wp2_with (first
    | (refine wpList_run rfl (exec_makeMap rfl (MK.out _)) ?_)
    | (go_at_call 38; generalize w.alloc (.map #[] 0) = wm at *; refine (HR.out _).mono ?_; rintro e w1 ⟨rfl, h1, z1, b1⟩)
    | fail)
  rw [zm] at h1 z1 b1
  have hq := heap_alloc_new w1 (.cells #[.map (some w.heap.size), .slice (some ⟨w.heap.size + 1 + 1, 0, none⟩) 1 1] 80)
  have bq : Below w1.heap.size w1 (w1.alloc (.cells #[.map (some w.heap.size), .slice (some ⟨w.heap.size + 1 + 1, 0, none⟩) 1 1] 80)) := (Below.refl _ _).alloc (Nat.le_refl _) _
  go_ret
  generalize w1.alloc (.cells #[.map (some w.heap.size), .slice (some ⟨w.heap.size + 1 + 1, 0, none⟩) 1 1] 80) = w2 at *
  rw [z1] at hq bq
  have hg : w2.heap[w.heap.size + 1 + 1]? = some (.cells (Sp.c zSp).toArray 128 (0, 0)) := (bq.block _ (by omega)).trans h1
  refine ⟨⟨w.heap.size + 1 + 2, w.heap.size, w.heap.size + 1 + 1, 1, [zSp], .nil, []⟩, rfl, ⟨?_, ⟨?_, ⟨?_, .inr ⟨w.heap.size + 1 + 1, 1, _, rfl, Nat.zero_le _, hg, Nat.le_refl _, by decide, ?_, ?_⟩⟩, ?_, by show w.heap.size + 1 + 2 ≠ w.heap.size + 1 + 1; omega, by show 1 ≤ 1400000000000; omega, _, _, hq⟩, ?_, ⟨by show w.heap.size + 1 + 2 ≠ w.heap.size; omega, by show w.heap.size + 1 + 1 ≠ w.heap.size; omega⟩, lk_new _ _ _ _⟩, ?_, ?_⟩
  · exact (cell_of_row _ _ 0 _ _ _ hq).trans rfl
  · exact (cell_of_row _ _ 1 _ _ _ hq).trans rfl
  · show (flatS [zSp]).length = 1 * 73
    rw [flatS_len zSp_ok]; rfl
  · show (Sp.c zSp).toArray.size = 1 * 73
    rw [List.size_toArray, Sp.len zK_ok]
  · show ((Sp.c zSp).toArray.toList).take (1 * 73) = flatS [zSp]
    rw [List.toList_toArray, List.take_of_length_le (by rw [Sp.len zK_ok]; omega)]
    simp [flatS]
  · exact zSp_ok
  · exact hm.below ((bq.block _ (by show w.heap.size < _; omega)).trans (b1.block _ (by show w.heap.size < _; omega)))
  · intro j hj
    simp only [Sx.bl, List.mem_cons, List.not_mem_nil, or_false] at hj
    rcases hj with rfl | rfl | rfl <;> omega
  · exact (bm.trans (b1.mono (by omega))).trans (bq.mono (by omega))
end Go.Proofs.YtifendlpeebofaaGreatDoor
namespace Go.Proofs.YtifendlpeebofaaGreatDoor
open Go.RowKit
structure VaV where
  k : Int
  n : Int
  f : Nat
  s : ByteArray
  deriving DecidableEq
structure VaV.ok (x : VaV) : Prop where
  k0 : 0 ≤ x.k
  k1 : x.k ≤ 255
  lo : -9223372036854775808 ≤ x.n
  hi : x.n ≤ 9223372036854775807
  ff : x.f < 18446744073709551616
  ss : x.s.size ≤ maxLen
def VaV.c (x : VaV) : List Value := [.int .u8 x.k, .int .i64 x.n, .float .f64 x.f, .string x.s]
def VaV.v (x : VaV) : Value := .agg x.c.toArray
def zVa : VaV := ⟨0, 0, 0, ⟨#[]⟩⟩
theorem zVa_ok : zVa.ok := ⟨by decide, by decide, by decide, by decide, by decide, by decide⟩
theorem VaV.len (x : VaV) : x.c.length = 4 := rfl
theorem VaV.one (x : VaV) : ∀ v ∈ x.c, v.oneCell' = true := by
  intro v hv
  simp only [VaV.c, List.mem_cons, List.not_mem_nil, or_false] at hv
  rcases hv with rfl | rfl | rfl | rfl <;> rfl
structure MkV where
  id : IdK
  nm : ByteArray
  v : VaV
  fr : IdK
  to : IdK
  sd : Int
  deriving DecidableEq
structure MkV.ok (x : MkV) : Prop where
  i : x.id.ok
  nm : x.nm.size ≤ maxLen
  v : x.v.ok
  fr : x.fr.ok
  to : x.to.ok
  s0 : -9223372036854775808 ≤ x.sd
  s1 : x.sd ≤ 9223372036854775807
def MkV.c (x : MkV) : List Value := x.id.c ++ (.string x.nm :: (x.v.c ++ (x.fr.c ++ (x.to.c ++ [.int .i64 x.sd]))))
def MkV.a (x : MkV) : Value := .agg x.c.toArray
def zMk : MkV := ⟨zId, ⟨#[]⟩, zVa, zId, zId, 0⟩
theorem zMk_ok : zMk.ok := ⟨zId_ok, by decide, zVa_ok, zId_ok, zId_ok, by decide, by decide⟩
theorem MkV.len {x : MkV} (h : x.ok) : x.c.length = 105 := by simp [MkV.c, IdK.len h.i, IdK.len h.fr, IdK.len h.to, VaV.len]
theorem MkV.one (x : MkV) : ∀ v ∈ x.c, v.oneCell' = true := by
  intro v hv
  rcases List.mem_append.1 hv with h | h
  · exact x.id.one v h
  · rcases List.mem_cons.1 h with rfl | h
    · rfl
    · rcases List.mem_append.1 h with h | h
      · exact x.v.one v h
      · rcases List.mem_append.1 h with h | h
        · exact x.fr.one v h
        · rcases List.mem_append.1 h with h | h
          · exact x.to.one v h
          · rw [List.mem_singleton.1 h]; rfl
def RM : RowT MkV := ⟨MkV.c, MkV.ok, 105, 184, 95, 85, zMk⟩
theorem RM_is : RM.Is := ⟨zMk_ok, fun _ h => MkV.len h, MkV.one, Tryz.underlying85, by kernel_rfl, ⟨_, Tryz.underlying95, rfl⟩, by decide, by decide⟩
structure SpV where
  fr : Int
  to : Int
  nm : ByteArray
  v : VaV
  deriving DecidableEq
structure SpV.ok (x : SpV) : Prop where
  f0 : -9223372036854775808 ≤ x.fr
  f1 : x.fr ≤ 9223372036854775807
  t0 : -9223372036854775808 ≤ x.to
  t1 : x.to ≤ 9223372036854775807
  nm : x.nm.size ≤ maxLen
  v : x.v.ok
def SpV.c (x : SpV) : List Value := .int .i64 x.fr :: .int .i64 x.to :: .string x.nm :: x.v.c
def SpV.a (x : SpV) : Value := .agg x.c.toArray
def zSp7 : SpV := ⟨0, 0, ⟨#[]⟩, zVa⟩
theorem zSp7_ok : zSp7.ok := ⟨by decide, by decide, by decide, by decide, by decide, zVa_ok⟩
theorem SpV.len (x : SpV) : x.c.length = 7 := rfl
theorem SpV.one (x : SpV) : ∀ v ∈ x.c, v.oneCell' = true := by
  intro v hv
  simp only [SpV.c, List.mem_cons] at hv
  rcases hv with rfl | rfl | rfl | h
  · rfl
  · rfl
  · rfl
  · exact x.v.one v h
def RSp : RowT SpV := ⟨SpV.c, SpV.ok, 7, 72, 65, 49, zSp7⟩
theorem RSp_is : RSp.Is := ⟨zSp7_ok, fun x _ => SpV.len x, SpV.one, Tryz.underlying49, by kernel_rfl, ⟨_, Tryz.underlying65, rfl⟩, by decide, by decide⟩
theorem rng_sub {W : World} {b o n : Nat} {A B C : List Value} (h : W.rangeAt b o (A ++ (B ++ C))) (hA : A.length = n) : W.rangeAt b (o + n) B := fun j v hv => by
  have hj := (List.getElem?_eq_some_iff.1 hv).1
  rw [Nat.add_assoc]
  exact h (n + j) v (by rw [List.getElem?_append_right (by omega), hA, show n + j - n = j by omega, List.getElem?_append_left hj]; exact hv)
theorem rng_cell {W : World} {b o n : Nat} {A C : List Value} {v : Value} (h : W.rangeAt b o (A ++ (v :: C))) (hA : A.length = n) : W.cell? ⟨b, o + n, none⟩ = some v :=
  h n v (by rw [List.getElem?_append_right (by omega), hA, Nat.sub_self]; rfl)
theorem szVa : (Tryz.prog.info? 40).map (·.size) = some 4 := by kernel_rfl
section
variable {W : World} {b o : Nat} {x : MkV}
theorem mk_split2 (x : MkV) : x.c = (x.id.c ++ [.string x.nm]) ++ (x.v.c ++ (x.fr.c ++ (x.to.c ++ [.int .i64 x.sd]))) := by simp [MkV.c]
theorem mk_split3 (x : MkV) : x.c = (x.id.c ++ [.string x.nm] ++ x.v.c) ++ (x.fr.c ++ (x.to.c ++ [.int .i64 x.sd])) := by simp [MkV.c]
theorem mk_split4 (x : MkV) : x.c = (x.id.c ++ [.string x.nm] ++ x.v.c ++ x.fr.c) ++ (x.to.c ++ [.int .i64 x.sd]) := by simp [MkV.c]
theorem mk_split5 (x : MkV) : x.c = (x.id.c ++ [.string x.nm] ++ x.v.c ++ x.fr.c ++ x.to.c) ++ (.int .i64 x.sd :: []) := by simp [MkV.c]
theorem mk_nmc (hx : x.ok) (h : W.rangeAt b o x.c) : W.cell? ⟨b, o + 33, none⟩ = some (.string x.nm) := rng_cell h (IdK.len hx.i)
theorem mk_nm (hx : x.ok) (h : W.rangeAt b o x.c) : (Instr.loadAt 9 (.pointer (some ⟨b, o + 33, none⟩))).run Tryz.prog W = .ok (.string x.nm) W := by
  have hc := mk_nmc hx h
  go_simp
theorem mk_v (hx : x.ok) (h : W.rangeAt b o x.c) : (Instr.loadAt 40 (.pointer (some ⟨b, o + 34, none⟩))).run Tryz.prog W = .ok x.v.v W :=
  run_loadAt_mid (P := Tryz.prog) W b (o + 34) 40 x.v.c _ (rng_sub (mk_split2 x ▸ h) (by simp [IdK.len hx.i])) Tryz.underlying40 rfl (by rw [VaV.len]; exact szVa)
theorem mk_fr (hx : x.ok) (h : W.rangeAt b o x.c) : (Instr.loadAt 36 (.pointer (some ⟨b, o + 38, none⟩))).run Tryz.prog W = .ok x.fr.v W :=
  run_loadAt_mid (P := Tryz.prog) W b (o + 38) 36 x.fr.c _ (rng_sub (mk_split3 x ▸ h) (by simp [IdK.len hx.i, VaV.len])) Tryz.underlying36 rfl (by rw [IdK.len hx.fr]; exact szId)
theorem mk_to (hx : x.ok) (h : W.rangeAt b o x.c) : (Instr.loadAt 36 (.pointer (some ⟨b, o + 71, none⟩))).run Tryz.prog W = .ok x.to.v W :=
  run_loadAt_mid (P := Tryz.prog) W b (o + 71) 36 x.to.c _ (rng_sub (mk_split4 x ▸ h) (by simp [IdK.len hx.i, IdK.len hx.fr, VaV.len])) Tryz.underlying36 rfl (by rw [IdK.len hx.to]; exact szId)
theorem mk_sdc (hx : x.ok) (h : W.rangeAt b o x.c) : W.cell? ⟨b, o + 104, none⟩ = some (.int .i64 x.sd) := rng_cell (mk_split5 x ▸ h) (by simp [IdK.len hx.i, IdK.len hx.fr, IdK.len hx.to, VaV.len])
theorem mk_sd (hx : x.ok) (h : W.rangeAt b o x.c) : (Instr.loadAt 3 (.pointer (some ⟨b, o + 104, none⟩))).run Tryz.prog W = .ok (.int .i64 x.sd) W := by
  have hc := mk_sdc hx h
  go_simp
end
end Go.Proofs.YtifendlpeebofaaGreatDoor
