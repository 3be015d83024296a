import Derived.Test.YtifendlpeebofaaGreatDoorP0
import Derived.Test.YtifendlpeebofaaGreatDoorP2
import Derived.Test.YtifendlpeebofaaGreatDoorRows
import Derived.WalkKit
import Derived.WalkSpells
import Derived.WalkLawsBesides
import Derived.Deep.QuietTactic
import Derived.BigQuiet
import Derived.Below
import Derived.Laws.Externs
import Derived.Lib.ValidLaws
import Derived.Lib.ValidAsc
import Derived.Ground.NamesProg
import Derived.Shelf.Unicode.ValidAny
import Ieee.Arith
import Derived.Laws.BitsAllLaws
set_option linter.unusedSimpArgs false
set_option linter.unusedVariables false
set_option maxRecDepth 100000
set_option maxHeartbeats 4000000
namespace Go.Proofs.YtifendlpeebofaaGreatDoor
open Go.RowKit
theorem fg_95_1 (b o : Nat) (w : World) : (Instr.fieldAt 95 (.pointer (some ⟨b, o, none⟩)) 1).run Tryz.prog w = .ok (.pointer (some ⟨b, o + 33, none⟩)) w := by go_simp
theorem fg_95_2 (b o : Nat) (w : World) : (Instr.fieldAt 95 (.pointer (some ⟨b, o, none⟩)) 2).run Tryz.prog w = .ok (.pointer (some ⟨b, o + 34, none⟩)) w := by go_simp
theorem fg_95_3 (b o : Nat) (w : World) : (Instr.fieldAt 95 (.pointer (some ⟨b, o, none⟩)) 3).run Tryz.prog w = .ok (.pointer (some ⟨b, o + 38, none⟩)) w := by go_simp
theorem fg_95_4 (b o : Nat) (w : World) : (Instr.fieldAt 95 (.pointer (some ⟨b, o, none⟩)) 4).run Tryz.prog w = .ok (.pointer (some ⟨b, o + 71, none⟩)) w := by go_simp
theorem fg_95_5 (b o : Nat) (w : World) : (Instr.fieldAt 95 (.pointer (some ⟨b, o, none⟩)) 5).run Tryz.prog w = .ok (.pointer (some ⟨b, o + 104, none⟩)) w := by go_simp
theorem fg_87_0 (b o : Nat) (w : World) : (Instr.fieldAt 87 (.pointer (some ⟨b, o, none⟩)) 0).run Tryz.prog w = .ok (.pointer (some ⟨b, o + 0, none⟩)) w := by go_simp
theorem fg_87_1 (b o : Nat) (w : World) : (Instr.fieldAt 87 (.pointer (some ⟨b, o, none⟩)) 1).run Tryz.prog w = .ok (.pointer (some ⟨b, o + 1, none⟩)) w := by go_simp
theorem fg_40_0 (b o : Nat) (w : World) : (Instr.fieldAt 40 (.pointer (some ⟨b, o, none⟩)) 0).run Tryz.prog w = .ok (.pointer (some ⟨b, o + 0, none⟩)) w := by go_simp
theorem ex_neqE {w : World} {a : Act} {o : Oper} {x y : Operand} {p q : Int} {r : Bool} (ho : o.op = .binOp .neq 43 x y 43) (hx : a.eval x = .int .i64 p) (hy : a.eval y = .int .i64 q) (h : decide (p ≠ q) = r) : (execOp a.eval o).run Tryz.prog w = .ok (.value (.bool r)) w := by
  subst h
  refine exec_binOp ho hx hy ?_ ?_
  · kernel_rfl
  · by_cases e : p = q
    · subst e; go_simp
    · have e2 : (p == q) = false := by simpa using e
      go_simp
theorem ex_and {w : World} {a : Act} {o : Oper} {x y : Operand} {p q z : Int} (hz : (binOp .and 3 (.int .i64 p) (.int .i64 q)).run Tryz.prog w = .ok (.int .i64 z) w) (ho : o.op = .binOp .and 3 x y 3) (hx : a.eval x = .int .i64 p) (hy : a.eval y = .int .i64 q) : (execOp a.eval o).run Tryz.prog w = .ok (.value (.int .i64 z)) w := by
  refine exec_binOp ho hx hy ?_ hz
  kernel_rfl
theorem exec_build6 {P : Program} {w : World} {a : Act} {o : Oper} {t : TypeId} {x0 x1 x2 x3 x4 x5 : Operand} {v0 v1 v2 v3 v4 v5 v : Value} (ho : o.op = .build t #[(0, x0), (1, x1), (2, x2), (3, x3), (4, x4), (5, x5)]) (h0 : a.eval x0 = v0) (h1 : a.eval x1 = v1) (h2 : a.eval x2 = v2) (h3 : a.eval x3 = v3) (h4 : a.eval x4 = v4) (h5 : a.eval x5 = v5) (hl : (Instr.build t #[(0, v0), (1, v1), (2, v2), (3, v3), (4, v4), (5, v5)]).run P w = .ok v w) : (execOp a.eval o).run P w = .ok (.value v) w := by
  unfold execOp; simp only [ho, List.map_toArray, List.map_cons, List.map_nil, h0, h1, h2, h3, h4, h5, Sem.run_bind, hl, Result.andThen_ok, Sem.run_pure]
def edg1_o0 : Oper := ⟨some 11, .move (.tmp 0), 23, "marks.go:114", #[], none⟩
def edg1_o1 : Oper := ⟨some 12, .load 36 (.tmp 5), 36, "marks.go:114", #[], none⟩
def edg1_o2 : Oper := ⟨some 13, .call { callee := Callee.value (Operand.func 54), args := #[.tmp 11, .tmp 12], argTypes := #[23, 36] }, 3, "marks.go:114", #[⟨0, .data⟩, ⟨1, .data⟩], none⟩
def edg1_o3 : Oper := ⟨some 10, .assign (.tmp 13), 3, "marks.go:114", #[⟨2, .data⟩, ⟨2, .chain⟩, ⟨0, .phase⟩, ⟨1, .phase⟩, ⟨2, .phase⟩], none⟩
def edg1_ops : Array Oper := #[edg1_o0, edg1_o1, edg1_o2, edg1_o3]
theorem edg1 {sp : Value} {b1 : Nat} {k : IdK} {r : Int} (Fin : World → Prop) (a : Act) (w : World) (Q : Exit → Act → World → Prop) (zz : a.tmps.size = 28)
    (t0 : a.tmps.getD 0 undef = sp)
    (t5 : a.tmps.getD 5 undef = .pointer (some ⟨b1, 0, none⟩))
    (LK : ∀ W, W = w → (Instr.loadAt 36 (.pointer (some ⟨b1, 0, none⟩))).run Tryz.prog W = .ok (k.v) W) (CR : Calls Tryz.prog 54 #[sp, k.v] w fun e w' => e = .returned (.int .i64 r) ∧ Fin w')
    (h : ∀ (a' : Act) (w' : World), Fin w' → a' = ((((a).put (some 11) (sp)).put (some 12) (k.v)).put (some 13) (.int .i64 r)).put (some 10) (.int .i64 r) → Q .normal a' w') :
    (Code.region 1 edg1_ops false).wp Tryz.prog Q a w := by
  refine z0 rfl ?_
  refine zv rfl (xmv rfl (zi t0 rfl)) ?_
  refine zv rfl (xld rfl (zi t5 rfl) (LK _ rfl)) ?_
  refine zc rfl (exec_c2 rfl (zg zz rfl) (zg zz rfl)) (CR) (fun e x2 hx => ?_)
  obtain ⟨rfl, HF⟩ := hx
  refine ⟨_, rfl, ?_⟩
  refine zv rfl (xas rfl (zg zz rfl)) ?_
  exact ze rfl (h _ _ (HF) rfl)
def edg2_o0 : Oper := ⟨some 15, .load 36 (.tmp 5), 36, "marks.go:116", #[], none⟩
def edg2_o1 : Oper := ⟨some 16, .build 36 #[], 36, "marks.go:116", #[], none⟩
def edg2_o2 : Oper := ⟨some 17, .binOp BinOp.eql 36 (.tmp 15) (.tmp 16) 36, 4, "marks.go:116", #[⟨0, .data⟩, ⟨1, .data⟩], none⟩
def edg2_o3 : Oper := ⟨some 14, .assign (.tmp 17), 4, "marks.go:116", #[⟨2, .data⟩], none⟩
def edg2_ops : Array Oper := #[edg2_o0, edg2_o1, edg2_o2, edg2_o3]
theorem edg2 {b1 : Nat} {k : IdK} {z : Bool} (a : Act) (w : World) (Q : Exit → Act → World → Prop) (zz : a.tmps.size = 28)
    (t5 : a.tmps.getD 5 undef = .pointer (some ⟨b1, 0, none⟩))
    (hk : k.ok) (hz : decide (k = zId) = z) (LK : ∀ W, W = w → (Instr.loadAt 36 (.pointer (some ⟨b1, 0, none⟩))).run Tryz.prog W = .ok (k.v) W)
    (h : ∀ (a' : Act) (w' : World), w' = w → a' = ((((a).put (some 15) (k.v)).put (some 16) (zId.v)).put (some 17) (.bool z)).put (some 14) (.bool z) → Q .normal a' w') :
    (Code.region 2 edg2_ops false).wp Tryz.prog Q a w := by
  refine z0 rfl ?_
  refine zv rfl (xld rfl (zi t5 rfl) (LK _ rfl)) ?_
  refine zv rfl (exec_build0 rfl (build_id _)) ?_
  refine zv (v := .bool z) rfl (ex_eqlI rfl (zg zz rfl) (zg zz rfl) hk zId_ok hz) ?_
  refine zv rfl (xas rfl (zg zz rfl)) ?_
  exact ze rfl (h _ _ (rfl) rfl)
def edg5_o0 : Oper := ⟨some 21, .move (.tmp 10), 3, "marks.go:119", #[], none⟩
def edg5_o1 : Oper := ⟨some 22, .binOp BinOp.add 3 (.tmp 21) (Operand.const (Value.int IntKind.i64 1)) 3, 3, "marks.go:119", #[⟨0, .data⟩], none⟩
def edg5_o2 : Oper := ⟨some 23, .move (.tmp 10), 3, "marks.go:119", #[{ on := 4, ground := Ground.gcOnly Departure.lateStores }], none⟩
def edg5_o3 : Oper := ⟨some 24, .binOp BinOp.geq 3 (.tmp 23) (Operand.const (Value.int IntKind.i64 0)) 3, 4, "marks.go:119", #[⟨2, .data⟩, { on := 4, ground := Ground.gcOnly Departure.lateStores }], none⟩
def edg5_o4 : Oper := ⟨some 8, .assign (.tmp 22), 3, "marks.go:119", #[⟨1, .data⟩, ⟨0, .phase⟩, ⟨1, .phase⟩, { on := 2, ground := Ground.textOnly Departure.lateStores }, { on := 3, ground := Ground.textOnly Departure.lateStores }], none⟩
def edg5_o5 : Oper := ⟨some 9, .assign (.tmp 24), 4, "marks.go:119", #[⟨3, .data⟩, ⟨4, .chain⟩, ⟨0, .phase⟩, ⟨1, .phase⟩, ⟨2, .phase⟩, ⟨3, .phase⟩, ⟨4, .phase⟩], none⟩
def edg5_ops : Array Oper := #[edg5_o0, edg5_o1, edg5_o2, edg5_o3, edg5_o4, edg5_o5]
theorem edg5 {r : Int} {z : Bool} (a : Act) (w : World) (Q : Exit → Act → World → Prop) (zz : a.tmps.size = 28)
    (t10 : a.tmps.getD 10 undef = .int .i64 r)
    (hb : -9223372036854775808 ≤ r + 1 ∧ r + 1 ≤ 9223372036854775807) (hz : decide (r ≥ 0) = z)
    (h : ∀ (a' : Act) (w' : World), w' = w → a' = ((((((a).put (some 21) (.int .i64 r)).put (some 22) (.int .i64 (r + 1))).put (some 23) (.int .i64 r)).put (some 24) (.bool z)).put (some 8) (.int .i64 (r + 1))).put (some 9) (.bool z) → Q .normal a' w') :
    (Code.region 5 edg5_ops false).wp Tryz.prog Q a w := by
  refine z0 rfl ?_
  refine zv rfl (xmv rfl (zi t10 rfl)) ?_
  refine zv (v := .int .i64 (r + 1)) rfl (ex_add rfl (zg zz rfl) rfl hb) ?_
  refine zv rfl (xmv rfl (zi t10 rfl)) ?_
  refine zv (v := .bool z) rfl (ex_geq rfl (zg zz rfl) rfl hz) ?_
  refine zv rfl (xas rfl (zg zz rfl)) ?_
  refine zv rfl (xas rfl (zg zz rfl)) ?_
  exact ze rfl (h _ _ (rfl) rfl)
def edg6_o0 : Oper := ⟨some 25, .move (.tmp 10), 3, "marks.go:121", #[], none⟩
def edg6_o1 : Oper := ⟨some 26, .move (.tmp 10), 3, "marks.go:121", #[{ on := 3, ground := Ground.gcOnly Departure.lateStores }], none⟩
def edg6_o2 : Oper := ⟨some 27, .binOp BinOp.geq 3 (.tmp 26) (Operand.const (Value.int IntKind.i64 0)) 3, 4, "marks.go:121", #[⟨1, .data⟩, { on := 3, ground := Ground.gcOnly Departure.lateStores }], none⟩
def edg6_o3 : Oper := ⟨some 8, .assign (.tmp 25), 3, "marks.go:121", #[⟨0, .data⟩, ⟨0, .phase⟩, { on := 1, ground := Ground.textOnly Departure.lateStores }, { on := 2, ground := Ground.textOnly Departure.lateStores }], none⟩
def edg6_o4 : Oper := ⟨some 9, .assign (.tmp 27), 4, "marks.go:121", #[⟨2, .data⟩, ⟨3, .chain⟩, ⟨0, .phase⟩, ⟨1, .phase⟩, ⟨2, .phase⟩, ⟨3, .phase⟩], none⟩
def edg6_ops : Array Oper := #[edg6_o0, edg6_o1, edg6_o2, edg6_o3, edg6_o4]
theorem edg6 {r : Int} {z : Bool} (a : Act) (w : World) (Q : Exit → Act → World → Prop) (zz : a.tmps.size = 28)
    (t10 : a.tmps.getD 10 undef = .int .i64 r)
    (hz : decide (r ≥ 0) = z)
    (h : ∀ (a' : Act) (w' : World), w' = w → a' = (((((a).put (some 25) (.int .i64 r)).put (some 26) (.int .i64 r)).put (some 27) (.bool z)).put (some 8) (.int .i64 r)).put (some 9) (.bool z) → Q .normal a' w') :
    (Code.region 6 edg6_ops false).wp Tryz.prog Q a w := by
  refine z0 rfl ?_
  refine zv rfl (xmv rfl (zi t10 rfl)) ?_
  refine zv rfl (xmv rfl (zi t10 rfl)) ?_
  refine zv (v := .bool z) rfl (ex_geq rfl (zg zz rfl) rfl hz) ?_
  refine zv rfl (xas rfl (zg zz rfl)) ?_
  refine zv rfl (xas rfl (zg zz rfl)) ?_
  exact ze rfl (h _ _ (rfl) rfl)
def ixa1_o0 : Oper := ⟨some 8, .move (.tmp 0), 23, "tell.go:73", #[], none⟩
def ixa1_o1 : Oper := ⟨some 9, .move (.tmp 1), 3, "tell.go:73", #[], none⟩
def ixa1_o2 : Oper := ⟨some 10, .call { callee := Callee.value (Operand.func 77), args := #[.tmp 8, .tmp 9], argTypes := #[23, 3] }, 134, "tell.go:73", #[⟨0, .data⟩, ⟨1, .data⟩], none⟩
def ixa1_o3 : Oper := ⟨some 7, .move (.tmp 10), 134, "tell.go:73", #[⟨2, .data⟩], none⟩
def ixa1_o4 : Oper := ⟨some 11, .extract (.tmp 7) 0, 36, "tell.go:73", #[⟨3, .data⟩], none⟩
def ixa1_o5 : Oper := ⟨some 12, .extract (.tmp 7) 1, 4, "tell.go:73", #[⟨3, .data⟩, { on := 7, ground := Ground.gcOnly Departure.lateStores }], none⟩
def ixa1_o6 : Oper := ⟨some 5, .alloc 36, 0, "tell.go:73", #[], none⟩
def ixa1_o7 : Oper := ⟨none, .store 36 (.tmp 5) (.tmp 11), 0, "tell.go:73", #[⟨6, .data⟩, ⟨4, .data⟩, ⟨2, .chain⟩, ⟨0, .phase⟩, ⟨1, .phase⟩, ⟨2, .phase⟩, ⟨3, .phase⟩, ⟨4, .phase⟩, { on := 5, ground := Ground.textOnly Departure.lateStores }, ⟨6, .phase⟩], none⟩
def ixa1_o8 : Oper := ⟨some 6, .assign (.tmp 12), 4, "tell.go:73", #[⟨5, .data⟩, ⟨7, .chain⟩, ⟨0, .phase⟩, ⟨1, .phase⟩, ⟨2, .phase⟩, ⟨3, .phase⟩, ⟨4, .phase⟩, ⟨5, .phase⟩, ⟨6, .phase⟩, ⟨7, .phase⟩], none⟩
def ixa1_ops : Array Oper := #[ixa1_o0, ixa1_o1, ixa1_o2, ixa1_o3, ixa1_o4, ixa1_o5, ixa1_o6, ixa1_o7, ixa1_o8]
theorem ixa1 {sp : Value} {r : Int} {k : IdK} {z : Bool} (Fin : Nat → World → Prop) (a : Act) (w : World) (Q : Exit → Act → World → Prop) (zz : a.tmps.size = 19)
    (t0 : a.tmps.getD 0 undef = sp)
    (t1 : a.tmps.getD 1 undef = .int .i64 r)
    (CA : Calls Tryz.prog 77 #[sp, .int .i64 r] w fun e w' => e = .returned (.tuple #[k.v, .bool z]) ∧ ∃ b1 w1 w2, (Instr.alloc 36 true (.tuple #[])).run Tryz.prog w' = .ok (.pointer (some ⟨b1, 0, none⟩)) w1 ∧ (Instr.storeAt 36 (.pointer (some ⟨b1, 0, none⟩)) k.v).run Tryz.prog w1 = .ok () w2 ∧ Fin b1 w2)
    (h : ∀ (b1 : Nat) (a' : Act) (w' : World), Fin b1 w' → a' = ((((((((a).put (some 8) (sp)).put (some 9) (.int .i64 r)).put (some 10) (.tuple #[k.v, .bool z])).put (some 7) (.tuple #[k.v, .bool z])).put (some 11) (k.v)).put (some 12) (.bool z)).put (some 5) (.pointer (some ⟨b1, 0, none⟩))).put (some 6) (.bool z) → Q .normal a' w') :
    (Code.region 1 ixa1_ops false).wp Tryz.prog Q a w := by
  refine z0 rfl ?_
  refine zv rfl (xmv rfl (zi t0 rfl)) ?_
  refine zv rfl (xmv rfl (zi t1 rfl)) ?_
  refine zc rfl (exec_c2 rfl (zg zz rfl) (zg zz rfl)) (CA) (fun e x2 hx => ?_)
  obtain ⟨rfl, b1, w1, w2, EA, ES, HF⟩ := hx
  replace h := h b1
  refine ⟨_, rfl, ?_⟩
  refine zv rfl (xmv rfl (zg zz rfl)) ?_
  refine zv rfl (exec_extract rfl (zg zz rfl) rfl) ?_
  refine zv rfl (exec_extract rfl (zg zz rfl) rfl) ?_
  refine zv (v := .pointer (some ⟨b1, 0, none⟩)) rfl (exec_alloc rfl EA) ?_
  refine zs rfl (exec_store rfl (zg zz rfl) (zg zz rfl) ES) ?_
  refine zv rfl (xas rfl (zg zz rfl)) ?_
  exact ze rfl (h _ _ (HF) rfl)
def ixa3_o0 : Oper := ⟨some 14, .move (.tmp 0), 23, "tell.go:74", #[], none⟩
def ixa3_o1 : Oper := ⟨some 15, .load 36 (.tmp 5), 36, "tell.go:74", #[], none⟩
def ixa3_o2 : Oper := ⟨some 16, .call { callee := Callee.value (Operand.func 78), args := #[.tmp 14, .tmp 15], argTypes := #[23, 36] }, 3, "tell.go:74", #[⟨0, .data⟩, ⟨1, .data⟩], none⟩
def ixa3_o3 : Oper := ⟨some 4, .assign (.tmp 16), 3, "tell.go:74", #[⟨2, .data⟩, ⟨2, .chain⟩, ⟨0, .phase⟩, ⟨1, .phase⟩, ⟨2, .phase⟩], none⟩
def ixa3_ops : Array Oper := #[ixa3_o0, ixa3_o1, ixa3_o2, ixa3_o3]
theorem ixa3 {sp : Value} {b1 : Nat} {k : IdK} {r : Int} (Fin : World → Prop) (a : Act) (w : World) (Q : Exit → Act → World → Prop) (zz : a.tmps.size = 19)
    (t0 : a.tmps.getD 0 undef = sp)
    (t5 : a.tmps.getD 5 undef = .pointer (some ⟨b1, 0, none⟩))
    (LK : ∀ W, W = w → (Instr.loadAt 36 (.pointer (some ⟨b1, 0, none⟩))).run Tryz.prog W = .ok (k.v) W) (CR : Calls Tryz.prog 78 #[sp, k.v] w fun e w' => e = .returned (.int .i64 r) ∧ Fin w')
    (h : ∀ (a' : Act) (w' : World), Fin w' → a' = ((((a).put (some 14) (sp)).put (some 15) (k.v)).put (some 16) (.int .i64 r)).put (some 4) (.int .i64 r) → Q .normal a' w') :
    (Code.region 3 ixa3_ops false).wp Tryz.prog Q a w := by
  refine z0 rfl ?_
  refine zv rfl (xmv rfl (zi t0 rfl)) ?_
  refine zv rfl (xld rfl (zi t5 rfl) (LK _ rfl)) ?_
  refine zc rfl (exec_c2 rfl (zg zz rfl) (zg zz rfl)) (CR) (fun e x2 hx => ?_)
  obtain ⟨rfl, HF⟩ := hx
  refine ⟨_, rfl, ?_⟩
  refine zv rfl (xas rfl (zg zz rfl)) ?_
  exact ze rfl (h _ _ (HF) rfl)
def rea1_o0 : Oper := ⟨some 11, .move (.tmp 1), 23, "marks.go:104", #[], none⟩
def rea1_o1 : Oper := ⟨some 12, .move (.tmp 0), 160, "marks.go:104", #[], none⟩
def rea1_o2 : Oper := ⟨some 13, .nilCheck (.tmp 12), 0, "marks.go:104", #[⟨1, .data⟩], none⟩
def rea1_o3 : Oper := ⟨some 14, .fieldAddr 95 (.tmp 13) 3, 0, "marks.go:104", #[⟨2, .data⟩], none⟩
def rea1_o4 : Oper := ⟨some 15, .load 36 (.tmp 14), 36, "marks.go:104", #[⟨3, .data⟩], none⟩
def rea1_o5 : Oper := ⟨some 16, .move (.tmp 0), 160, "marks.go:104", #[], none⟩
def rea1_o6 : Oper := ⟨some 17, .nilCheck (.tmp 16), 0, "marks.go:104", #[⟨5, .data⟩], none⟩
def rea1_o7 : Oper := ⟨some 18, .fieldAddr 95 (.tmp 17) 5, 0, "marks.go:104", #[⟨6, .data⟩], none⟩
def rea1_o8 : Oper := ⟨some 19, .load 3 (.tmp 18), 3, "marks.go:104", #[⟨7, .data⟩], none⟩
def rea1_o9 : Oper := ⟨some 20, .binOp BinOp.and 3 (.tmp 19) (Operand.const (Value.int IntKind.i64 1)) 3, 3, "marks.go:104", #[⟨8, .data⟩], none⟩
def rea1_o10 : Oper := ⟨some 21, .binOp BinOp.neq 3 (.tmp 20) (Operand.const (Value.int IntKind.i64 0)) 3, 4, "marks.go:104", #[⟨9, .data⟩], none⟩
def rea1_o11 : Oper := ⟨some 22, .call { callee := Callee.value (Operand.func 102), args := #[.tmp 11, .tmp 15, .tmp 21, Operand.const (Value.int IntKind.i64 0)], argTypes := #[23, 36, 4, 3] }, 161, "marks.go:104", #[⟨0, .data⟩, ⟨4, .data⟩, ⟨10, .data⟩], none⟩
def rea1_o12 : Oper := ⟨some 10, .move (.tmp 22), 161, "marks.go:104", #[⟨11, .data⟩], none⟩
def rea1_o13 : Oper := ⟨some 23, .extract (.tmp 10) 0, 3, "marks.go:104", #[⟨12, .data⟩], none⟩
def rea1_o14 : Oper := ⟨some 24, .extract (.tmp 10) 1, 4, "marks.go:104", #[⟨12, .data⟩, { on := 15, ground := Ground.gcOnly Departure.lateStores }], none⟩
def rea1_o15 : Oper := ⟨some 6, .assign (.tmp 23), 3, "marks.go:104", #[⟨13, .data⟩, ⟨11, .chain⟩, ⟨0, .phase⟩, ⟨1, .phase⟩, ⟨2, .phase⟩, ⟨3, .phase⟩, ⟨4, .phase⟩, ⟨5, .phase⟩, ⟨6, .phase⟩, ⟨7, .phase⟩, ⟨8, .phase⟩, ⟨9, .phase⟩, ⟨10, .phase⟩, ⟨11, .phase⟩, ⟨12, .phase⟩, ⟨13, .phase⟩, { on := 14, ground := Ground.textOnly Departure.lateStores }], none⟩
def rea1_o16 : Oper := ⟨some 7, .assign (.tmp 24), 4, "marks.go:104", #[⟨14, .data⟩, ⟨15, .chain⟩, ⟨0, .phase⟩, ⟨1, .phase⟩, ⟨2, .phase⟩, ⟨3, .phase⟩, ⟨4, .phase⟩, ⟨5, .phase⟩, ⟨6, .phase⟩, ⟨7, .phase⟩, ⟨8, .phase⟩, ⟨9, .phase⟩, ⟨10, .phase⟩, ⟨11, .phase⟩, ⟨12, .phase⟩, ⟨13, .phase⟩, ⟨14, .phase⟩, ⟨15, .phase⟩], none⟩
def rea1_ops : Array Oper := #[rea1_o0, rea1_o1, rea1_o2, rea1_o3, rea1_o4, rea1_o5, rea1_o6, rea1_o7, rea1_o8, rea1_o9, rea1_o10, rea1_o11, rea1_o12, rea1_o13, rea1_o14, rea1_o15, rea1_o16]
theorem rea1 {sp : Value} {b : Nat} {x : MkV} {q f : Int} {r z : Bool} (S : World → Prop) (a : Act) (w : World) (Q : Exit → Act → World → Prop) (zz : a.tmps.size = 50)
    (t0 : a.tmps.getD 0 undef = .pointer (some ⟨b, 0, none⟩))
    (t1 : a.tmps.getD 1 undef = sp)
    (h0 : S w.drew) (hr : decide (q ≠ 0) = r) (HZ : ∀ W, (binOp .and 3 (.int .i64 x.sd) (.int .i64 1)).run Tryz.prog W = .ok (.int .i64 q) W) (LF : ∀ W, S W → (Instr.loadAt 36 (.pointer (some ⟨b, 0 + 38, none⟩))).run Tryz.prog W = .ok (x.fr.v) W) (LS : ∀ W, S W → (Instr.loadAt 3 (.pointer (some ⟨b, 0 + 104, none⟩))).run Tryz.prog W = .ok (.int .i64 x.sd) W) (CE : Calls Tryz.prog 102 #[sp, x.fr.v, .bool r, .int .i64 0] w.drew fun e w' => e = .returned (.tuple #[.int .i64 f, .bool z]) ∧ S w')
    (h : ∀ (a' : Act) (w' : World), S w' → a' = (((((((((((((((((a).put (some 11) (sp)).put (some 12) (.pointer (some ⟨b, 0, none⟩))).put (some 13) (.pointer (some ⟨b, 0, none⟩))).put (some 14) (.pointer (some ⟨b, 0 + 38, none⟩))).put (some 15) (x.fr.v)).put (some 16) (.pointer (some ⟨b, 0, none⟩))).put (some 17) (.pointer (some ⟨b, 0, none⟩))).put (some 18) (.pointer (some ⟨b, 0 + 104, none⟩))).put (some 19) (.int .i64 x.sd)).put (some 20) (.int .i64 q)).put (some 21) (.bool r)).put (some 22) (.tuple #[.int .i64 f, .bool z])).put (some 10) (.tuple #[.int .i64 f, .bool z])).put (some 23) (.int .i64 f)).put (some 24) (.bool z)).put (some 6) (.int .i64 f)).put (some 7) (.bool z) → Q .normal a' w') :
    (Code.region 1 rea1_ops true).wp Tryz.prog Q a w := by
  refine y0 (fun w' => S w') (h0) (fun hHeld => ?_)
  refine yv 0 rfl rfl (fun w1 hw => xmv rfl (zi t1 rfl)) hHeld ?_
  refine yv 1 rfl rfl (fun w1 hw => xmv rfl (zi t0 rfl)) hHeld ?_
  refine yv 2 rfl rfl (fun w1 hw => xnc rfl (zg zz rfl)) hHeld ?_
  refine yv 3 rfl rfl (fun w1 hw => xfa rfl (zg zz rfl) (fg_95_3 _ _ _)) hHeld ?_
  refine yv 4 rfl rfl (fun w1 hw => xld rfl (zg zz rfl) (LF _ hw)) hHeld ?_
  refine yv 5 rfl rfl (fun w1 hw => xmv rfl (zi t0 rfl)) hHeld ?_
  refine yv 6 rfl rfl (fun w1 hw => xnc rfl (zg zz rfl)) hHeld ?_
  refine yv 7 rfl rfl (fun w1 hw => xfa rfl (zg zz rfl) (fg_95_5 _ _ _)) hHeld ?_
  refine yv 8 rfl rfl (fun w1 hw => xld rfl (zg zz rfl) (LS _ hw)) hHeld ?_
  refine yv (v := .int .i64 q) 9 rfl rfl (fun w1 hw => ex_and (HZ _) rfl (zg zz rfl) rfl) hHeld ?_
  refine yv (v := .bool r) 10 rfl rfl (fun w1 hw => ex_neq rfl (zg zz rfl) rfl hr) hHeld ?_
  refine yc 11 rfl rfl (exec_c4 rfl (zg zz rfl) (zg zz rfl) (zg zz rfl) rfl) (CE) (fun e x11 hx => ?_)
  obtain ⟨rfl, S1⟩ := hx
  refine ⟨_, rfl, S1, fun hHeld => ?_⟩
  refine yv 12 rfl rfl (fun w1 hw => xmv rfl (zg zz rfl)) hHeld ?_
  refine yv 13 rfl rfl (fun w1 hw => exec_extract rfl (zg zz rfl) rfl) hHeld ?_
  refine yv 14 rfl rfl (fun w1 hw => exec_extract rfl (zg zz rfl) rfl) hHeld ?_
  refine yv 15 rfl rfl (fun w1 hw => xas rfl (zg zz rfl)) hHeld ?_
  refine yv 16 rfl rfl (fun w1 hw => xas rfl (zg zz rfl)) hHeld ?_
  exact ye rfl (h _ _ (S1) rfl)
def rea2_o0 : Oper := ⟨some 26, .move (.tmp 1), 23, "marks.go:105", #[], none⟩
def rea2_o1 : Oper := ⟨some 27, .move (.tmp 0), 160, "marks.go:105", #[], none⟩
def rea2_o2 : Oper := ⟨some 28, .nilCheck (.tmp 27), 0, "marks.go:105", #[⟨1, .data⟩], none⟩
def rea2_o3 : Oper := ⟨some 29, .fieldAddr 95 (.tmp 28) 4, 0, "marks.go:105", #[⟨2, .data⟩], none⟩
def rea2_o4 : Oper := ⟨some 30, .load 36 (.tmp 29), 36, "marks.go:105", #[⟨3, .data⟩], none⟩
def rea2_o5 : Oper := ⟨some 31, .move (.tmp 0), 160, "marks.go:105", #[], none⟩
def rea2_o6 : Oper := ⟨some 32, .nilCheck (.tmp 31), 0, "marks.go:105", #[⟨5, .data⟩], none⟩
def rea2_o7 : Oper := ⟨some 33, .fieldAddr 95 (.tmp 32) 5, 0, "marks.go:105", #[⟨6, .data⟩], none⟩
def rea2_o8 : Oper := ⟨some 34, .load 3 (.tmp 33), 3, "marks.go:105", #[⟨7, .data⟩], none⟩
def rea2_o9 : Oper := ⟨some 35, .binOp BinOp.and 3 (.tmp 34) (Operand.const (Value.int IntKind.i64 2)) 3, 3, "marks.go:105", #[⟨8, .data⟩], none⟩
def rea2_o10 : Oper := ⟨some 36, .binOp BinOp.neq 3 (.tmp 35) (Operand.const (Value.int IntKind.i64 0)) 3, 4, "marks.go:105", #[⟨9, .data⟩], none⟩
def rea2_o11 : Oper := ⟨some 37, .move (.tmp 1), 23, "marks.go:105", #[], none⟩
def rea2_o12 : Oper := ⟨some 38, .call { callee := Callee.value (Operand.func 103), args := #[.tmp 37], argTypes := #[23] }, 3, "marks.go:105", #[⟨11, .data⟩], none⟩
def rea2_o13 : Oper := ⟨some 39, .call { callee := Callee.value (Operand.func 102), args := #[.tmp 26, .tmp 30, .tmp 36, .tmp 38], argTypes := #[23, 36, 4, 3] }, 161, "marks.go:105", #[⟨0, .data⟩, ⟨4, .data⟩, ⟨10, .data⟩, ⟨12, .data⟩, ⟨12, .chain⟩], none⟩
def rea2_o14 : Oper := ⟨some 25, .move (.tmp 39), 161, "marks.go:105", #[⟨13, .data⟩], none⟩
def rea2_o15 : Oper := ⟨some 40, .extract (.tmp 25) 0, 3, "marks.go:105", #[⟨14, .data⟩], none⟩
def rea2_o16 : Oper := ⟨some 41, .extract (.tmp 25) 1, 4, "marks.go:105", #[⟨14, .data⟩, { on := 17, ground := Ground.gcOnly Departure.lateStores }], none⟩
def rea2_o17 : Oper := ⟨some 8, .assign (.tmp 40), 3, "marks.go:105", #[⟨15, .data⟩, ⟨13, .chain⟩, ⟨0, .phase⟩, ⟨1, .phase⟩, ⟨2, .phase⟩, ⟨3, .phase⟩, ⟨4, .phase⟩, ⟨5, .phase⟩, ⟨6, .phase⟩, ⟨7, .phase⟩, ⟨8, .phase⟩, ⟨9, .phase⟩, ⟨10, .phase⟩, ⟨11, .phase⟩, ⟨12, .phase⟩, ⟨13, .phase⟩, ⟨14, .phase⟩, ⟨15, .phase⟩, { on := 16, ground := Ground.textOnly Departure.lateStores }], none⟩
def rea2_o18 : Oper := ⟨some 9, .assign (.tmp 41), 4, "marks.go:105", #[⟨16, .data⟩, ⟨17, .chain⟩, ⟨0, .phase⟩, ⟨1, .phase⟩, ⟨2, .phase⟩, ⟨3, .phase⟩, ⟨4, .phase⟩, ⟨5, .phase⟩, ⟨6, .phase⟩, ⟨7, .phase⟩, ⟨8, .phase⟩, ⟨9, .phase⟩, ⟨10, .phase⟩, ⟨11, .phase⟩, ⟨12, .phase⟩, ⟨13, .phase⟩, ⟨14, .phase⟩, ⟨15, .phase⟩, ⟨16, .phase⟩, ⟨17, .phase⟩], none⟩
def rea2_ops : Array Oper := #[rea2_o0, rea2_o1, rea2_o2, rea2_o3, rea2_o4, rea2_o5, rea2_o6, rea2_o7, rea2_o8, rea2_o9, rea2_o10, rea2_o11, rea2_o12, rea2_o13, rea2_o14, rea2_o15, rea2_o16, rea2_o17, rea2_o18]
theorem rea2 {sp : Value} {b : Nat} {x : MkV} {q f n : Int} {r z : Bool} (S : World → Prop) (a : Act) (w : World) (Q : Exit → Act → World → Prop) (zz : a.tmps.size = 50)
    (t0 : a.tmps.getD 0 undef = .pointer (some ⟨b, 0, none⟩))
    (t1 : a.tmps.getD 1 undef = sp)
    (h0 : S w.drew) (hr : decide (q ≠ 0) = r) (HZ : ∀ W, (binOp .and 3 (.int .i64 x.sd) (.int .i64 2)).run Tryz.prog W = .ok (.int .i64 q) W) (LT : ∀ W, S W → (Instr.loadAt 36 (.pointer (some ⟨b, 0 + 71, none⟩))).run Tryz.prog W = .ok (x.to.v) W) (LS : ∀ W, S W → (Instr.loadAt 3 (.pointer (some ⟨b, 0 + 104, none⟩))).run Tryz.prog W = .ok (.int .i64 x.sd) W) (CL : Calls Tryz.prog 103 #[sp] w.drew fun e w1 => e = .returned (.int .i64 n) ∧ S w1 ∧ Calls Tryz.prog 102 #[sp, x.to.v, .bool r, .int .i64 n] w1 fun e w' => e = .returned (.tuple #[.int .i64 f, .bool z]) ∧ S w')
    (h : ∀ (a' : Act) (w' : World), S w' → a' = (((((((((((((((((((a).put (some 26) (sp)).put (some 27) (.pointer (some ⟨b, 0, none⟩))).put (some 28) (.pointer (some ⟨b, 0, none⟩))).put (some 29) (.pointer (some ⟨b, 0 + 71, none⟩))).put (some 30) (x.to.v)).put (some 31) (.pointer (some ⟨b, 0, none⟩))).put (some 32) (.pointer (some ⟨b, 0, none⟩))).put (some 33) (.pointer (some ⟨b, 0 + 104, none⟩))).put (some 34) (.int .i64 x.sd)).put (some 35) (.int .i64 q)).put (some 36) (.bool r)).put (some 37) (sp)).put (some 38) (.int .i64 n)).put (some 39) (.tuple #[.int .i64 f, .bool z])).put (some 25) (.tuple #[.int .i64 f, .bool z])).put (some 40) (.int .i64 f)).put (some 41) (.bool z)).put (some 8) (.int .i64 f)).put (some 9) (.bool z) → Q .normal a' w') :
    (Code.region 2 rea2_ops true).wp Tryz.prog Q a w := by
  refine y0 (fun w' => S w') (h0) (fun hHeld => ?_)
  refine yv 0 rfl rfl (fun w1 hw => xmv rfl (zi t1 rfl)) hHeld ?_
  refine yv 1 rfl rfl (fun w1 hw => xmv rfl (zi t0 rfl)) hHeld ?_
  refine yv 2 rfl rfl (fun w1 hw => xnc rfl (zg zz rfl)) hHeld ?_
  refine yv 3 rfl rfl (fun w1 hw => xfa rfl (zg zz rfl) (fg_95_4 _ _ _)) hHeld ?_
  refine yv 4 rfl rfl (fun w1 hw => xld rfl (zg zz rfl) (LT _ hw)) hHeld ?_
  refine yv 5 rfl rfl (fun w1 hw => xmv rfl (zi t0 rfl)) hHeld ?_
  refine yv 6 rfl rfl (fun w1 hw => xnc rfl (zg zz rfl)) hHeld ?_
  refine yv 7 rfl rfl (fun w1 hw => xfa rfl (zg zz rfl) (fg_95_5 _ _ _)) hHeld ?_
  refine yv 8 rfl rfl (fun w1 hw => xld rfl (zg zz rfl) (LS _ hw)) hHeld ?_
  refine yv (v := .int .i64 q) 9 rfl rfl (fun w1 hw => ex_and (HZ _) rfl (zg zz rfl) rfl) hHeld ?_
  refine yv (v := .bool r) 10 rfl rfl (fun w1 hw => ex_neq rfl (zg zz rfl) rfl hr) hHeld ?_
  refine yv 11 rfl rfl (fun w1 hw => xmv rfl (zi t1 rfl)) hHeld ?_
  refine yc 12 rfl rfl (exec_c1 rfl (zg zz rfl)) (CL) (fun e x12 hx => ?_)
  obtain ⟨rfl, S0, CE⟩ := hx
  refine ⟨_, rfl, S0, fun hHeld => ?_⟩
  refine yc 13 rfl rfl (exec_c4 rfl (zg zz rfl) (zg zz rfl) (zg zz rfl) (zg zz rfl)) (CE) (fun e x13 hx => ?_)
  obtain ⟨rfl, S1⟩ := hx
  refine ⟨_, rfl, S1, fun hHeld => ?_⟩
  refine yv 14 rfl rfl (fun w1 hw => xmv rfl (zg zz rfl)) hHeld ?_
  refine yv 15 rfl rfl (fun w1 hw => exec_extract rfl (zg zz rfl) rfl) hHeld ?_
  refine yv 16 rfl rfl (fun w1 hw => exec_extract rfl (zg zz rfl) rfl) hHeld ?_
  refine yv 17 rfl rfl (fun w1 hw => xas rfl (zg zz rfl)) hHeld ?_
  refine yv 18 rfl rfl (fun w1 hw => xas rfl (zg zz rfl)) hHeld ?_
  exact ye rfl (h _ _ (S1) rfl)
def mha1_o0 : Oper := ⟨some 8, .move (.tmp 0), 27, "marks.go:90", #[], none⟩
def mha1_o1 : Oper := ⟨some 9, .nilCheck (.tmp 8), 0, "marks.go:90", #[⟨0, .data⟩], none⟩
def mha1_o2 : Oper := ⟨some 10, .fieldAddr 87 (.tmp 9) 1, 0, "marks.go:90", #[⟨1, .data⟩], none⟩
def mha1_o3 : Oper := ⟨some 11, .load 84 (.tmp 10), 84, "marks.go:90", #[⟨2, .data⟩], none⟩
def mha1_o4 : Oper := ⟨some 12, .load 36 (.tmp 3), 36, "marks.go:90", #[], none⟩
def mha1_o5 : Oper := ⟨some 13, .lookup 84 (.tmp 11) (.tmp 12) true, 125, "marks.go:90", #[⟨3, .data⟩, ⟨4, .data⟩], none⟩
def mha1_o6 : Oper := ⟨some 7, .move (.tmp 13), 125, "marks.go:90", #[⟨5, .data⟩], none⟩
def mha1_o7 : Oper := ⟨some 14, .extract (.tmp 7) 0, 96, "marks.go:90", #[⟨6, .data⟩], none⟩
def mha1_o8 : Oper := ⟨some 15, .extract (.tmp 7) 1, 4, "marks.go:90", #[⟨6, .data⟩, { on := 10, ground := Ground.gcOnly Departure.lateStores }], none⟩
def mha1_o9 : Oper := ⟨some 5, .alloc 96, 0, "marks.go:90", #[], none⟩
def mha1_o10 : Oper := ⟨none, .store 96 (.tmp 5) (.tmp 14), 0, "marks.go:90", #[⟨9, .data⟩, ⟨7, .data⟩, ⟨0, .phase⟩, ⟨1, .phase⟩, ⟨2, .phase⟩, ⟨3, .phase⟩, ⟨4, .phase⟩, ⟨5, .phase⟩, ⟨6, .phase⟩, ⟨7, .phase⟩, { on := 8, ground := Ground.textOnly Departure.lateStores }, ⟨9, .phase⟩], none⟩
def mha1_o11 : Oper := ⟨some 6, .assign (.tmp 15), 4, "marks.go:90", #[⟨8, .data⟩, ⟨10, .chain⟩, ⟨0, .phase⟩, ⟨1, .phase⟩, ⟨2, .phase⟩, ⟨3, .phase⟩, ⟨4, .phase⟩, ⟨5, .phase⟩, ⟨6, .phase⟩, ⟨7, .phase⟩, ⟨8, .phase⟩, ⟨9, .phase⟩, ⟨10, .phase⟩], none⟩
def mha1_ops : Array Oper := #[mha1_o0, mha1_o1, mha1_o2, mha1_o3, mha1_o4, mha1_o5, mha1_o6, mha1_o7, mha1_o8, mha1_o9, mha1_o10, mha1_o11]
theorem mha1 {mb ib b1 eb : Nat} {k : IdK} {r : Bool} {w1 w2 : World} (S : World → Prop) (a : Act) (w : World) (Q : Exit → Act → World → Prop) (zz : a.tmps.size = 17)
    (t0 : a.tmps.getD 0 undef = .pointer (some ⟨mb, 0, none⟩))
    (t3 : a.tmps.getD 3 undef = .pointer (some ⟨b1, 0, none⟩))
    (h0 : S w.drew) (LM : ∀ W, S W → (Instr.loadAt 84 (.pointer (some ⟨mb, 0 + 1, none⟩))).run Tryz.prog W = .ok (.map (some ib)) W) (LK : ∀ W, S W → (Instr.loadAt 36 (.pointer (some ⟨b1, 0, none⟩))).run Tryz.prog W = .ok (k.v) W) (LL : ∀ W, S W → (Instr.lookup 84 (.map (some ib)) k.v true).run Tryz.prog W = .ok (.tuple #[.agg #[], .bool r]) W) (EA : (Instr.alloc 96 true (.tuple #[])).run Tryz.prog w.drew = .ok (.pointer (some ⟨eb, 0, none⟩)) w1) (S1 : S w1) (ES : (Instr.storeAt 96 (.pointer (some ⟨eb, 0, none⟩)) (.agg #[])).run Tryz.prog w1 = .ok () w2) (S2 : S w2)
    (h : ∀ (a' : Act) (w' : World), S w' → a' = (((((((((((a).put (some 8) (.pointer (some ⟨mb, 0, none⟩))).put (some 9) (.pointer (some ⟨mb, 0, none⟩))).put (some 10) (.pointer (some ⟨mb, 0 + 1, none⟩))).put (some 11) (.map (some ib))).put (some 12) (k.v)).put (some 13) (.tuple #[.agg #[], .bool r])).put (some 7) (.tuple #[.agg #[], .bool r])).put (some 14) (.agg #[])).put (some 15) (.bool r)).put (some 5) (.pointer (some ⟨eb, 0, none⟩))).put (some 6) (.bool r) → Q .normal a' w') :
    (Code.region 1 mha1_ops true).wp Tryz.prog Q a w := by
  refine y0 (fun w' => S w') (h0) (fun hHeld => ?_)
  refine yv 0 rfl rfl (fun w1 hw => xmv rfl (zi t0 rfl)) hHeld ?_
  refine yv 1 rfl rfl (fun w1 hw => xnc rfl (zg zz rfl)) hHeld ?_
  refine yv 2 rfl rfl (fun w1 hw => xfa rfl (zg zz rfl) (fg_87_1 _ _ _)) hHeld ?_
  refine yv 3 rfl rfl (fun w1 hw => xld rfl (zg zz rfl) (LM _ hw)) hHeld ?_
  refine yv 4 rfl rfl (fun w1 hw => xld rfl (zi t3 rfl) (LK _ hw)) hHeld ?_
  refine yv (v := .tuple #[.agg #[], .bool r]) 5 rfl rfl (fun w1 hw => exec_lookup rfl (zg zz rfl) (zg zz rfl) (LL _ hw)) hHeld ?_
  refine yv 6 rfl rfl (fun w1 hw => xmv rfl (zg zz rfl)) hHeld ?_
  refine yv 7 rfl rfl (fun w1 hw => exec_extract rfl (zg zz rfl) rfl) hHeld ?_
  refine yv 8 rfl rfl (fun w1 hw => exec_extract rfl (zg zz rfl) rfl) hHeld ?_
  refine yr (v := .pointer (some ⟨eb, 0, none⟩)) 9 rfl rfl (exec_alloc rfl EA) (S1) (fun hHeld => ?_)
  refine ys 10 rfl rfl (exec_store rfl (zg zz rfl) (zg zz rfl) ES) (S2) (fun hHeld => ?_)
  refine yv 11 rfl rfl (fun w1 hw => xas rfl (zg zz rfl)) hHeld ?_
  exact ye rfl (h _ _ (S2) rfl)
def mad3a_o0 : Oper := ⟨some 19, .fieldAddr 36 (.tmp 8) 1, 0, "marks.go:53", #[], none⟩
def mad3a_o1 : Oper := ⟨some 20, .load 3 (.tmp 19), 3, "marks.go:53", #[⟨0, .data⟩], none⟩
def mad3a_o2 : Oper := ⟨some 21, .binOp BinOp.lss 3 (.tmp 20) (Operand.const (Value.int IntKind.i64 1)) 3, 4, "marks.go:53", #[⟨1, .data⟩], none⟩
def mad3a_o3 : Oper := ⟨some 22, .move (.tmp 21), 4, "marks.go:53", #[⟨2, .data⟩], none⟩
def mad3a_o4 : Oper := ⟨some 23, .move (.tmp 6), 3, "marks.go:53", #[⟨3, .guard⟩], some (3, false)⟩
def mad3a_o5 : Oper := ⟨some 24, .binOp BinOp.lss 3 (.tmp 23) (Operand.const (Value.int IntKind.i64 0)) 3, 4, "marks.go:53", #[⟨4, .data⟩, ⟨3, .guard⟩], some (3, false)⟩
def mad3a_o6 : Oper := ⟨some 25, .pick (.tmp 22) (Operand.const (Value.bool true)) (.tmp 24), 4, "marks.go:53", #[⟨3, .data⟩, ⟨5, .data⟩], none⟩
def mad3a_o7 : Oper := ⟨some 26, .move (.tmp 25), 4, "marks.go:53", #[⟨6, .data⟩, ⟨3, .chain⟩], none⟩
def mad3a_o8 : Oper := ⟨some 27, .move (.tmp 6), 3, "marks.go:53", #[⟨7, .guard⟩], some (7, false)⟩
def mad3a_o9 : Oper := ⟨some 28, .binOp BinOp.gtr 3 (.tmp 27) (Operand.const (Value.int IntKind.i64 3)) 3, 4, "marks.go:53", #[⟨8, .data⟩, ⟨7, .guard⟩], some (7, false)⟩
def mad3a_o10 : Oper := ⟨some 29, .pick (.tmp 26) (Operand.const (Value.bool true)) (.tmp 28), 4, "marks.go:53", #[⟨7, .data⟩, ⟨9, .data⟩], none⟩
def mad3a_o11 : Oper := ⟨some 18, .assign (.tmp 29), 4, "marks.go:53", #[⟨10, .data⟩, ⟨7, .chain⟩], none⟩
def mad3a_ops : Array Oper := #[mad3a_o0, mad3a_o1, mad3a_o2, mad3a_o3, mad3a_o4, mad3a_o5, mad3a_o6, mad3a_o7, mad3a_o8, mad3a_o9, mad3a_o10, mad3a_o11]
theorem mad3a {b1 : Nat} {k : IdK} (a : Act) (w : World) (Q : Exit → Act → World → Prop) (zz : a.tmps.size = 70)
    (t8 : a.tmps.getD 8 undef = .pointer (some ⟨b1, 0, none⟩))
    (hn : decide (k.n < 1) = true) (LN : ∀ W, W = w → (Instr.loadAt 3 (.pointer (some ⟨b1, 0 + 32, none⟩))).run Tryz.prog W = .ok (.int .i64 k.n) W)
    (h : ∀ (a' : Act) (w' : World), w' = w → a' = ((((((((((((a).put (some 19) (.pointer (some ⟨b1, 0 + 32, none⟩))).put (some 20) (.int .i64 k.n)).put (some 21) (.bool true)).put (some 22) (.bool true)).put (some 23) (undef)).put (some 24) (undef)).put (some 25) (.bool true)).put (some 26) (.bool true)).put (some 27) (undef)).put (some 28) (undef)).put (some 29) (.bool true)).put (some 18) (.bool true) → Q .normal a' w') :
    (Code.region 3 mad3a_ops false).wp Tryz.prog Q a w := by
  refine z0 rfl ?_
  refine zv rfl (xfa rfl (zi t8 rfl) (fg_36_1 _ _ _)) ?_
  refine zv rfl (xld rfl (zg zz rfl) (LN _ rfl)) ?_
  refine zv (v := .bool true) rfl (ex_lss rfl (zg zz rfl) rfl hn) ?_
  refine zv rfl (xmv rfl (zg zz rfl)) ?_
  refine zn (zx zz rfl rfl rfl (zg zz rfl)) ?_
  refine zn (zx zz rfl rfl rfl (zg zz rfl)) ?_
  refine zv rfl (exec_pickT rfl (zg zz rfl) rfl) ?_
  refine zv rfl (xmv rfl (zg zz rfl)) ?_
  refine zn (zx zz rfl rfl rfl (zg zz rfl)) ?_
  refine zn (zx zz rfl rfl rfl (zg zz rfl)) ?_
  refine zv rfl (exec_pickT rfl (zg zz rfl) rfl) ?_
  refine zv rfl (xas rfl (zg zz rfl)) ?_
  exact ze rfl (h _ _ (rfl) rfl)
theorem mad3b {b1 : Nat} {k : IdK} {sd : Int} (a : Act) (w : World) (Q : Exit → Act → World → Prop) (zz : a.tmps.size = 70)
    (t8 : a.tmps.getD 8 undef = .pointer (some ⟨b1, 0, none⟩))
    (t6 : a.tmps.getD 6 undef = .int .i64 sd)
    (hn : decide (k.n < 1) = false) (h1 : decide (sd < 0) = true) (LN : ∀ W, W = w → (Instr.loadAt 3 (.pointer (some ⟨b1, 0 + 32, none⟩))).run Tryz.prog W = .ok (.int .i64 k.n) W)
    (h : ∀ (a' : Act) (w' : World), w' = w → a' = ((((((((((((a).put (some 19) (.pointer (some ⟨b1, 0 + 32, none⟩))).put (some 20) (.int .i64 k.n)).put (some 21) (.bool false)).put (some 22) (.bool false)).put (some 23) (.int .i64 sd)).put (some 24) (.bool true)).put (some 25) (.bool true)).put (some 26) (.bool true)).put (some 27) (undef)).put (some 28) (undef)).put (some 29) (.bool true)).put (some 18) (.bool true) → Q .normal a' w') :
    (Code.region 3 mad3a_ops false).wp Tryz.prog Q a w := by
  refine z0 rfl ?_
  refine zv rfl (xfa rfl (zi t8 rfl) (fg_36_1 _ _ _)) ?_
  refine zv rfl (xld rfl (zg zz rfl) (LN _ rfl)) ?_
  refine zv (v := .bool false) rfl (ex_lss rfl (zg zz rfl) rfl hn) ?_
  refine zv rfl (xmv rfl (zg zz rfl)) ?_
  refine zv (zw zz rfl rfl rfl (zg zz rfl)) (xmv rfl (zi t6 rfl)) ?_
  refine zv (v := .bool true) (zw zz rfl rfl rfl (zg zz rfl)) (ex_lss rfl (zg zz rfl) rfl h1) ?_
  refine zv rfl (exec_pickF rfl (zg zz rfl) (zg zz rfl)) ?_
  refine zv rfl (xmv rfl (zg zz rfl)) ?_
  refine zn (zx zz rfl rfl rfl (zg zz rfl)) ?_
  refine zn (zx zz rfl rfl rfl (zg zz rfl)) ?_
  refine zv rfl (exec_pickT rfl (zg zz rfl) rfl) ?_
  refine zv rfl (xas rfl (zg zz rfl)) ?_
  exact ze rfl (h _ _ (rfl) rfl)
theorem mad3c {b1 : Nat} {k : IdK} {sd : Int} {r : Bool} (a : Act) (w : World) (Q : Exit → Act → World → Prop) (zz : a.tmps.size = 70)
    (t8 : a.tmps.getD 8 undef = .pointer (some ⟨b1, 0, none⟩))
    (t6 : a.tmps.getD 6 undef = .int .i64 sd)
    (hn : decide (k.n < 1) = false) (h1 : decide (sd < 0) = false) (h2 : decide (sd > 3) = r) (LN : ∀ W, W = w → (Instr.loadAt 3 (.pointer (some ⟨b1, 0 + 32, none⟩))).run Tryz.prog W = .ok (.int .i64 k.n) W)
    (h : ∀ (a' : Act) (w' : World), w' = w → a' = ((((((((((((a).put (some 19) (.pointer (some ⟨b1, 0 + 32, none⟩))).put (some 20) (.int .i64 k.n)).put (some 21) (.bool false)).put (some 22) (.bool false)).put (some 23) (.int .i64 sd)).put (some 24) (.bool false)).put (some 25) (.bool false)).put (some 26) (.bool false)).put (some 27) (.int .i64 sd)).put (some 28) (.bool r)).put (some 29) (.bool r)).put (some 18) (.bool r) → Q .normal a' w') :
    (Code.region 3 mad3a_ops false).wp Tryz.prog Q a w := by
  refine z0 rfl ?_
  refine zv rfl (xfa rfl (zi t8 rfl) (fg_36_1 _ _ _)) ?_
  refine zv rfl (xld rfl (zg zz rfl) (LN _ rfl)) ?_
  refine zv (v := .bool false) rfl (ex_lss rfl (zg zz rfl) rfl hn) ?_
  refine zv rfl (xmv rfl (zg zz rfl)) ?_
  refine zv (zw zz rfl rfl rfl (zg zz rfl)) (xmv rfl (zi t6 rfl)) ?_
  refine zv (v := .bool false) (zw zz rfl rfl rfl (zg zz rfl)) (ex_lss rfl (zg zz rfl) rfl h1) ?_
  refine zv rfl (exec_pickF rfl (zg zz rfl) (zg zz rfl)) ?_
  refine zv rfl (xmv rfl (zg zz rfl)) ?_
  refine zv (zw zz rfl rfl rfl (zg zz rfl)) (xmv rfl (zi t6 rfl)) ?_
  refine zv (v := .bool r) (zw zz rfl rfl rfl (zg zz rfl)) (ex_gtr rfl (zg zz rfl) rfl h2) ?_
  refine zv rfl (exec_pickF rfl (zg zz rfl) (zg zz rfl)) ?_
  refine zv rfl (xas rfl (zg zz rfl)) ?_
  exact ze rfl (h _ _ (rfl) rfl)
def mad5_o0 : Oper := ⟨some 31, .move (.tmp 0), 27, "marks.go:55", #[], none⟩
def mad5_o1 : Oper := ⟨some 32, .load 36 (.tmp 8), 36, "marks.go:55", #[], none⟩
def mad5_o2 : Oper := ⟨some 33, .call { callee := Callee.value (Operand.func 39), args := #[.tmp 31, .tmp 32], argTypes := #[27, 36] }, 4, "marks.go:55", #[⟨0, .data⟩, ⟨1, .data⟩], none⟩
def mad5_o3 : Oper := ⟨some 30, .assign (.tmp 33), 4, "marks.go:55", #[⟨2, .data⟩, ⟨2, .chain⟩], none⟩
def mad5_ops : Array Oper := #[mad5_o0, mad5_o1, mad5_o2, mad5_o3]
theorem mad5 {mb b1 : Nat} {k : IdK} {r : Bool} (Fin : World → Prop) (a : Act) (w : World) (Q : Exit → Act → World → Prop) (zz : a.tmps.size = 70)
    (t0 : a.tmps.getD 0 undef = .pointer (some ⟨mb, 0, none⟩))
    (t8 : a.tmps.getD 8 undef = .pointer (some ⟨b1, 0, none⟩))
    (LK : ∀ W, W = w → (Instr.loadAt 36 (.pointer (some ⟨b1, 0, none⟩))).run Tryz.prog W = .ok (k.v) W) (CH : Calls Tryz.prog 39 #[.pointer (some ⟨mb, 0, none⟩), k.v] w fun e w' => e = .returned (.bool r) ∧ Fin w')
    (h : ∀ (a' : Act) (w' : World), Fin w' → a' = ((((a).put (some 31) (.pointer (some ⟨mb, 0, none⟩))).put (some 32) (k.v)).put (some 33) (.bool r)).put (some 30) (.bool r) → Q .normal a' w') :
    (Code.region 5 mad5_ops false).wp Tryz.prog Q a w := by
  refine z0 rfl ?_
  refine zv rfl (xmv rfl (zi t0 rfl)) ?_
  refine zv rfl (xld rfl (zi t8 rfl) (LK _ rfl)) ?_
  refine zc rfl (exec_c2 rfl (zg zz rfl) (zg zz rfl)) (CH) (fun e x2 hx => ?_)
  obtain ⟨rfl, HF⟩ := hx
  refine ⟨_, rfl, ?_⟩
  refine zv rfl (xas rfl (zg zz rfl)) ?_
  exact ze rfl (h _ _ (HF) rfl)
def mad7_o0 : Oper := ⟨some 35, .move (.tmp 2), 9, "marks.go:57", #[], none⟩
def mad7_o1 : Oper := ⟨some 36, .call { callee := Callee.value (Operand.func 40), args := #[.tmp 35], argTypes := #[9] }, 4, "marks.go:57", #[⟨0, .data⟩], none⟩
def mad7_o2 : Oper := ⟨some 37, .unOp UnOp.not 4 (.tmp 36), 4, "marks.go:57", #[⟨1, .data⟩], none⟩
def mad7_o3 : Oper := ⟨some 34, .assign (.tmp 37), 4, "marks.go:57", #[⟨2, .data⟩, ⟨1, .chain⟩], none⟩
def mad7_ops : Array Oper := #[mad7_o0, mad7_o1, mad7_o2, mad7_o3]
theorem mad7 {nm : ByteArray} {r : Bool} (Fin : World → Prop) (a : Act) (w : World) (Q : Exit → Act → World → Prop) (zz : a.tmps.size = 70)
    (t2 : a.tmps.getD 2 undef = .string nm)
    (CK : Calls Tryz.prog 40 #[.string nm] w fun e w' => e = .returned (.bool r) ∧ Fin w')
    (h : ∀ (a' : Act) (w' : World), Fin w' → a' = ((((a).put (some 35) (.string nm)).put (some 36) (.bool r)).put (some 37) (.bool (!r))).put (some 34) (.bool (!r)) → Q .normal a' w') :
    (Code.region 7 mad7_ops false).wp Tryz.prog Q a w := by
  refine z0 rfl ?_
  refine zv rfl (xmv rfl (zi t2 rfl)) ?_
  refine zc rfl (exec_c1 rfl (zg zz rfl)) (CK) (fun e x1 hx => ?_)
  obtain ⟨rfl, HF⟩ := hx
  refine ⟨_, rfl, ?_⟩
  refine zv rfl (exec_not rfl (zg zz rfl)) ?_
  refine zv rfl (xas rfl (zg zz rfl)) ?_
  exact ze rfl (h _ _ (HF) rfl)
def mad9a_o0 : Oper := ⟨some 39, .load 40 (.tmp 10), 40, "marks.go:59", #[], none⟩
def mad9a_o1 : Oper := ⟨some 40, .call { callee := Callee.value (Operand.func 41), args := #[.tmp 39], argTypes := #[40] }, 43, "marks.go:59", #[⟨0, .data⟩], none⟩
def mad9a_o2 : Oper := ⟨some 41, .binOp BinOp.neq 43 (.tmp 40) (Operand.const (Value.int IntKind.i64 0)) 43, 4, "marks.go:59", #[⟨1, .data⟩], none⟩
def mad9a_o3 : Oper := ⟨some 42, .move (.tmp 41), 4, "marks.go:59", #[⟨2, .data⟩, ⟨1, .chain⟩], none⟩
def mad9a_o4 : Oper := ⟨some 43, .fieldAddr 40 (.tmp 10) 0, 0, "marks.go:59", #[⟨3, .guard⟩], some (3, false)⟩
def mad9a_o5 : Oper := ⟨some 44, .load 37 (.tmp 43), 37, "marks.go:59", #[⟨4, .data⟩, ⟨3, .guard⟩], some (3, false)⟩
def mad9a_o6 : Oper := ⟨some 45, .call { callee := Callee.value (Operand.func 42), args := #[.tmp 44], argTypes := #[37] }, 4, "marks.go:59", #[⟨5, .data⟩, ⟨3, .chain⟩, ⟨3, .guard⟩], some (3, false)⟩
def mad9a_o7 : Oper := ⟨some 46, .unOp UnOp.not 4 (.tmp 45), 4, "marks.go:59", #[⟨6, .data⟩, ⟨3, .guard⟩], some (3, false)⟩
def mad9a_o8 : Oper := ⟨some 47, .pick (.tmp 42) (Operand.const (Value.bool true)) (.tmp 46), 4, "marks.go:59", #[⟨3, .data⟩, ⟨7, .data⟩], none⟩
def mad9a_o9 : Oper := ⟨some 38, .assign (.tmp 47), 4, "marks.go:59", #[⟨8, .data⟩, ⟨6, .chain⟩], none⟩
def mad9a_ops : Array Oper := #[mad9a_o0, mad9a_o1, mad9a_o2, mad9a_o3, mad9a_o4, mad9a_o5, mad9a_o6, mad9a_o7, mad9a_o8, mad9a_o9]
theorem mad9a {b2 : Nat} {x : VaV} {z : Int} (Fin : World → Prop) (a : Act) (w : World) (Q : Exit → Act → World → Prop) (zz : a.tmps.size = 70)
    (t10 : a.tmps.getD 10 undef = .pointer (some ⟨b2, 0, none⟩))
    (hz : decide (z ≠ 0) = true) (LV : ∀ W, W = w → (Instr.loadAt 40 (.pointer (some ⟨b2, 0, none⟩))).run Tryz.prog W = .ok (x.v) W) (CR : Calls Tryz.prog 41 #[x.v] w fun e w' => e = .returned (.int .i64 z) ∧ Fin w')
    (h : ∀ (a' : Act) (w' : World), Fin w' → a' = ((((((((((a).put (some 39) (x.v)).put (some 40) (.int .i64 z)).put (some 41) (.bool true)).put (some 42) (.bool true)).put (some 43) (undef)).put (some 44) (undef)).put (some 45) (undef)).put (some 46) (undef)).put (some 47) (.bool true)).put (some 38) (.bool true) → Q .normal a' w') :
    (Code.region 9 mad9a_ops false).wp Tryz.prog Q a w := by
  refine z0 rfl ?_
  refine zv rfl (xld rfl (zi t10 rfl) (LV _ rfl)) ?_
  refine zc rfl (exec_c1 rfl (zg zz rfl)) (CR) (fun e x1 hx => ?_)
  obtain ⟨rfl, HF⟩ := hx
  refine ⟨_, rfl, ?_⟩
  refine zv (v := .bool true) rfl (ex_neqE rfl (zg zz rfl) rfl hz) ?_
  refine zv rfl (xmv rfl (zg zz rfl)) ?_
  refine zn (zx zz rfl rfl rfl (zg zz rfl)) ?_
  refine zn (zx zz rfl rfl rfl (zg zz rfl)) ?_
  refine zn (zx zz rfl rfl rfl (zg zz rfl)) ?_
  refine zn (zx zz rfl rfl rfl (zg zz rfl)) ?_
  refine zv rfl (exec_pickT rfl (zg zz rfl) rfl) ?_
  refine zv rfl (xas rfl (zg zz rfl)) ?_
  exact ze rfl (h _ _ (HF) rfl)
theorem mad9b {b2 : Nat} {x : VaV} {z : Int} {r : Bool} (Fin : World → Prop) (a : Act) (w : World) (Q : Exit → Act → World → Prop) (zz : a.tmps.size = 70)
    (t10 : a.tmps.getD 10 undef = .pointer (some ⟨b2, 0, none⟩))
    (hz : decide (z ≠ 0) = false) (LV : ∀ W, W = w → (Instr.loadAt 40 (.pointer (some ⟨b2, 0, none⟩))).run Tryz.prog W = .ok (x.v) W) (CR : Calls Tryz.prog 41 #[x.v] w fun e w' => e = .returned (.int .i64 z) ∧ (Instr.loadAt 37 (.pointer (some ⟨b2, 0 + 0, none⟩))).run Tryz.prog w' = .ok (.int .u8 x.k) w' ∧ Calls Tryz.prog 42 #[.int .u8 x.k] w' fun e w2 => e = .returned (.bool r) ∧ Fin w2)
    (h : ∀ (a' : Act) (w' : World), Fin w' → a' = ((((((((((a).put (some 39) (x.v)).put (some 40) (.int .i64 z)).put (some 41) (.bool false)).put (some 42) (.bool false)).put (some 43) (.pointer (some ⟨b2, 0 + 0, none⟩))).put (some 44) (.int .u8 x.k)).put (some 45) (.bool r)).put (some 46) (.bool (!r))).put (some 47) (.bool (!r))).put (some 38) (.bool (!r)) → Q .normal a' w') :
    (Code.region 9 mad9a_ops false).wp Tryz.prog Q a w := by
  refine z0 rfl ?_
  refine zv rfl (xld rfl (zi t10 rfl) (LV _ rfl)) ?_
  refine zc rfl (exec_c1 rfl (zg zz rfl)) (CR) (fun e x1 hx => ?_)
  obtain ⟨rfl, LKD, CS⟩ := hx
  refine ⟨_, rfl, ?_⟩
  refine zv (v := .bool false) rfl (ex_neqE rfl (zg zz rfl) rfl hz) ?_
  refine zv rfl (xmv rfl (zg zz rfl)) ?_
  refine zv (zw zz rfl rfl rfl (zg zz rfl)) (xfa rfl (zi t10 rfl) (fg_40_0 _ _ _)) ?_
  refine zv (zw zz rfl rfl rfl (zg zz rfl)) (xld rfl (zg zz rfl) LKD) ?_
  refine zc (zw zz rfl rfl rfl (zg zz rfl)) (exec_c1 rfl (zg zz rfl)) (CS) (fun e x6 hx => ?_)
  obtain ⟨rfl, HF⟩ := hx
  refine ⟨_, rfl, ?_⟩
  refine zv (zw zz rfl rfl rfl (zg zz rfl)) (exec_not rfl (zg zz rfl)) ?_
  refine zv rfl (exec_pickF rfl (zg zz rfl) (zg zz rfl)) ?_
  refine zv rfl (xas rfl (zg zz rfl)) ?_
  exact ze rfl (h _ _ (HF) rfl)
def mad11_o0 : Oper := ⟨some 48, .move (.tmp 0), 27, "marks.go:62", #[], none⟩
def mad11_o1 : Oper := ⟨some 49, .move (.tmp 0), 27, "marks.go:62", #[], none⟩
def mad11_o2 : Oper := ⟨some 50, .nilCheck (.tmp 49), 0, "marks.go:62", #[⟨1, .data⟩], none⟩
def mad11_o3 : Oper := ⟨some 51, .fieldAddr 87 (.tmp 50) 0, 0, "marks.go:62", #[⟨2, .data⟩], none⟩
def mad11_o4 : Oper := ⟨some 52, .load 85 (.tmp 51), 85, "marks.go:62", #[⟨3, .data⟩], none⟩
def mad11_o5 : Oper := ⟨some 53, .load 36 (.tmp 8), 36, "marks.go:62", #[], none⟩
def mad11_o6 : Oper := ⟨some 54, .move (.tmp 2), 9, "marks.go:62", #[], none⟩
def mad11_o7 : Oper := ⟨some 55, .load 40 (.tmp 10), 40, "marks.go:62", #[], none⟩
def mad11_o8 : Oper := ⟨some 56, .load 36 (.tmp 11), 36, "marks.go:62", #[], none⟩
def mad11_o9 : Oper := ⟨some 57, .load 36 (.tmp 12), 36, "marks.go:62", #[], none⟩
def mad11_o10 : Oper := ⟨some 58, .move (.tmp 6), 3, "marks.go:62", #[], none⟩
def mad11_o11 : Oper := ⟨some 59, .build 95 #[(0, .tmp 53), (1, .tmp 54), (2, .tmp 55), (3, .tmp 56), (4, .tmp 57), (5, .tmp 58)], 95, "marks.go:62", #[⟨5, .data⟩, ⟨6, .data⟩, ⟨7, .data⟩, ⟨8, .data⟩, ⟨9, .data⟩, ⟨10, .data⟩], none⟩
def mad11_o12 : Oper := ⟨some 60, .buildSlice 85 1 #[(0, .tmp 59)], 85, "marks.go:62", #[⟨11, .data⟩], none⟩
def mad11_o13 : Oper := ⟨some 61, .call { callee := Callee.builtin Builtin.append, args := #[.tmp 52, .tmp 60], argTypes := #[85, 85] }, 85, "marks.go:62", #[⟨4, .data⟩, ⟨12, .data⟩], none⟩
def mad11_o14 : Oper := ⟨some 62, .nilCheck (.tmp 48), 0, "marks.go:62", #[⟨0, .data⟩, ⟨0, .phase⟩, ⟨1, .phase⟩, ⟨2, .phase⟩, ⟨3, .phase⟩, ⟨4, .phase⟩, ⟨5, .phase⟩, ⟨6, .phase⟩, ⟨7, .phase⟩, ⟨8, .phase⟩, ⟨9, .phase⟩, ⟨10, .phase⟩, ⟨11, .phase⟩, ⟨12, .phase⟩, ⟨13, .phase⟩], none⟩
def mad11_o15 : Oper := ⟨some 63, .fieldAddr 87 (.tmp 62) 0, 0, "marks.go:62", #[⟨14, .data⟩, ⟨0, .phase⟩, ⟨1, .phase⟩, ⟨2, .phase⟩, ⟨3, .phase⟩, ⟨4, .phase⟩, ⟨5, .phase⟩, ⟨6, .phase⟩, ⟨7, .phase⟩, ⟨8, .phase⟩, ⟨9, .phase⟩, ⟨10, .phase⟩, ⟨11, .phase⟩, ⟨12, .phase⟩, ⟨13, .phase⟩], none⟩
def mad11_o16 : Oper := ⟨none, .store 85 (.tmp 63) (.tmp 61), 0, "marks.go:62", #[⟨15, .data⟩, ⟨13, .data⟩, ⟨13, .chain⟩, ⟨0, .phase⟩, ⟨1, .phase⟩, ⟨2, .phase⟩, ⟨3, .phase⟩, ⟨4, .phase⟩, ⟨5, .phase⟩, ⟨6, .phase⟩, ⟨7, .phase⟩, ⟨8, .phase⟩, ⟨9, .phase⟩, ⟨10, .phase⟩, ⟨11, .phase⟩, ⟨12, .phase⟩, ⟨13, .phase⟩], none⟩
def mad11_ops : Array Oper := #[mad11_o0, mad11_o1, mad11_o2, mad11_o3, mad11_o4, mad11_o5, mad11_o6, mad11_o7, mad11_o8, mad11_o9, mad11_o10, mad11_o11, mad11_o12, mad11_o13, mad11_o14, mad11_o15, mad11_o16]
theorem mad11 {mb b1 b2 b3 b4 : Nat} {x : MkV} {lv sv v2 : Value} {w1 w2 w3 : World} (S : World → Prop) (a : Act) (w : World) (Q : Exit → Act → World → Prop) (zz : a.tmps.size = 70)
    (t0 : a.tmps.getD 0 undef = .pointer (some ⟨mb, 0, none⟩))
    (t2 : a.tmps.getD 2 undef = .string x.nm)
    (t6 : a.tmps.getD 6 undef = .int .i64 x.sd)
    (t8 : a.tmps.getD 8 undef = .pointer (some ⟨b1, 0, none⟩))
    (t10 : a.tmps.getD 10 undef = .pointer (some ⟨b2, 0, none⟩))
    (t11 : a.tmps.getD 11 undef = .pointer (some ⟨b3, 0, none⟩))
    (t12 : a.tmps.getD 12 undef = .pointer (some ⟨b4, 0, none⟩))
    (h0 : S w.drew) (L0 : ∀ W, S W → (Instr.loadAt 85 (.pointer (some ⟨mb, 0 + 0, none⟩))).run Tryz.prog W = .ok (lv) W) (L1 : ∀ W, S W → (Instr.loadAt 36 (.pointer (some ⟨b1, 0, none⟩))).run Tryz.prog W = .ok (x.id.v) W) (L2 : ∀ W, S W → (Instr.loadAt 40 (.pointer (some ⟨b2, 0, none⟩))).run Tryz.prog W = .ok (x.v.v) W) (L3 : ∀ W, S W → (Instr.loadAt 36 (.pointer (some ⟨b3, 0, none⟩))).run Tryz.prog W = .ok (x.fr.v) W) (L4 : ∀ W, S W → (Instr.loadAt 36 (.pointer (some ⟨b4, 0, none⟩))).run Tryz.prog W = .ok (x.to.v) W) (HB : ∀ W, (Instr.build 95 #[(0, x.id.v), (1, .string x.nm), (2, x.v.v), (3, x.fr.v), (4, x.to.v), (5, .int .i64 x.sd)]).run Tryz.prog W = .ok x.a W) (E1 : (Instr.buildSlice 85 1 #[(0, x.a)]).run Tryz.prog w.drew = .ok sv w1) (S1 : S w1) (E2 : (Builtin.append_ #[85, 85] 85 #[lv, sv]).run Tryz.prog w1 = .ok v2 w2) (S2 : S w2) (E3 : (Instr.storeAt 85 (.pointer (some ⟨mb, 0 + 0, none⟩)) v2).run Tryz.prog w2 = .ok () w3)
    (h : ∀ (a' : Act) (w' : World), w' = w3 → a' = ((((((((((((((((a).put (some 48) (.pointer (some ⟨mb, 0, none⟩))).put (some 49) (.pointer (some ⟨mb, 0, none⟩))).put (some 50) (.pointer (some ⟨mb, 0, none⟩))).put (some 51) (.pointer (some ⟨mb, 0 + 0, none⟩))).put (some 52) (lv)).put (some 53) (x.id.v)).put (some 54) (.string x.nm)).put (some 55) (x.v.v)).put (some 56) (x.fr.v)).put (some 57) (x.to.v)).put (some 58) (.int .i64 x.sd)).put (some 59) (x.a)).put (some 60) (sv)).put (some 61) (v2)).put (some 62) (.pointer (some ⟨mb, 0, none⟩))).put (some 63) (.pointer (some ⟨mb, 0 + 0, none⟩)) → Q .normal a' w') :
    (Code.region 11 mad11_ops true).wp Tryz.prog Q a w := by
  refine x0 16 (fun w' => S w') (h0) (fun hHeld => ?_)
  refine xv 0 rfl rfl (fun w1 hw => xmv rfl (zi t0 rfl)) hHeld ?_
  refine xv 1 rfl rfl (fun w1 hw => xmv rfl (zi t0 rfl)) hHeld ?_
  refine xv 2 rfl rfl (fun w1 hw => xnc rfl (zg zz rfl)) hHeld ?_
  refine xv 3 rfl rfl (fun w1 hw => xfa rfl (zg zz rfl) (fg_87_0 _ _ _)) hHeld ?_
  refine xv 4 rfl rfl (fun w1 hw => xld rfl (zg zz rfl) (L0 _ hw)) hHeld ?_
  refine xv 5 rfl rfl (fun w1 hw => xld rfl (zi t8 rfl) (L1 _ hw)) hHeld ?_
  refine xv 6 rfl rfl (fun w1 hw => xmv rfl (zi t2 rfl)) hHeld ?_
  refine xv 7 rfl rfl (fun w1 hw => xld rfl (zi t10 rfl) (L2 _ hw)) hHeld ?_
  refine xv 8 rfl rfl (fun w1 hw => xld rfl (zi t11 rfl) (L3 _ hw)) hHeld ?_
  refine xv 9 rfl rfl (fun w1 hw => xld rfl (zi t12 rfl) (L4 _ hw)) hHeld ?_
  refine xv 10 rfl rfl (fun w1 hw => xmv rfl (zi t6 rfl)) hHeld ?_
  refine xv 11 rfl rfl (fun w1 hw => exec_build6 rfl (zg zz rfl) (zg zz rfl) (zg zz rfl) (zg zz rfl) (zg zz rfl) (zg zz rfl) (HB _)) hHeld ?_
  refine xr (v := sv) 12 rfl rfl (exec_buildSlice rfl (zg zz rfl) E1) (fun _ => S1) (fun hHeld => ?_)
  replace hHeld := hHeld (by decide)
  refine xr (v := v2) 13 rfl rfl (exec_append rfl (zg zz rfl) (zg zz rfl) E2) (fun _ => S2) (fun hHeld => ?_)
  replace hHeld := hHeld (by decide)
  refine xv 14 rfl rfl (fun w1 hw => xnc rfl (zg zz rfl)) hHeld ?_
  refine xv 15 rfl rfl (fun w1 hw => xfa rfl (zg zz rfl) (fg_87_0 _ _ _)) hHeld ?_
  refine xs 16 rfl rfl (exec_store rfl (zg zz rfl) (zg zz rfl) E3) (fun hne => absurd rfl hne) (fun _ => ?_)
  exact xe rfl (h _ _ (rfl) rfl)
def mad12_o0 : Oper := ⟨some 64, .move (.tmp 0), 27, "marks.go:63", #[], none⟩
def mad12_o1 : Oper := ⟨some 65, .nilCheck (.tmp 64), 0, "marks.go:63", #[⟨0, .data⟩], none⟩
def mad12_o2 : Oper := ⟨some 66, .fieldAddr 87 (.tmp 65) 1, 0, "marks.go:63", #[⟨1, .data⟩], none⟩
def mad12_o3 : Oper := ⟨some 67, .load 84 (.tmp 66), 84, "marks.go:63", #[⟨2, .data⟩], none⟩
def mad12_o4 : Oper := ⟨some 68, .load 36 (.tmp 8), 36, "marks.go:63", #[], none⟩
def mad12_o5 : Oper := ⟨some 69, .build 96 #[], 96, "marks.go:63", #[], none⟩
def mad12_o6 : Oper := ⟨none, .mapUpdate 84 (.tmp 67) (.tmp 68) (.tmp 69), 0, "marks.go:63", #[⟨3, .data⟩, ⟨4, .data⟩, ⟨5, .data⟩, ⟨0, .phase⟩, ⟨1, .phase⟩, ⟨2, .phase⟩, ⟨3, .phase⟩, ⟨4, .phase⟩, ⟨5, .phase⟩], none⟩
def mad12_ops : Array Oper := #[mad12_o0, mad12_o1, mad12_o2, mad12_o3, mad12_o4, mad12_o5, mad12_o6]
theorem mad12 {mb ib b1 : Nat} {k : IdK} {w2 : World} (S : World → Prop) (a : Act) (w : World) (Q : Exit → Act → World → Prop) (zz : a.tmps.size = 70)
    (t0 : a.tmps.getD 0 undef = .pointer (some ⟨mb, 0, none⟩))
    (t8 : a.tmps.getD 8 undef = .pointer (some ⟨b1, 0, none⟩))
    (h0 : S w.drew) (LM : ∀ W, S W → (Instr.loadAt 84 (.pointer (some ⟨mb, 0 + 1, none⟩))).run Tryz.prog W = .ok (.map (some ib)) W) (LK : ∀ W, S W → (Instr.loadAt 36 (.pointer (some ⟨b1, 0, none⟩))).run Tryz.prog W = .ok (k.v) W) (HU : ∀ W, (Instr.build 96 #[]).run Tryz.prog W = .ok (.agg #[]) W) (E1 : (Instr.mapUpdate 84 (.map (some ib)) k.v (.agg #[])).run Tryz.prog w.drew = .ok () w2)
    (h : ∀ (a' : Act) (w' : World), w' = w2 → a' = ((((((a).put (some 64) (.pointer (some ⟨mb, 0, none⟩))).put (some 65) (.pointer (some ⟨mb, 0, none⟩))).put (some 66) (.pointer (some ⟨mb, 0 + 1, none⟩))).put (some 67) (.map (some ib))).put (some 68) (k.v)).put (some 69) (.agg #[]) → Q .normal a' w') :
    (Code.region 12 mad12_ops true).wp Tryz.prog Q a w := by
  refine x0 6 (fun w' => S w') (h0) (fun hHeld => ?_)
  refine xv 0 rfl rfl (fun w1 hw => xmv rfl (zi t0 rfl)) hHeld ?_
  refine xv 1 rfl rfl (fun w1 hw => xnc rfl (zg zz rfl)) hHeld ?_
  refine xv 2 rfl rfl (fun w1 hw => xfa rfl (zg zz rfl) (fg_87_1 _ _ _)) hHeld ?_
  refine xv 3 rfl rfl (fun w1 hw => xld rfl (zg zz rfl) (LM _ hw)) hHeld ?_
  refine xv 4 rfl rfl (fun w1 hw => xld rfl (zi t8 rfl) (LK _ hw)) hHeld ?_
  refine xv 5 rfl rfl (fun w1 hw => exec_build0 rfl (HU _)) hHeld ?_
  refine xs 6 rfl rfl (exec_mapUpdate rfl (zg zz rfl) (zg zz rfl) (zg zz rfl) E1) (fun hne => absurd rfl hne) (fun _ => ?_)
  exact xe rfl (h _ _ (rfl) rfl)
end Go.Proofs.YtifendlpeebofaaGreatDoor
namespace Go.Proofs.YtifendlpeebofaaGreatDoor
open Go.RowKit Sq
def edgeP (E : List Elt) (k : IdK) (bh : Bool) (z : Int) : Int × Bool := if k = zId then (z, true) else if bh = true then (aheadE E false k + 1, decide (aheadE E false k ≥ 0)) else (aheadE E false k, decide (aheadE E false k ≥ 0))
def bF (s : Int) : Bool := decide (s = 1 ∨ s = 3)
def bT (s : Int) : Bool := decide (s = 2 ∨ s = 3)
def reachP (E : List Elt) (x : MkV) : Int × Int := if (edgeP E x.fr (bF x.sd) 0).2 = true ∧ (edgeP E x.to (bT x.sd) (E.length : Int)).2 = true then ((edgeP E x.fr (bF x.sd) 0).1, (edgeP E x.to (bT x.sd) (E.length : Int)).1) else (0, 0)
def idxE (E : List Elt) (r : Int) : Int := if (nthE E false r).2 = true then aheadE E true (nthE E false r).1 else ((visE E true).length : Int)
theorem vis_all (E : List Elt) : visE E false = E := by
  unfold visE
  rw [List.filter_eq_self]
  intro e _
  rfl
theorem ahead_bd (E : List Elt) (c : Bool) (k : IdK) : -1 ≤ aheadE E c k ∧ aheadE E c k ≤ (E.length : Int) := by
  unfold aheadE
  split
  · have h1 := List.countP_le_length (p := cE c) (l := E.takeWhile (fun e => !decide (e.id = k)))
    have h2 := (List.takeWhile_prefix (fun e : Elt => !decide (e.id = k)) (l := E)).length_le
    omega
  · omega
theorem SeqAt.few {w : World} {s : Sx} {E : List Elt} (h : SeqAt w s E) : E.length + 1 ≤ 1400000000000 := by
  have h1 := h.lk.len
  have h2 := h.row.len
  omega
section
variable {w : World} {s : Sx} {E : List Elt}
theorem edge_any (h : SeqAt w s E) {k : IdK} (hk : k.ok) (bh : Bool) {z : Int} (hz : -9223372036854775808 ≤ z ∧ z ≤ 9223372036854775807) : Calls Tryz.prog 102 #[.pointer (some ⟨s.sb, 0, none⟩), k.v, .bool bh, .int .i64 z] w fun e w' => e = .returned (.tuple #[.int .i64 (edgeP E k bh z).1, .bool (edgeP E k bh z).2]) ∧ Below w.heap.size w w' := by
  have bx : Below w.heap.size w (w.alloc (.cells k.c.toArray 36)) := (Below.refl _ _).alloc (Nat.le_refl _) _
  have hx := id_new w k
  have HR : Hid (∀ W, SeqAt W s E → Calls Tryz.prog 54 #[.pointer (some ⟨s.sb, 0, none⟩), k.v] W fun e w' => e = .returned (.int .i64 (aheadE E false k)) ∧ Below W.heap.size W w') := fun W hW => rank_any hW hk
  have HB := hidMk (And.intro (ahead_bd E false k) h.few)
  have HE : Hid (edgeP E k bh z = if k = zId then (z, true) else if bh = true then (aheadE E false k + 1, decide (aheadE E false k ≥ 0)) else (aheadE E false k, decide (aheadE E false k ≥ 0))) := rfl
  generalize edgeP E k bh z = res at *
  generalize aheadE E false k = r at *
  show Calls Tryz.prog 102 #[.pointer (some ⟨s.sb, 0, none⟩), .agg k.c.toArray, .bool bh, .int .i64 z] w _
  go_enter Tryz.func102, Tryz.ntmps102
  go_upto_region 1 with fail
  generalize w.alloc (.cells k.c.toArray 36) = wx at *
  have h1 := h.below bx
  have HX := hidMk hx
  clear hx
  refine edg1 (k := k) (r := r) (fun W => Below wx.heap.size wx W) _ wx _ rfl rfl rfl (fun W e => by rw [e]; exact load_id hk HX.out) (HR.out _ h1) ?_
  intro a' w1 hf ha
  subst ha
  simp only [Act.put, List.setIfInBounds_toArray, List.set_cons_zero, List.set_cons_succ]
  have HX1 := hidMk (HX.out.below hf)
  have B1 := hidMk (bx.trans (hf.mono bx.size))
  clear HX HR hf h1
  go_upto_region 2 with fail
  obtain ⟨q, hq⟩ : ∃ q, decide (k = zId) = q := ⟨_, rfl⟩
  refine edg2 (k := k) (z := q) _ w1 _ rfl rfl hk hq (fun W e => by rw [e]; exact load_id hk HX1.out) ?_
  intro a' w2 hw ha
  obtain rfl : w1 = w2 := hw.symm
  subst ha
  simp only [Act.put, List.setIfInBounds_toArray, List.set_cons_zero, List.set_cons_succ]
  have HQ := hidMk hq
  clear hq HX1
  cases q with
  | true =>
    have e : res = (z, true) := by rw [HE.out, if_pos (of_decide_eq_true HQ.out)]
    clear HE
    subst e
    go_wp2
    refine bodyPost_ret (results_tmp2 rfl _ _ _) rfl ?_
    exact ⟨rfl, B1.out⟩
  | false =>
    obtain ⟨y, hy⟩ : ∃ y, decide (r ≥ 0) = y := ⟨_, rfl⟩
    have HY := hidMk hy
    clear hy
    cases bh with
    | true =>
      have e : res = (r + 1, y) := by rw [HE.out, if_neg (of_decide_eq_false HQ.out), if_pos rfl, HY.out]
      clear HE
      subst e
      go_upto_region 5 with fail
      refine edg5 (r := r) (z := y) _ w1 _ rfl rfl (by have := HB.out; omega) HY.out ?_
      intro a' w2 hw ha
      obtain rfl : w1 = w2 := hw.symm
      subst ha
      simp only [Act.put, List.setIfInBounds_toArray, List.set_cons_zero, List.set_cons_succ]
      clear HB
      go_wp2
      refine bodyPost_ret (results_tmp2 rfl _ _ _) rfl ?_
      exact ⟨rfl, B1.out⟩
    | false =>
      have e : res = (r, y) := by rw [HE.out, if_neg (of_decide_eq_false HQ.out), if_neg (by decide), HY.out]
      clear HE
      subst e
      go_upto_region 6 with fail
      refine edg6 (r := r) (z := y) _ w1 _ rfl rfl HY.out ?_
      intro a' w2 hw ha
      obtain rfl : w1 = w2 := hw.symm
      subst ha
      simp only [Act.put, List.setIfInBounds_toArray, List.set_cons_zero, List.set_cons_succ]
      clear HB
      go_wp2
      refine bodyPost_ret (results_tmp2 rfl _ _ _) rfl ?_
      exact ⟨rfl, B1.out⟩
theorem index_at_any (h : SeqAt w s E) {r : Int} (hr : -9223372036854775808 ≤ r ∧ r ≤ 9223372036854775807) : Calls Tryz.prog 55 #[.pointer (some ⟨s.sb, 0, none⟩), .int .i64 r] w fun e w' => e = .returned (.int .i64 (idxE E r)) ∧ Below w.heap.size w w' := by
  have HE : Hid (idxE E r = if (nthE E false r).2 = true then aheadE E true (nthE E false r).1 else ((visE E true).length : Int)) := rfl
  have OK : (nthE E false r).1.ok := nthE_ok h.lk.ok false r
  have CA : Hid (Calls Tryz.prog 77 #[.pointer (some ⟨s.sb, 0, none⟩), .int .i64 r] w fun e w' => e = .returned (.tuple #[(nthE E false r).1.v, .bool (nthE E false r).2]) ∧ ∃ b1 w1 w2, (Instr.alloc 36 true (.tuple #[])).run Tryz.prog w' = .ok (.pointer (some ⟨b1, 0, none⟩)) w1 ∧ (Instr.storeAt 36 (.pointer (some ⟨b1, 0, none⟩)) (nthE E false r).1.v).run Tryz.prog w1 = .ok () w2 ∧ (IdAt w2 b1 (nthE E false r).1 ∧ Below w.heap.size w w2)) := by
    refine (at_any h r hr).mono ?_
    rintro e w' ⟨rfl, b⟩
    have i0 := id_new w' zId
    have bx : Below w'.heap.size w' (w'.alloc (.cells zId.c.toArray 36)) := (Below.refl _ _).alloc (Nat.le_refl _) _
    refine ⟨rfl, w'.heap.size, _, _, id_zero w', store_id zId_ok OK i0, i0.set _, ?_⟩
    have b2 := b.trans (bx.mono b.size)
    exact b2.trans (set_below _ b2.size b.size)
  have HI : Hid (∀ W, SeqAt W s E → Calls Tryz.prog 78 #[.pointer (some ⟨s.sb, 0, none⟩), (nthE E false r).1.v] W fun e w' => e = .returned (.int .i64 (aheadE E true (nthE E false r).1)) ∧ Below W.heap.size W w') := fun W hW => index_any hW OK
  have HS : Hid (∀ W, SeqAt W s E → Calls Tryz.prog 79 #[.pointer (some ⟨s.sb, 0, none⟩)] W fun e w' => e = .returned (.int .i64 ((visE E true).length : Int)) ∧ Below W.heap.size W w') := fun W hW => shown_any hW
  have HH := hidMk (fun (W : World) (b : Below w.heap.size w W) => h.below b)
  clear h
  generalize idxE E r = res at *
  generalize nthE E false r = kb at *
  obtain ⟨k, q⟩ := kb
  simp only at OK CA HI HE
  go_enter Tryz.func55, Tryz.ntmps55
  go_upto_region 1 with fail
  refine ixa1 (k := k) (z := q) (fun b1 W => IdAt W b1 k ∧ Below w.heap.size w W) _ w _ rfl rfl rfl CA.out ?_
  intro b1 a' w1 hf ha
  subst ha
  simp only [Act.put, List.setIfInBounds_toArray, List.set_cons_zero, List.set_cons_succ]
  have HF := hidMk hf
  clear hf CA
  cases q with
  | true =>
    have e : res = aheadE E true k := by rw [HE.out, if_pos rfl]
    clear HE
    subst e
    go_upto_region 3 with fail
    refine ixa3 (k := k) (r := aheadE E true k) (fun W => Below w1.heap.size w1 W) _ w1 _ rfl rfl rfl (fun W e => by rw [e]; exact load_id OK HF.out.1) (HI.out _ (HH.out _ HF.out.2)) ?_
    intro a' w2 hf ha
    subst ha
    simp only [Act.put, List.setIfInBounds_toArray, List.set_cons_zero, List.set_cons_succ]
    have B2 : Hid (Below w.heap.size w w2) := HF.out.2.trans (hf.mono HF.out.2.size)
    clear hf
    go_wp2
    go_ret
    exact ⟨rfl, B2.out⟩
  | false =>
    have e : res = ((visE E true).length : Int) := by rw [HE.out, if_neg (by decide)]
    clear HE
    subst e
    go_wp2_with (first
      | (go_at_call 79; refine (HS.out _ (HH.out _ HF.out.2)).mono ?_; rintro e w2 ⟨rfl, hb⟩)
      | fail)
    go_ret
    exact ⟨rfl, HF.out.2.trans (hb.mono HF.out.2.size)⟩
end
theorem and_one {s : Int} (h : 0 ≤ s ∧ s ≤ 3) (W : World) : (binOp .and 3 (.int .i64 s) (.int .i64 1)).run Tryz.prog W = .ok (.int .i64 (if bF s = true then 1 else 0)) W := by
  rcases (show s = 0 ∨ s = 1 ∨ s = 2 ∨ s = 3 by omega) with rfl | rfl | rfl | rfl <;> kernel_rfl
theorem and_two {s : Int} (h : 0 ≤ s ∧ s ≤ 3) (W : World) : (binOp .and 3 (.int .i64 s) (.int .i64 2)).run Tryz.prog W = .ok (.int .i64 (if bT s = true then 2 else 0)) W := by
  rcases (show s = 0 ∨ s = 1 ∨ s = 2 ∨ s = 3 by omega) with rfl | rfl | rfl | rfl <;> kernel_rfl
section
variable {w : World} {s : Sx} {E : List Elt}
theorem reach_any (h : SeqAt w s E) {x : MkV} (hx : x.ok) (hs : 0 ≤ x.sd ∧ x.sd ≤ 3) {b : Nat} (hb : RM.Bx w b x) : Calls Tryz.prog 81 #[.pointer (some ⟨b, 0, none⟩), .pointer (some ⟨s.sb, 0, none⟩)] w fun e w' => e = .returned (.tuple #[.int .i64 (reachP E x).1, .int .i64 (reachP E x).2]) ∧ Below w.heap.size w w' := by
  have HE : Hid (reachP E x = if (edgeP E x.fr (bF x.sd) 0).2 = true ∧ (edgeP E x.to (bT x.sd) (E.length : Int)).2 = true then ((edgeP E x.fr (bF x.sd) 0).1, (edgeP E x.to (bT x.sd) (E.length : Int)).1) else (0, 0)) := rfl
  have hf := h.few
  have C1 : Hid (∀ W, SeqAt W s E → Calls Tryz.prog 102 #[.pointer (some ⟨s.sb, 0, none⟩), x.fr.v, .bool (bF x.sd), .int .i64 0] W fun e w' => e = .returned (.tuple #[.int .i64 (edgeP E x.fr (bF x.sd) 0).1, .bool (edgeP E x.fr (bF x.sd) 0).2]) ∧ Below W.heap.size W w') := fun W hW => edge_any hW hx.fr _ (by omega)
  have C2 : Hid (∀ W, SeqAt W s E → Calls Tryz.prog 102 #[.pointer (some ⟨s.sb, 0, none⟩), x.to.v, .bool (bT x.sd), .int .i64 (E.length : Int)] W fun e w' => e = .returned (.tuple #[.int .i64 (edgeP E x.to (bT x.sd) (E.length : Int)).1, .bool (edgeP E x.to (bT x.sd) (E.length : Int)).2]) ∧ Below W.heap.size W w') := fun W hW => edge_any hW hx.to _ (by omega)
  have CL : Hid (∀ W, SeqAt W s E → Calls Tryz.prog 103 #[.pointer (some ⟨s.sb, 0, none⟩)] W fun e w' => e = .returned (.int .i64 (E.length : Int)) ∧ Below W.heap.size W w') := fun W hW => by
    have := len_any hW
    rw [vis_all] at this
    exact this
  have HH := hidMk (fun (W : World) (bl : Below w.heap.size w W) => And.intro (h.below bl) (hb.below bl))
  have hxx := hidMk hx
  have r1 : decide ((if bF x.sd = true then (1 : Int) else 0) ≠ 0) = bF x.sd := by cases bF x.sd <;> rfl
  have r2 : decide ((if bT x.sd = true then (2 : Int) else 0) ≠ 0) = bT x.sd := by cases bT x.sd <;> rfl
  obtain ⟨q1, hq1⟩ : ∃ q, (if bF x.sd = true then (1 : Int) else 0) = q := ⟨_, rfl⟩
  obtain ⟨q2, hq2⟩ : ∃ q, (if bT x.sd = true then (2 : Int) else 0) = q := ⟨_, rfl⟩
  rw [hq1] at r1
  rw [hq2] at r2
  have A1 : Hid (∀ W, (binOp .and 3 (.int .i64 x.sd) (.int .i64 1)).run Tryz.prog W = .ok (.int .i64 q1) W) := fun W => by rw [← hq1]; exact and_one hs W
  have A2 : Hid (∀ W, (binOp .and 3 (.int .i64 x.sd) (.int .i64 2)).run Tryz.prog W = .ok (.int .i64 q2) W) := fun W => by rw [← hq2]; exact and_two hs W
  have R1 := hidMk r1
  have R2 := hidMk r2
  clear h hb hf hx hs r1 r2 hq1 hq2
  generalize reachP E x = res at *
  generalize edgeP E x.fr (bF x.sd) 0 = e1 at *
  generalize edgeP E x.to (bT x.sd) (E.length : Int) = e2 at *
  obtain ⟨f1, z1⟩ := e1
  obtain ⟨f2, z2⟩ := e2
  simp only at C1 C2 HE
  go_enter Tryz.func81, Tryz.ntmps81
  go_upto_region 1 with fail
  refine rea1 (x := x) (b := b) (q := q1) (f := f1) (z := z1) (r := bF x.sd) (fun W => Below w.heap.size w W) _ w _ rfl rfl rfl ((Below.refl _ _).drew) R1.out A1.out (fun W bl => mk_fr hxx.out (HH.out W bl).2.rng) (fun W bl => mk_sd hxx.out (HH.out W bl).2.rng) ((C1.out _ (HH.out _ (Below.refl _ _).drew).1).mono ?_) ?_
  · rintro e w' ⟨rfl, bl⟩
    exact ⟨rfl, (Below.refl _ _).drew.trans (bl.mono (Below.refl w.heap.size w).drew.size)⟩
  intro a' w1 hf ha
  subst ha
  simp only [Act.put, List.setIfInBounds_toArray, List.set_cons_zero, List.set_cons_succ]
  have B1 := hidMk hf
  clear hf C1 R1
  go_upto_region 2 with fail
  refine rea2 (x := x) (b := b) (q := q2) (f := f2) (n := (E.length : Int)) (z := z2) (r := bT x.sd) (fun W => Below w.heap.size w W) _ w1 _ rfl rfl rfl (B1.out.drew) R2.out A2.out (fun W bl => mk_to hxx.out (HH.out W bl).2.rng) (fun W bl => mk_sd hxx.out (HH.out W bl).2.rng) ((CL.out _ (HH.out _ B1.out.drew).1).mono ?_) ?_
  · rintro e w' ⟨rfl, bl⟩
    have b2 := B1.out.drew.trans (bl.mono B1.out.drew.size)
    refine ⟨rfl, b2, (C2.out _ (HH.out _ b2).1).mono ?_⟩
    rintro e w'' ⟨rfl, bl⟩
    exact ⟨rfl, b2.trans (bl.mono b2.size)⟩
  intro a' w2 hf ha
  subst ha
  simp only [Act.put, List.setIfInBounds_toArray, List.set_cons_zero, List.set_cons_succ]
  have B2 := hidMk hf
  clear hf C2 R2 CL HH B1 hxx A1 A2
  generalize bF x.sd = g1 at *
  generalize bT x.sd = g2 at *
  cases z1 with
  | false =>
    have e : res = (0, 0) := by rw [HE.out, if_neg (fun q => by cases q.1)]
    clear HE
    subst e
    go_wp2
    refine bodyPost_ret (results_tmp2 rfl _ _ _) rfl ?_
    exact ⟨rfl, B2.out⟩
  | true =>
    cases z2 with
    | false =>
      have e : res = (0, 0) := by rw [HE.out, if_neg (fun q => by cases q.2)]
      clear HE
      subst e
      go_wp2
      refine bodyPost_ret (results_tmp2 rfl _ _ _) rfl ?_
      exact ⟨rfl, B2.out⟩
    | true =>
      have e : res = (f1, f2) := by rw [HE.out, if_pos ⟨rfl, rfl⟩]
      clear HE
      subst e
      go_wp2
      refine bodyPost_ret (results_tmp2 rfl _ _ _) rfl ?_
      exact ⟨rfl, B2.out⟩
end
end Go.Proofs.YtifendlpeebofaaGreatDoor
namespace Go.Proofs.YtifendlpeebofaaGreatDoor.K
open Go.RowKit
@[go_sem] theorem bits_run (b : Nat) (w : World) : (callFunc 68 #[.float .f64 b]).run Tryz.prog w = .ok (.value (.int .u64 b)) w := by
  rw [run_callFunc_extern Tryz.func68 (by kernel_rfl) (by kernel_rfl) (by kernel_rfl) (e := Extern.MathFloatBits.float64bits) (by kernel_rfl)]
  rfl
@[go_sem] theorem from_run (n : Int) (w : World) : (callFunc 172 #[.int .u64 n]).run Tryz.prog w = .ok (.value (.float .f64 n.toNat)) w := by
  rw [run_callFunc_extern Tryz.func172 (by kernel_rfl) (by kernel_rfl) (by kernel_rfl) (e := Extern.MathFloatBits.float64frombits) (by kernel_rfl)]
  rfl
theorem below_drewN {B : Nat} {a w : World} (h : Below B a w) : ∀ q, Below B a (w.drewN q)
  | 0 => h
  | q + 1 => (below_drewN h q).drew
theorem bel_box (w : World) (c : Array Value) (t : TypeId) : Below w.heap.size w (w.alloc (.cells c t)) := (Below.refl _ _).alloc (Nat.le_refl _) _
namespace V
def by8 (s : ByteArray) (k : Nat) : Nat := (s.data.toList.getD k 0).toNat
theorem by8_lt (s : ByteArray) (k : Nat) : by8 s k < 256 := by unfold by8; exact (s.data.toList.getD k 0).toNat_lt
theorem index_str (s : ByteArray) (k : Nat) (w : World) (h : k < s.size) : (Instr.index 9 (.string s) (.int .i64 (k : Int))).run Tryz.prog w = .ok (.int .u8 (by8 s k : Int)) w := by
  have hd : s.data.toList[k]? = some (s[k]'h) := by simp [h]; rfl
  have e : by8 s k = (s[k]'h).toNat := by
    unfold by8
    rw [List.getD_eq_getElem?_getD, hd]
    rfl
  rw [e]
  simp [Instr.index, asIntOf, run_underlying Tryz.underlying9, h]
end V
namespace V
theorem not_empty (s : ByteArray) (h : 0 < s.size) : s.toList.isEmpty = false := by
  rw [ByteArray.toList_eq]
  cases hq : s.data.toList with
  | nil =>
    have : s.data.toList.length = s.size := by simp
    rw [hq] at this
    simp at this
    omega
  | cons => rfl
end V
namespace V
end V
end Go.Proofs.YtifendlpeebofaaGreatDoor.K
namespace Go.Proofs.YtifendlpeebofaaGreatDoor.K
open Go.RowKit Go.Shelf
namespace V
def laysValid_ren : Go.Shelf.Ren := ⟨fun | 196 => 94 | 259 => 119 | n => n, fun | 9 => 9 | 4 => 4 | 3 => 3 | 5 => 5 | 12 => 12 | 119 => 177 | 0 => 0 | 46 => 156 | 139 => 180 | 138 => 179 | 53 => 123 | n => n, fun | 3 => 1 | 4 => 2 | n => n⟩
theorem laysValid : Lays.n196 Tryz.prog laysValid_ren := {
  mixed := by kernel_rfl
  f196 := Tryz.func94.trans (congrArg some (by kernel_rfl))
  f259 := Tryz.func119.trans (congrArg some (by kernel_rfl))
  t0 := Tryz.underlying0
  a0 := Tryz.isAgg0
  z0 := Tryz.sizeOf0
  v0 := Tryz.zeroValue0
  t3 := Tryz.underlying3
  a3 := Tryz.isAgg3
  z3 := Tryz.sizeOf3
  v3 := Tryz.zeroValue3
  t4 := Tryz.underlying4
  a4 := Tryz.isAgg4
  z4 := Tryz.sizeOf4
  v4 := Tryz.zeroValue4
  t5 := Tryz.underlying5
  a5 := Tryz.isAgg5
  z5 := Tryz.sizeOf5
  v5 := Tryz.zeroValue5
  t9 := Tryz.underlying9
  a9 := Tryz.isAgg9
  z9 := Tryz.sizeOf9
  v9 := Tryz.zeroValue9
  t12 := Tryz.underlying12
  a12 := Tryz.isAgg12
  z12 := Tryz.sizeOf12
  v12 := Tryz.zeroValue12
  t46 := Tryz.underlying156
  a46 := Tryz.isAgg156
  z46 := Tryz.sizeOf156
  v46 := Tryz.zeroValue156
  t53 := Tryz.underlying123
  a53 := Tryz.isAgg123
  z53 := Tryz.sizeOf123
  v53 := Tryz.zeroValue123
  t119 := Tryz.underlying177
  a119 := Tryz.isAgg177
  z119 := Tryz.sizeOf177
  t138 := Tryz.underlying179
  a138 := Tryz.isAgg179
  z138 := Tryz.sizeOf179
  v138 := Tryz.zeroValue179
  t139 := Tryz.underlying180
  a139 := Tryz.isAgg180
  z139 := Tryz.sizeOf180
  v139 := Tryz.zeroValue180
  g3 := by kernel_rfl
  g4 := by kernel_rfl }
def Tabs (w : World) : Prop := Lib.Utf8Tabs 1 2 w
theorem Tabs.below {w w' : World} (h : Tabs w) (hb : Below w.heap.size w w') : Tabs w' := Utf8Tabs_below h hb
theorem valid_any (s : ByteArray) (w : World) (hs : s.size ≤ 9223372036854775807) (hT : Tabs w) :
    Calls Tryz.prog 94 #[.string s] w fun e w' => e = .returned (.bool (Lib.validD s.data.toList)) ∧ Below w.heap.size w w' :=
  Any.utf8_ValidString laysValid s w hs hT
end V
end Go.Proofs.YtifendlpeebofaaGreatDoor.K
namespace Go.Proofs.YtifendlpeebofaaGreatDoor.K
open Go.RowKit
namespace V
def rightB (k n : Int) (f : Nat) (s : ByteArray) : Bool :=
  if k = 1 then (decide (n = 0) || decide (n = 1)) && decide (f = 0) && s.toList.isEmpty
  else if k = 2 ∨ k = 7 then decide (f = 0) && s.toList.isEmpty
  else if k = 5 then decide (n = 0) && decide (f = 0) && decide ((s.size : Int) ≤ 1000)
  else if k = 6 then decide (0 ≤ n) && decide (n ≤ 9007199254740992) && decide (f = 0) && s.toList.isEmpty
  else if k ≤ 11 then decide (n = 0) && decide (f = 0) && s.toList.isEmpty else false
theorem right26_0 (n : Int) (f : Nat) (s : ByteArray) (w : World) :
    Calls Tryz.prog 71 #[.agg #[.int .u8 0, .int .i64 n, .float .f64 f, .string s]] w fun e w' => e = .returned (.bool (rightB 0 n f s)) ∧ Below w.heap.size w w' := by
  go_enter Tryz.func71, Tryz.ntmps71
  go_wp2
  go_quiet (fail)
  go_wp2
  all_goals
    go_ret
    refine ⟨?_, ?_⟩
    · first | (simp [rightB, *]; done) | (simp [rightB, *]; omega)
    · first | exact bel_box _ _ _ | exact below_drewN (bel_box _ _ _) _
theorem right26_1 (n : Int) (f : Nat) (s : ByteArray) (w : World) :
    Calls Tryz.prog 71 #[.agg #[.int .u8 1, .int .i64 n, .float .f64 f, .string s]] w fun e w' => e = .returned (.bool (rightB 1 n f s)) ∧ Below w.heap.size w w' := by
  go_enter Tryz.func71, Tryz.ntmps71
  go_wp2
  go_quiet (fail)
  go_wp2
  all_goals
    go_ret
    refine ⟨?_, ?_⟩
    · first | (simp [rightB, *]; done) | (simp [rightB, *]; omega)
    · first | exact bel_box _ _ _ | exact below_drewN (bel_box _ _ _) _
theorem right26_2 (n : Int) (f : Nat) (s : ByteArray) (w : World) :
    Calls Tryz.prog 71 #[.agg #[.int .u8 2, .int .i64 n, .float .f64 f, .string s]] w fun e w' => e = .returned (.bool (rightB 2 n f s)) ∧ Below w.heap.size w w' := by
  go_enter Tryz.func71, Tryz.ntmps71
  go_wp2
  go_quiet (fail)
  go_wp2
  all_goals
    go_ret
    refine ⟨?_, ?_⟩
    · first | (simp [rightB, *]; done) | (simp [rightB, *]; omega)
    · first | exact bel_box _ _ _ | exact below_drewN (bel_box _ _ _) _
theorem right26_5 (n : Int) (f : Nat) (s : ByteArray) (w : World) :
    Calls Tryz.prog 71 #[.agg #[.int .u8 5, .int .i64 n, .float .f64 f, .string s]] w fun e w' => e = .returned (.bool (rightB 5 n f s)) ∧ Below w.heap.size w w' := by
  go_enter Tryz.func71, Tryz.ntmps71
  go_wp2
  go_quiet (fail)
  go_wp2
  all_goals
    go_ret
    refine ⟨?_, ?_⟩
    · first | (simp [rightB, *]; done) | (simp [rightB, *]; omega)
    · first | exact bel_box _ _ _ | exact below_drewN (bel_box _ _ _) _
theorem right26_6 (n : Int) (f : Nat) (s : ByteArray) (w : World) :
    Calls Tryz.prog 71 #[.agg #[.int .u8 6, .int .i64 n, .float .f64 f, .string s]] w fun e w' => e = .returned (.bool (rightB 6 n f s)) ∧ Below w.heap.size w w' := by
  go_enter Tryz.func71, Tryz.ntmps71
  go_wp2
  go_quiet (fail)
  go_wp2
  all_goals
    go_ret
    refine ⟨?_, ?_⟩
    · first | (simp [rightB, *]; done) | (simp [rightB, *]; omega)
    · first | exact bel_box _ _ _ | exact below_drewN (bel_box _ _ _) _
theorem right26_7 (n : Int) (f : Nat) (s : ByteArray) (w : World) :
    Calls Tryz.prog 71 #[.agg #[.int .u8 7, .int .i64 n, .float .f64 f, .string s]] w fun e w' => e = .returned (.bool (rightB 7 n f s)) ∧ Below w.heap.size w w' := by
  go_enter Tryz.func71, Tryz.ntmps71
  go_wp2
  go_quiet (fail)
  go_wp2
  all_goals
    go_ret
    refine ⟨?_, ?_⟩
    · first | (simp [rightB, *]; done) | (simp [rightB, *]; omega)
    · first | exact bel_box _ _ _ | exact below_drewN (bel_box _ _ _) _
theorem right26_8 (n : Int) (f : Nat) (s : ByteArray) (w : World) :
    Calls Tryz.prog 71 #[.agg #[.int .u8 8, .int .i64 n, .float .f64 f, .string s]] w fun e w' => e = .returned (.bool (rightB 8 n f s)) ∧ Below w.heap.size w w' := by
  go_enter Tryz.func71, Tryz.ntmps71
  go_wp2
  go_quiet (fail)
  go_wp2
  all_goals
    go_ret
    refine ⟨?_, ?_⟩
    · first | (simp [rightB, *]; done) | (simp [rightB, *]; omega)
    · first | exact bel_box _ _ _ | exact below_drewN (bel_box _ _ _) _
theorem right26_9 (n : Int) (f : Nat) (s : ByteArray) (w : World) :
    Calls Tryz.prog 71 #[.agg #[.int .u8 9, .int .i64 n, .float .f64 f, .string s]] w fun e w' => e = .returned (.bool (rightB 9 n f s)) ∧ Below w.heap.size w w' := by
  go_enter Tryz.func71, Tryz.ntmps71
  go_wp2
  go_quiet (fail)
  go_wp2
  all_goals
    go_ret
    refine ⟨?_, ?_⟩
    · first | (simp [rightB, *]; done) | (simp [rightB, *]; omega)
    · first | exact bel_box _ _ _ | exact below_drewN (bel_box _ _ _) _
theorem right26_10 (n : Int) (f : Nat) (s : ByteArray) (w : World) :
    Calls Tryz.prog 71 #[.agg #[.int .u8 10, .int .i64 n, .float .f64 f, .string s]] w fun e w' => e = .returned (.bool (rightB 10 n f s)) ∧ Below w.heap.size w w' := by
  go_enter Tryz.func71, Tryz.ntmps71
  go_wp2
  go_quiet (fail)
  go_wp2
  all_goals
    go_ret
    refine ⟨?_, ?_⟩
    · first | (simp [rightB, *]; done) | (simp [rightB, *]; omega)
    · first | exact bel_box _ _ _ | exact below_drewN (bel_box _ _ _) _
theorem right26_11 (n : Int) (f : Nat) (s : ByteArray) (w : World) :
    Calls Tryz.prog 71 #[.agg #[.int .u8 11, .int .i64 n, .float .f64 f, .string s]] w fun e w' => e = .returned (.bool (rightB 11 n f s)) ∧ Below w.heap.size w w' := by
  go_enter Tryz.func71, Tryz.ntmps71
  go_wp2
  go_quiet (fail)
  go_wp2
  all_goals
    go_ret
    refine ⟨?_, ?_⟩
    · first | (simp [rightB, *]; done) | (simp [rightB, *]; omega)
    · first | exact bel_box _ _ _ | exact below_drewN (bel_box _ _ _) _
theorem right26_o (k n : Int) (f : Nat) (s : ByteArray) (w : World) (hk : 12 ≤ k) :
    Calls Tryz.prog 71 #[.agg #[.int .u8 k, .int .i64 n, .float .f64 f, .string s]] w fun e w' => e = .returned (.bool false) ∧ Below w.heap.size w w' := by
  have h0 : ¬ k = 0 := by omega
  have h1 : ¬ k = 1 := by omega
  have h2 : ¬ k = 2 := by omega
  have h3 : ¬ k = 3 := by omega
  have h4 : ¬ k = 4 := by omega
  have h5 : ¬ k = 5 := by omega
  have h6 : ¬ k = 6 := by omega
  have h7 : ¬ k = 7 := by omega
  have h8 : ¬ k = 8 := by omega
  have h9 : ¬ k = 9 := by omega
  have h10 : ¬ k = 10 := by omega
  have h11 : ¬ k = 11 := by omega
  go_enter Tryz.func71, Tryz.ntmps71
  go_wp2
  go_quiet (fail)
  go_wp2
  all_goals
    go_ret
    refine ⟨?_, ?_⟩
    · first | rfl | (simp [rightB, *]; done) | (simp [rightB, *]; omega)
    · first | exact bel_box _ _ _ | exact below_drewN (bel_box _ _ _) _
end V
end Go.Proofs.YtifendlpeebofaaGreatDoor.K
namespace Go.Proofs.YtifendlpeebofaaGreatDoor.K
theorem cmp_congr {a b c d : Int} (h1 : a < b ↔ c < d) (h2 : a = b ↔ c = d) : compare a b = compare c d := by
  simp only [compare, compareOfLessAndEq, h1, h2]
def fval (r : Nat) : Nat := if r < 2 ^ 52 then r else (2 ^ 52 + r % 2 ^ 52) * 2 ^ (r / 2 ^ 52 - 1)
theorem fval_step (r : Nat) : fval r < fval (r + 1) := by
  unfold fval
  by_cases h : r + 1 < 2 ^ 52
  · rw [if_pos (by omega), if_pos h]; omega
  · by_cases h2 : r < 2 ^ 52
    · rw [if_pos h2, if_neg h]
      have e : r + 1 = 2 ^ 52 := by omega
      rw [e]
      have e2 : (2 ^ 52 + 2 ^ 52 % 2 ^ 52) * 2 ^ (2 ^ 52 / 2 ^ 52 - 1) = 2 ^ 52 := by decide
      rw [e2]
      omega
    · rw [if_neg h2, if_neg h]
      by_cases h3 : r % 2 ^ 52 + 1 < 2 ^ 52
      · have e1 : (r + 1) % 2 ^ 52 = r % 2 ^ 52 + 1 := by omega
        have e2 : (r + 1) / 2 ^ 52 = r / 2 ^ 52 := by omega
        rw [e1, e2]
        exact Nat.mul_lt_mul_of_pos_right (by omega) (Nat.two_pow_pos _)
      · have e1 : (r + 1) % 2 ^ 52 = 0 := by omega
        have e2 : (r + 1) / 2 ^ 52 - 1 = (r / 2 ^ 52 - 1) + 1 := by omega
        rw [e1, e2]
        generalize r / 2 ^ 52 - 1 = k
        rw [Nat.pow_succ 2 k, Nat.mul_comm (2 ^ k) 2, ← Nat.mul_assoc]
        exact Nat.mul_lt_mul_of_pos_right (by omega) (Nat.two_pow_pos _)
theorem fval_lt {r s : Nat} (h : r < s) : fval r < fval s := by
  induction s with
  | zero => omega
  | succ s ih =>
    rcases Nat.lt_or_ge r s with h1 | h1
    · exact Nat.lt_trans (ih h1) (fval_step s)
    · have : r = s := by omega
      subst this
      exact fval_step r
theorem fval_lt_iff (r s : Nat) : fval r < fval s ↔ r < s := by
  constructor
  · intro h
    rcases Nat.lt_or_ge r s with h1 | h1
    · exact h1
    · rcases Nat.eq_or_lt_of_le h1 with h2 | h2
      · subst h2; omega
      · have := fval_lt h2; omega
  · exact fval_lt
theorem fval_inj (r s : Nat) : fval r = fval s ↔ r = s := by
  have := fval_lt_iff r s
  have := fval_lt_iff s r
  omega
theorem fval_zero : fval 0 = 0 := rfl
def fkey (x : Nat) : Int := if x / 2 ^ 63 % 2 = 1 then -((x % 2 ^ 63 : Nat) : Int) else ((x % 2 ^ 63 : Nat) : Int)
def ffin (x : Nat) : Prop := x % 2 ^ 63 < 2047 * 2 ^ 52
def fplace (r : Nat) : Nat := if r < 2 ^ 52 then 0 else r / 2 ^ 52 - 1
def fmag (r : Nat) : Nat := if r < 2 ^ 52 then r else 2 ^ 52 + r % 2 ^ 52
theorem fval_eq (r : Nat) : fval r = fmag r * 2 ^ fplace r := by
  unfold fval fmag fplace
  split <;> simp
theorem fread (x : Nat) (h : ffin x) : Ieee.double.read x = .number (x / 2 ^ 63 % 2 == 1) (fmag (x % 2 ^ 63)) (Ieee.double.leastPlace + (fplace (x % 2 ^ 63) : Nat)) := by
  unfold ffin at h
  have e1 : Ieee.double.signWeight = 2 ^ 63 := rfl
  have e2 : Ieee.double.binade = 2 ^ 52 := rfl
  have e3 : Ieee.double.infRung = 2047 * 2 ^ 52 := rfl
  unfold Ieee.Format.read fmag fplace
  rw [e1, e2, e3]
  by_cases h1 : x % 2 ^ 63 < 2 ^ 52
  · simp only [if_pos h1]; simp
  · simp only [if_neg h1, if_pos h]
theorem forder (x y : Nat) (hx : ffin x) (hy : ffin y) : Ieee.double.order x y = some (compare (fkey x) (fkey y)) := by
  unfold Ieee.Format.order
  rw [fread x hx, fread y hy]
  unfold fkey
  generalize x % 2 ^ 63 = r
  generalize y % 2 ^ 63 = s
  simp only [Ieee.Datum.order]
  refine congrArg some ?_
  have hr := fval_eq r
  have hs := fval_eq s
  have key : ∃ c : Nat, 0 < c ∧ fval r = fmag r * 2 ^ (Ieee.double.leastPlace + (fplace r : Int) - min (Ieee.double.leastPlace + (fplace r : Int)) (Ieee.double.leastPlace + (fplace s : Int))).toNat * c ∧ fval s = fmag s * 2 ^ (Ieee.double.leastPlace + (fplace s : Int) - min (Ieee.double.leastPlace + (fplace r : Int)) (Ieee.double.leastPlace + (fplace s : Int))).toNat * c := by
    refine ⟨2 ^ min (fplace r) (fplace s), Nat.two_pow_pos _, ?_, ?_⟩
    · rw [hr, Nat.mul_assoc, ← Nat.pow_add]; congr 2; omega
    · rw [hs, Nat.mul_assoc, ← Nat.pow_add]; congr 2; omega
  obtain ⟨c, hc, k1, k2⟩ := key
  simp only [Ieee.signed, Nat.shiftLeft_eq]
  generalize fmag r * 2 ^ (Ieee.double.leastPlace + (fplace r : Int) - min (Ieee.double.leastPlace + (fplace r : Int)) (Ieee.double.leastPlace + (fplace s : Int))).toNat = A at *
  generalize fmag s * 2 ^ (Ieee.double.leastPlace + (fplace s : Int) - min (Ieee.double.leastPlace + (fplace r : Int)) (Ieee.double.leastPlace + (fplace s : Int))).toNat = B at *
  have a1 : A < B ↔ r < s := by rw [← fval_lt_iff r s, k1, k2]; exact (Nat.mul_lt_mul_right hc).symm
  have a2 : B < A ↔ s < r := by rw [← fval_lt_iff s r, k1, k2]; exact (Nat.mul_lt_mul_right hc).symm
  have a3 : A = 0 ↔ r = 0 := by
    have := fval_inj r 0
    rw [fval_zero, k1] at this
    rw [← this, Nat.mul_eq_zero]
    omega
  have a4 : B = 0 ↔ s = 0 := by
    have := fval_inj s 0
    rw [fval_zero, k2] at this
    rw [← this, Nat.mul_eq_zero]
    omega
  clear k1 k2 hr hs
  by_cases p : x / 2 ^ 63 % 2 = 1 <;> by_cases q : y / 2 ^ 63 % 2 = 1 <;> simp only [p, q, beq_self_eq_true, if_true, if_false, beq_iff_eq] <;> exact cmp_congr (by omega) (by omega)
end Go.Proofs.YtifendlpeebofaaGreatDoor.K
namespace Go.Proofs.YtifendlpeebofaaGreatDoor.K
open Go.RowKit
theorem isnan_any (f : Nat) (w : World) :
    Calls Tryz.prog 120 #[.float .f64 f] w fun e w' => e = .returned (.bool (Ieee.double.order f f != some .eq)) ∧ w' = w := by
  go_enter Tryz.func120, Tryz.ntmps120
  go_wp2
  go_ret
  exact ⟨rfl, rfl⟩
theorem abs_any (f r : Nat) (w : World) (hr : bits .andNot .u64 (f : Int) 9223372036854775808 = (r : Int)) :
    Calls Tryz.prog 151 #[.float .f64 f] w fun e w' => e = .returned (.float .f64 r) ∧ w' = w := by
  go_enter Tryz.func151, Tryz.ntmps151
  go_wp2
  go_ret
  exact ⟨rfl, rfl⟩
theorem isinf_any (f r : Nat) (w : World) (hr : bits .andNot .u64 (f : Int) 9223372036854775808 = (r : Int)) :
    Calls Tryz.prog 121 #[.float .f64 f, .int .i64 0] w fun e w' => e = .returned (.bool (Ieee.double.order r 9218868437227405311 == some .gt)) ∧ w' = w := by
  have H := abs_any f r w hr
  clear hr
  go_enter Tryz.func121, Tryz.ntmps121
  go_wp2_with fail
  refine H.mono ?_
  rintro e _ ⟨rfl, rfl⟩
  go_wp2
  go_ret
  exact ⟨rfl, rfl⟩
theorem sign_any (f : Nat) (w : World) (hf : f < 18446744073709551616) :
    Calls Tryz.prog 122 #[.float .f64 f] w fun e w' => e = .returned (.bool (decide (9223372036854775808 ≤ f))) ∧ w' = w := by
  go_enter Tryz.func122, Tryz.ntmps122
  go_wp2
  go_ret
  refine ⟨?_, rfl⟩
  have e : decide (Go.RowKit.wrap64 (f : Int) < 0) = decide (9223372036854775808 ≤ f) := by
    rw [decide_eq_decide]
    unfold Go.RowKit.wrap64
    constructor <;> intro h <;> (try split at h) <;> (try split) <;> omega
  rw [← e]
  rfl
theorem abs_bits (f : Nat) (hf : f < 18446744073709551616) : bits .andNot .u64 (f : Int) 9223372036854775808 = ((f % 9223372036854775808 : Nat) : Int) := by
  have h := u64_andNot_nat f 9223372036854775808 hf (by omega)
  rw [show ((9223372036854775808 : Nat) : Int) = 9223372036854775808 from rfl] at h
  rw [h, show (18446744073709551615 - 9223372036854775808 : Nat) = 2 ^ 63 - 1 by decide, Nat.and_two_pow_sub_one_eq_mod]
theorem ford_self (f : Nat) (h : ffin f) : Ieee.double.order f f = some .eq := by
  rw [forder f f h h]
  simp [compare, compareOfLessAndEq]
theorem ford_nan (f : Nat) (h : 9218868437227405312 < f % 9223372036854775808) : Ieee.double.order f f = none := by
  have e1 : Ieee.double.signWeight = 2 ^ 63 := rfl
  have e2 : Ieee.double.binade = 2 ^ 52 := rfl
  have e3 : Ieee.double.infRung = 2047 * 2 ^ 52 := rfl
  unfold Ieee.Format.order Ieee.Format.read
  rw [e1, e2, e3]
  simp only [if_neg (show ¬ f % 2 ^ 63 < 2 ^ 52 by omega), if_neg (show ¬ f % 2 ^ 63 < 2047 * 2 ^ 52 by omega), if_neg (show ¬ f % 2 ^ 63 = 2047 * 2 ^ 52 by omega)]
  rfl
theorem ford_inf (f : Nat) (h : f % 9223372036854775808 = 9218868437227405312) : Ieee.double.order f f = some .eq := by
  have e1 : Ieee.double.signWeight = 2 ^ 63 := rfl
  have e2 : Ieee.double.binade = 2 ^ 52 := rfl
  have e3 : Ieee.double.infRung = 2047 * 2 ^ 52 := rfl
  unfold Ieee.Format.order Ieee.Format.read
  rw [e1, e2, e3]
  simp only [if_neg (show ¬ f % 2 ^ 63 < 2 ^ 52 by omega), if_neg (show ¬ f % 2 ^ 63 < 2047 * 2 ^ 52 by omega), if_pos (show f % 2 ^ 63 = 2047 * 2 ^ 52 by omega)]
  simp [Ieee.Datum.order, compare, compareOfLessAndEq]
theorem ford_max (r : Nat) (h : r < 9218868437227405312) : (Ieee.double.order r 9218868437227405311 == some .gt) = false := by
  rw [forder r _ (by unfold ffin; omega) (by unfold ffin; omega)]
  have e1 : fkey r = (r : Int) := by unfold fkey; rw [if_neg (by omega)]; congr 1; omega
  have e2 : fkey 9218868437227405311 = 9218868437227405311 := by decide
  rw [e1, e2]
  simp only [compare, compareOfLessAndEq]
  split
  · rfl
  · split
    · rfl
    · omega
theorem ford_infmax : (Ieee.double.order 9218868437227405312 9218868437227405311 == some .gt) = true := by decide +kernel
theorem ford_zero (f : Nat) (h : ffin f) (h0 : f % 9223372036854775808 ≠ 0) : (Ieee.double.order f 0 != some .eq) = true := by
  rw [forder f 0 h (by unfold ffin; omega)]
  have e2 : fkey 0 = 0 := by decide
  have e1 : fkey f ≠ 0 := by unfold fkey; split <;> omega
  rw [e2]
  simp only [compare, compareOfLessAndEq]
  split
  · rfl
  · first | rfl | (rw [if_neg e1]; rfl)
namespace V
def finB (f : Nat) : Bool := decide (f % 9223372036854775808 < 9218868437227405312) && decide (f ≠ 9223372036854775808)
theorem writ_any (f : Nat) (w : World) (hf : f < 18446744073709551616) :
    Calls Tryz.prog 95 #[.float .f64 f] w fun e w' => e = .returned (.bool (finB f)) ∧ w' = w := by
  have HN := isnan_any f w
  have HI := isinf_any f (f % 9223372036854775808) w (abs_bits f hf)
  have HS := sign_any f w hf
  rcases (show 9218868437227405312 < f % 9223372036854775808 ∨ f % 9223372036854775808 = 9218868437227405312 ∨ (f % 9223372036854775808 < 9218868437227405312 ∧ f % 9223372036854775808 ≠ 0) ∨ f = 0 ∨ f = 9223372036854775808 by omega) with h | h | h | h | h
  · rw [ford_nan f h, show (none != some Ordering.eq) = true from rfl] at HN
    have e : finB f = false := by unfold finB; rw [decide_eq_false (by omega)]; rfl
    rw [e]
    clear HI HS hf h e
    go_enter Tryz.func95, Tryz.ntmps95
    go_wp2_with (first | (go_at_call 120; refine HN.mono ?_; rintro e _ ⟨rfl, rfl⟩) | fail)
    go_ret
    exact ⟨rfl, rfl⟩
  · rw [ford_inf f h, show (some Ordering.eq != some Ordering.eq) = false from rfl] at HN
    rw [h, ford_infmax] at HI
    have e : finB f = false := by unfold finB; rw [decide_eq_false (by omega)]; rfl
    rw [e]
    clear HS hf h e
    go_enter Tryz.func95, Tryz.ntmps95
    go_wp2_with (first | (go_at_call 120; refine HN.mono ?_; rintro e _ ⟨rfl, rfl⟩) | (go_at_call 121; refine HI.mono ?_; rintro e _ ⟨rfl, rfl⟩) | fail)
    go_ret
    exact ⟨rfl, rfl⟩
  · have hfin : ffin f := by unfold ffin; omega
    rw [ford_self f hfin, show (some Ordering.eq != some Ordering.eq) = false from rfl] at HN
    rw [ford_max _ h.1] at HI
    have z : (FloatKind.f64.format.order f 0 != some .eq) = true := ford_zero f hfin h.2
    have e : finB f = true := by unfold finB; rw [decide_eq_true h.1, decide_eq_true (by omega)]; rfl
    rw [e]
    clear HS hf h e hfin
    go_enter Tryz.func95, Tryz.ntmps95
    go_wp2_with (first | (go_at_call 120; refine HN.mono ?_; rintro e _ ⟨rfl, rfl⟩) | (go_at_call 121; refine HI.mono ?_; rintro e _ ⟨rfl, rfl⟩) | fail)
    go_ret
    exact ⟨rfl, rfl⟩
  · subst h
    rw [show (Ieee.double.order 0 0 != some .eq) = false by decide +kernel] at HN
    rw [show (Ieee.double.order (0 % 9223372036854775808) 9218868437227405311 == some .gt) = false by decide +kernel] at HI
    rw [show decide (9223372036854775808 ≤ 0) = false by decide] at HS
    have z : (FloatKind.f64.format.order 0 0 != some .eq) = false := by decide +kernel
    rw [show finB 0 = true by decide]
    clear hf
    go_enter Tryz.func95, Tryz.ntmps95
    go_wp2_with (first | (go_at_call 120; refine HN.mono ?_; rintro e _ ⟨rfl, rfl⟩) | (go_at_call 121; refine HI.mono ?_; rintro e _ ⟨rfl, rfl⟩) | (go_at_call 122; refine HS.mono ?_; rintro e _ ⟨rfl, rfl⟩) | fail)
    go_ret
    exact ⟨rfl, rfl⟩
  · subst h
    rw [show (Ieee.double.order 9223372036854775808 9223372036854775808 != some .eq) = false by decide +kernel] at HN
    rw [show (Ieee.double.order (9223372036854775808 % 9223372036854775808) 9218868437227405311 == some .gt) = false by decide +kernel] at HI
    rw [show decide (9223372036854775808 ≤ 9223372036854775808) = true by decide] at HS
    have z : (FloatKind.f64.format.order 9223372036854775808 0 != some .eq) = false := by decide +kernel
    rw [show finB 9223372036854775808 = false by decide]
    clear hf
    go_enter Tryz.func95, Tryz.ntmps95
    go_wp2_with (first | (go_at_call 120; refine HN.mono ?_; rintro e _ ⟨rfl, rfl⟩) | (go_at_call 121; refine HI.mono ?_; rintro e _ ⟨rfl, rfl⟩) | (go_at_call 122; refine HS.mono ?_; rintro e _ ⟨rfl, rfl⟩) | fail)
    go_ret
    exact ⟨rfl, rfl⟩
end V
namespace V
def rightF (n : Int) (f : Nat) (s : ByteArray) : Bool := decide (n = 0) && finB f && s.toList.isEmpty
theorem right26_3 (n : Int) (f : Nat) (s : ByteArray) (w : World) (hf : f < 18446744073709551616) :
    Calls Tryz.prog 71 #[.agg #[.int .u8 3, .int .i64 n, .float .f64 f, .string s]] w fun e w' => e = .returned (.bool (rightF n f s)) ∧ Below w.heap.size w w' := by
  have H : Hid (∀ wx, Calls Tryz.prog 95 #[.float .f64 f] wx fun e w' => e = .returned (.bool (finB f)) ∧ w' = wx) := fun wx => writ_any f wx hf
  unfold rightF
  generalize finB f = F at *
  clear hf
  go_enter Tryz.func71, Tryz.ntmps71
  go_wp2
  go_quiet (fail)
  go_wp2_with (first | (go_at_call 95; refine (H.out _).mono ?_; rintro e _ ⟨rfl, rfl⟩) | fail)
  all_goals
    go_ret
    refine ⟨?_, ?_⟩
    · first | rfl | (simp [*]; done) | (simp [*]; omega)
    · first | exact bel_box _ _ _ | exact below_drewN (bel_box _ _ _) _
end V
namespace V
def rightT (n : Int) (f : Nat) (s : ByteArray) : Bool := decide (n = 0) && decide (f = 0) && decide ((s.size : Int) ≤ 1000) && Lib.validD s.data.toList
theorem right26_4 (n : Int) (f : Nat) (s : ByteArray) (w : World) (hs : s.size ≤ 9223372036854775807) (hT : Tabs w) :
    Calls Tryz.prog 71 #[.agg #[.int .u8 4, .int .i64 n, .float .f64 f, .string s]] w fun e w' => e = .returned (.bool (rightT n f s)) ∧ Below w.heap.size w w' := by
  have HV : Hid (∀ wx, Below w.heap.size w wx → Calls Tryz.prog 94 #[.string s] wx fun e w' => e = .returned (.bool (Lib.validD s.data.toList)) ∧ Below w.heap.size w w') := fun wx hx => (valid_any s wx hs (hT.below hx)).mono fun e w' h => ⟨h.1, hx.trans (h.2.mono hx.size)⟩
  have eR : Hid (rightT n f s = (decide (n = 0) && decide (f = 0) && decide ((s.size : Int) ≤ 1000) && Lib.validD s.data.toList)) := rfl
  rw [eR.out]
  clear eR
  generalize Lib.validD s.data.toList = V at *
  clear hT
  go_enter Tryz.func71, Tryz.ntmps71
  go_wp2
  go_quiet (fail)
  go_wp2_with (first | (go_at_call 94; refine (HV.out _ ?_).mono ?_; (first | exact bel_box _ _ _ | exact below_drewN (bel_box _ _ _) _); rintro e w1 ⟨rfl, b1⟩) | fail)
  all_goals
    go_ret
    refine ⟨?_, ?_⟩
    · first | rfl | (simp [*]; done) | (simp [*]; omega)
    · first | assumption | exact bel_box _ _ _ | exact below_drewN (bel_box _ _ _) _
def rightV (k n : Int) (f : Nat) (s : ByteArray) : Bool := if k = 3 then rightF n f s else if k = 4 then rightT n f s else rightB k n f s
theorem rightB_high (k n : Int) (f : Nat) (s : ByteArray) (h : 12 ≤ k) : rightB k n f s = false := by
  unfold rightB
  rw [if_neg (by omega), if_neg (by omega), if_neg (by omega), if_neg (by omega), if_neg (by omega)]
theorem right26_any (k n : Int) (f : Nat) (s : ByteArray) (w : World) (hk : 0 ≤ k) (hf : f < 18446744073709551616) (hs : s.size ≤ 9223372036854775807) (hT : Tabs w) :
    Calls Tryz.prog 71 #[.agg #[.int .u8 k, .int .i64 n, .float .f64 f, .string s]] w fun e w' => e = .returned (.bool (rightV k n f s)) ∧ Below w.heap.size w w' := by
  rcases (show k = 0 ∨ k = 1 ∨ k = 2 ∨ k = 3 ∨ k = 4 ∨ k = 5 ∨ k = 6 ∨ k = 7 ∨ k = 8 ∨ k = 9 ∨ k = 10 ∨ k = 11 ∨ 12 ≤ k by omega) with rfl | rfl | rfl | rfl | rfl | rfl | rfl | rfl | rfl | rfl | rfl | rfl | h
  · exact right26_0 n f s w
  · exact right26_1 n f s w
  · exact right26_2 n f s w
  · exact right26_3 n f s w hf
  · exact right26_4 n f s w hs hT
  · exact right26_5 n f s w
  · exact right26_6 n f s w
  · exact right26_7 n f s w
  · exact right26_8 n f s w
  · exact right26_9 n f s w
  · exact right26_10 n f s w
  · exact right26_11 n f s w
  · have e : rightV k n f s = false := by unfold rightV; rw [if_neg (by omega), if_neg (by omega)]; exact rightB_high k n f s h
    rw [e]
    exact right26_o k n f s w h
end V
end Go.Proofs.YtifendlpeebofaaGreatDoor.K
namespace Go.Proofs.YtifendlpeebofaaGreatDoor
open Go.RowKit
def okC (n : Nat) : Bool := decide (32 ≤ n) && decide (n ≠ 127)
def plainB (s : ByteArray) : Bool := s.data.toList.all fun c => okC c.toNat
def rightB (s : ByteArray) : Bool := plainB s && Lib.validD s.data.toList
def keyB (s : ByteArray) : Bool := decide (0 < s.size) && decide (s.size ≤ 64) && rightB s
theorem by8_at (s : ByteArray) (i : Nat) (hi : i < s.data.toList.length) : K.V.by8 s i = (s.data.toList[i]).toNat := by
  unfold K.V.by8
  rw [List.getD_eq_getElem?_getD, List.getElem?_eq_getElem hi]
  rfl
theorem plain_iff (s : ByteArray) : plainB s = true ↔ ∀ i, i < s.size → okC (K.V.by8 s i) = true := by
  unfold plainB
  have hz : s.data.toList.length = s.size := Array.length_toList
  rw [List.all_eq_true]
  constructor
  · intro h i hi
    rw [by8_at s i (by omega)]
    exact h _ (List.getElem_mem _)
  · intro h c hc
    obtain ⟨i, hi, rfl⟩ := List.getElem_of_mem hc
    have := h i (by omega)
    rw [by8_at s i hi] at this
    exact this
theorem plain_no {s : ByteArray} {i : Nat} (hi : i < s.size) (h : okC (K.V.by8 s i) = false) : plainB s = false := by
  cases hp : plainB s with
  | false => rfl
  | true => rw [(plain_iff s).1 hp i hi] at h; cases h
theorem okC_no {n : Nat} (h : okC n = false) (h1 : ¬ (n : Int) < 32) : (n : Int) = 127 := by
  unfold okC at h
  simp at h
  omega
theorem okC_yes {n : Nat} (h : okC n = true) : ¬ (n : Int) < 32 ∧ ¬ (n : Int) = 127 := by
  unfold okC at h
  simp at h
  omega
theorem wright_any (s : ByteArray) (w : World) (hs : s.size ≤ 140737488355328) (hT : K.V.Tabs w) :
    Calls Tryz.prog 70 #[.string s] w fun e w' => e = .returned (.bool (rightB s)) ∧ Below w.heap.size w w' := by
  have HV := hidMk (K.V.valid_any s w (by omega) hT)
  have HP : Hid (plainB s = true → rightB s = Lib.validD s.data.toList) := fun h => by unfold rightB; rw [h]; rfl
  have HF : Hid (plainB s = false → rightB s = false) := fun h => by unfold rightB; rw [h]; rfl
  have HI := hidMk (plain_iff s)
  have HN : Hid (∀ i, i < s.size → okC (K.V.by8 s i) = false → plainB s = false) := fun i h1 h2 => plain_no h1 h2
  have HX : Hid (∀ k, k < s.size → ∀ wx, (Instr.index 9 (.string s) (.int .i64 (k : Int))).run Tryz.prog wx = .ok (.int .u8 (K.V.by8 s k : Int)) wx) := fun k h wx => K.V.index_str s k wx h
  have HB := hidMk (K.V.by8_lt s)
  generalize Lib.validD s.data.toList = D at *
  generalize rightB s = R at *
  clear hT
  go_enter Tryz.func70, Tryz.ntmps70
  go_wp2
  go_loopw [6] (fun i wr => ∃ k : Nat, k ≤ s.size ∧ i = .int .i64 k ∧ wr = w ∧ Hid (∀ j, j < k → okC (K.V.by8 s j) = true)) (fun i _ => s.size - (intOf i).toNat)
  case atStart => exact ⟨0, by omega, rfl, rfl, fun j hj => by omega⟩
  case round =>
    obtain ⟨k, hk, rfl, rfl, HK⟩ := hrel
    by_cases hks : k < s.size
    · have hks' : (k : Int) < (s.size : Int) := by omega
      have ix := HX.out k hks
      have hb := HB.out k
      cases hok : okC (K.V.by8 s k) with
      | true =>
        obtain ⟨o1, o2⟩ := okC_yes hok
        have HK2 : Hid (∀ j, j < k + 1 → okC (K.V.by8 s j) = true) := fun j hj => by
          rcases Nat.lt_or_ge j k with h | h
          · exact HK.out j h
          · obtain rfl : j = k := by omega
            exact hok
        clear hok HK
        generalize K.V.by8 s k = c at *
        go_wp2
        go_roundw
        case rel => exact ⟨k + 1, by omega, by go_num, by trivial, HK2⟩
        case measure => simp [intOf]; omega
      | false =>
        have HR : Hid (R = false) := HF.out (HN.out k hks hok)
        have ho := @okC_no _ hok
        clear hok HK HF HN HP
        generalize K.V.by8 s k = c at *
        by_cases h1 : (c : Int) < 32
        · go_wp2
          go_ret
          exact ⟨by rw [HR.out]; rfl, Below.refl _ _⟩
        · have h2 := ho h1
          clear ho
          go_wp2
          go_ret
          exact ⟨by rw [HR.out]; rfl, Below.refl _ _⟩
    · have hks' : ¬ (k : Int) < (s.size : Int) := by omega
      have HR : Hid (R = D) := HP.out (HI.out.2 fun j hj => HK.out j (by omega))
      clear HK HF HN HP HX
      go_wp2_with fail
      refine HV.out.mono ?_
      rintro e w1 ⟨rfl, b1⟩
      skip
      go_wp2
      go_ret
      exact ⟨by rw [HR.out]; rfl, b1⟩
theorem wkey_any (s : ByteArray) (w : World) (hT : K.V.Tabs w) :
    Calls Tryz.prog 40 #[.string s] w fun e w' => e = .returned (.bool (keyB s)) ∧ Below w.heap.size w w' := by
  have H := hidMk (fun (hq : s.size ≤ 64) => wright_any s w (by omega) hT)
  have HK : Hid (keyB s = (decide (0 < s.size) && decide (s.size ≤ 64) && rightB s)) := rfl
  generalize rightB s = R at *
  generalize keyB s = B at *
  clear hT
  by_cases h0 : s.size = 0
  · have HB : Hid (B = false) := by show _ = _; rw [HK.out, h0]; rfl
    have e0 : s.toList.isEmpty = true := by
      rw [ByteArray.toList_eq, show s.data.toList = [] from List.eq_nil_of_length_eq_zero (by rw [Array.length_toList]; exact h0)]
      rfl
    clear H HK
    go_enter Tryz.func40, Tryz.ntmps40
    go_wp2
    go_ret
    exact ⟨by rw [HB.out]; rfl, Below.refl _ _⟩
  · have h0' : (1 : Int) ≤ (s.size : Int) := by omega
    have e0 : s.toList.isEmpty = false := K.V.not_empty s (by omega)
    by_cases h1 : s.size ≤ 64
    · have h1' : (s.size : Int) ≤ 64 := by omega
      have HB : Hid (B = R) := by show _ = _; rw [HK.out, decide_eq_true (show 0 < s.size by omega), decide_eq_true h1]; rfl
      clear HK
      go_enter Tryz.func40, Tryz.ntmps40
      go_wp2_with fail
      refine (H.out h1).mono ?_
      rintro e w1 ⟨rfl, b1⟩
      skip
      go_wp2
      go_ret
      exact ⟨by rw [HB.out]; rfl, b1⟩
    · have h1' : ¬ (s.size : Int) ≤ 64 := by omega
      have HB : Hid (B = false) := by show _ = _; rw [HK.out, decide_eq_false h1, Bool.and_false]; rfl
      clear H HK
      go_enter Tryz.func40, Tryz.ntmps40
      go_wp2
      go_ret
      exact ⟨by rw [HB.out]; rfl, Below.refl _ _⟩
end Go.Proofs.YtifendlpeebofaaGreatDoor
namespace Go.Proofs.YtifendlpeebofaaGreatDoor
open Go.RowKit Sq
def VaAt (w : World) (b : Nat) (x : VaV) : Prop := w.heap[b]? = some (.cells x.c.toArray 40 (0, 0))
theorem VaAt.below {w w' : World} {b : Nat} {x : VaV} (h : VaAt w b x) (hb : Below w.heap.size w w') : VaAt w' b x := (hb.block b (Array.getElem?_eq_some_iff.1 h).1).trans h
theorem load_va {W : World} {b : Nat} {x : VaV} (h : VaAt W b x) : (Instr.loadAt 40 (.pointer (some ⟨b, 0, none⟩))).run Tryz.prog W = .ok x.v W :=
  run_loadAt_mid (P := Tryz.prog) W b 0 40 x.c _ (cells_range h) Tryz.underlying40 rfl (by rw [VaV.len]; exact szVa)
theorem load_kd {W : World} {b : Nat} {x : VaV} (h : VaAt W b x) : (Instr.loadAt 37 (.pointer (some ⟨b, 0 + 0, none⟩))).run Tryz.prog W = .ok (.int .u8 x.k) W := by
  have hc : W.cell? ⟨b, 0, none⟩ = some (.int .u8 x.k) := (cell_of_row W b 0 _ _ _ h).trans rfl
  go_simp
def VaV.right (x : VaV) : Bool := K.V.rightV x.k x.n x.f x.s
def vaC (x : VaV) : Int := if x.right = true then 0 else 30
theorem vright_any (x : VaV) (hx : x.ok) (w : World) (hT : K.V.Tabs w) : Calls Tryz.prog 41 #[x.v] w fun e w' => e = .returned (.int .i64 (vaC x)) ∧ Below w.heap.size w w' := by
  have b1 : Below w.heap.size w (w.alloc (.cells x.c.toArray 40)) := (Below.refl _ _).alloc (Nat.le_refl _) _
  have n1 : VaAt (w.alloc (.cells x.c.toArray 40)) w.heap.size x := heap_alloc_new _ _
  have L1 := hidMk (load_va n1)
  have CR : Hid (Calls Tryz.prog 71 #[x.v] (w.alloc (.cells x.c.toArray 40)) fun e w' => e = .returned (.bool x.right) ∧ Below (w.alloc (.cells x.c.toArray 40)).heap.size (w.alloc (.cells x.c.toArray 40)) w') := K.V.right26_any x.k x.n x.f x.s _ hx.k0 hx.ff (Nat.le_trans hx.ss (by decide)) (hT.below b1)
  have HE : Hid (vaC x = if x.right = true then 0 else 30) := rfl
  have B1 := hidMk b1
  clear b1 n1 hT hx
  generalize vaC x = res at *
  generalize x.right = g at *
  show Calls Tryz.prog 41 #[.agg x.c.toArray] w _
  go_enter Tryz.func41, Tryz.ntmps41
  go_upto_region 1 with fail
  generalize w.alloc (.cells x.c.toArray 40) = w1 at *
  go_wp2_with (first
    | (refine wload w1 rfl rfl rfl L1.out rfl ?_)
    | (go_at_call 71; refine CR.out.mono ?_; rintro e w2 ⟨rfl, b2⟩; have B2 := hidMk b2; clear b2)
    | fail)
  all_goals
    go_ret
    exact ⟨by rw [HE.out]; cases g <;> simp_all, B1.out.trans (B2.out.mono B1.out.size)⟩
theorem vscalar_any (k : Int) (w : World) : Calls Tryz.prog 42 #[.int .u8 k] w fun e w' => e = .returned (.bool (decide (k ≤ 7))) ∧ w' = w := by
  go_enter Tryz.func42, Tryz.ntmps42
  go_wp2
  go_ret
  exact ⟨rfl, rfl⟩
structure Mx where
  mb : Nat
  lv : Value
  ib : Nat
  L : List MkV
def unV : Value := .agg #[]
def idE (L : List MkV) : List (IdK × Value) := L.map (fun x => (x.id, unV))
structure MkAt (w : World) (base : Nat) (m : Mx) : Prop where
  cell : w.heap[m.mb]? = some (.cells #[m.lv, .map (some m.ib)] 87 (0, 0))
  lo : RM.Lo w base m.lv m.L
  ok : ∀ x ∈ m.L, x.ok ∧ (0 ≤ x.sd ∧ x.sd ≤ 3)
  map : M.MapAt w m.ib IdK.v IdK.ok (idE m.L)
  n : m.L.length ≤ 900000000000
theorem MkAt.below {w w' : World} {base : Nat} {m : Mx} (h : MkAt w base m) (b : Below w.heap.size w w') : MkAt w' base m :=
  ⟨(b.block _ (Array.getElem?_eq_some_iff.1 h.cell).1).trans h.cell, h.lo.below b, h.ok, h.map.below (b.block _ h.map.lt), h.n⟩
theorem idE_look (L : List MkV) (k : IdK) : M.look (idE L) k = if (∃ x ∈ L, x.id = k) then some unV else none := by
  induction L with
  | nil => simp [idE, M.look_nil]
  | cons x L ih =>
    show M.look ((x.id, unV) :: idE L) k = _
    rw [M.look_cons, ih]
    by_cases e : k = x.id
    · rw [if_pos e, if_pos ⟨x, by simp, e.symm⟩]
    · rw [if_neg e]
      by_cases q : ∃ y ∈ L, y.id = k
      · rw [if_pos q, if_pos (by obtain ⟨y, hy, r⟩ := q; exact ⟨y, by simp [hy], r⟩)]
      · rw [if_neg q, if_neg (fun r => by
          obtain ⟨y, hy, r⟩ := r
          rcases List.mem_cons.1 hy with rfl | hy
          · exact e r.symm
          · exact q ⟨y, hy, r⟩)]
def hasM (L : List MkV) (k : IdK) : Bool := L.any fun x => decide (x.id = k)
theorem hasM_iff {L : List MkV} {k : IdK} : hasM L k = true ↔ ∃ x ∈ L, x.id = k := by simp [hasM]
theorem zeroUn (w : World) : (zeroValue 96).run Tryz.prog w = .ok unV w := by kernel_rfl
section
variable {w : World} {base : Nat} {m : Mx}
theorem MkAt.lookk (h : MkAt w base m) {k : IdK} (hk : k.ok) : (Instr.lookup 84 (.map (some m.ib)) k.v true).run Tryz.prog w = .ok (.tuple #[.agg #[], .bool (hasM m.L k)]) w := by
  rw [M.run_look idKey Tryz.underlying84 h.map k hk (zeroUn w) true, M.has_look, idE_look]
  by_cases q : ∃ x ∈ m.L, x.id = k
  · rw [if_pos q, hasM_iff.2 q]; rfl
  · rw [if_neg q]
    have : hasM m.L k = false := by
      cases e : hasM m.L k with
      | false => rfl
      | true => exact absurd (hasM_iff.1 e) q
    rw [this]; rfl
theorem MkAt.ldm (h : MkAt w base m) : (Instr.loadAt 84 (.pointer (some ⟨m.mb, 0 + 1, none⟩))).run Tryz.prog w = .ok (.map (some m.ib)) w := by
  have hc : w.cell? ⟨m.mb, 1, none⟩ = some (.map (some m.ib)) := (cell_of_row w m.mb 1 _ _ _ h.cell).trans rfl
  go_simp
theorem MkAt.lvS (h : MkAt w base m) : ∃ a c, m.lv = .slice a m.L.length c ∧ RM.At w a m.L := by
  obtain ⟨a, c, e, hat, _⟩ := h.lo.open RM_is (fun x hx => (h.ok x hx).1)
  exact ⟨a, c, e, hat⟩
theorem MkAt.ldl (h : MkAt w base m) : (Instr.loadAt 85 (.pointer (some ⟨m.mb, 0 + 0, none⟩))).run Tryz.prog w = .ok m.lv w := by
  obtain ⟨a, c, e, _⟩ := h.lvS
  have hc : w.cell? ⟨m.mb, 0, none⟩ = some (.slice a m.L.length c) := by rw [← e]; exact (cell_of_row w m.mb 0 _ _ _ h.cell).trans rfl
  rw [e]
  go_simp
theorem un_new (W : World) : ∃ w1 w2, (Instr.alloc 96 true (.tuple #[])).run Tryz.prog W = .ok (.pointer (some ⟨W.heap.size, 0, none⟩)) w1 ∧ Below W.heap.size W w1 ∧ (Instr.storeAt 96 (.pointer (some ⟨W.heap.size, 0, none⟩)) (.agg #[])).run Tryz.prog w1 = .ok () w2 ∧ Below W.heap.size W w2 := by
  have b1 : Below W.heap.size W (W.alloc (.cells #[] 96)) := (Below.refl _ _).alloc (Nat.le_refl _) _
  have hc : (W.alloc (.cells #[] 96)).heap[W.heap.size]? = some (.cells #[] 96 (0, 0)) := heap_alloc_new _ _
  have e2 := run_storeVar_row (P := Tryz.prog) (W.alloc (.cells #[] 96)) W.heap.size 96 96 #[] #[] hc (by kernel_rfl) rfl (by simp)
  refine ⟨W.alloc (.cells #[] 96), _, by kernel_rfl, b1, ?_, b1.trans (set_below #[] b1.size (Nat.le_refl _))⟩
  simp only [Instr.storeAt, Instr.sureAddr, Sem.run_bind, Sem.run_pure, Result.andThen_ok, e2]
theorem mhas_any (h : MkAt w base m) {k : IdK} (hk : k.ok) : Calls Tryz.prog 39 #[.pointer (some ⟨m.mb, 0, none⟩), k.v] w fun e w' => e = .returned (.bool (hasM m.L k)) ∧ Below w.heap.size w w' := by
  have bx : Below w.heap.size w (w.alloc (.cells k.c.toArray 36)) := (Below.refl _ _).alloc (Nat.le_refl _) _
  have hx := id_new w k
  show Calls Tryz.prog 39 #[.pointer (some ⟨m.mb, 0, none⟩), .agg k.c.toArray] w _
  go_enter Tryz.func39, Tryz.ntmps39
  go_upto_region 1 with fail
  generalize w.alloc (.cells k.c.toArray 36) = wx at *
  have h1 := h.below bx
  have HX := hidMk hx
  obtain ⟨w1, w2, e1, b1, e2, b2⟩ := un_new wx.drew
  have bd : Below wx.heap.size wx wx.drew := (Below.refl _ _).drew
  have bd1 := bd.trans (b1.mono bd.size)
  have bd2 := bd.trans (b2.mono bd.size)
  clear hx
  refine mha1 (k := k) (r := hasM m.L k) (ib := m.ib) (eb := wx.heap.size) (w1 := w1) (w2 := w2) (fun W => Below wx.heap.size wx W) _ wx _ rfl rfl rfl bd (fun W b => (h1.below b).ldm) (fun W b => load_id hk (HX.out.below b)) (fun W b => (h1.below b).lookk hk) e1 bd1 e2 bd2 ?_
  intro a' w3 hw ha
  subst ha
  simp only [Act.put, List.setIfInBounds_toArray, List.set_cons_zero, List.set_cons_succ]
  clear e1 e2 b1 b2 bd bd1 bd2
  go_wp2
  go_ret
  exact ⟨rfl, bx.trans (hw.mono bx.size)⟩
end
theorem build_un (w : World) : (Instr.build 96 #[]).run Tryz.prog w = .ok (.agg #[]) w := by kernel_rfl
theorem build_span (w : World) (a b : Int) (nm : ByteArray) (v : VaV) : (Instr.build 65 #[(0, .int .i64 a), (1, .int .i64 b), (2, .string nm), (3, v.v)]).run Tryz.prog w = .ok (SpV.a ⟨a, b, nm, v⟩) w := by
  obtain ⟨k, n, f, s⟩ := v
  kernel_rfl
theorem build_mk0 (w : World) (a0 a1 a2 a3 a4 a5 a6 a7 a8 a9 a10 a11 a12 a13 a14 a15 a16 a17 a18 a19 a20 a21 a22 a23 a24 a25 a26 a27 a28 a29 a30 a31 a32 b0 b1 b2 b3 b4 b5 b6 b7 b8 b9 b10 b11 b12 b13 b14 b15 b16 b17 b18 b19 b20 b21 b22 b23 b24 b25 b26 b27 b28 b29 b30 b31 b32 c0 c1 c2 c3 c4 c5 c6 c7 c8 c9 c10 c11 c12 c13 c14 c15 c16 c17 c18 c19 c20 c21 c22 c23 c24 c25 c26 c27 c28 c29 c30 c31 c32 : Value) (nm : ByteArray) (k n sd : Int) (f : Nat) (t : ByteArray) : (Instr.build 95 #[(0, .agg #[a0, a1, a2, a3, a4, a5, a6, a7, a8, a9, a10, a11, a12, a13, a14, a15, a16, a17, a18, a19, a20, a21, a22, a23, a24, a25, a26, a27, a28, a29, a30, a31, a32]), (1, .string nm), (2, .agg #[.int .u8 k, .int .i64 n, .float .f64 f, .string t]), (3, .agg #[b0, b1, b2, b3, b4, b5, b6, b7, b8, b9, b10, b11, b12, b13, b14, b15, b16, b17, b18, b19, b20, b21, b22, b23, b24, b25, b26, b27, b28, b29, b30, b31, b32]), (4, .agg #[c0, c1, c2, c3, c4, c5, c6, c7, c8, c9, c10, c11, c12, c13, c14, c15, c16, c17, c18, c19, c20, c21, c22, c23, c24, c25, c26, c27, c28, c29, c30, c31, c32]), (5, .int .i64 sd)]).run Tryz.prog w = .ok (.agg #[a0, a1, a2, a3, a4, a5, a6, a7, a8, a9, a10, a11, a12, a13, a14, a15, a16, a17, a18, a19, a20, a21, a22, a23, a24, a25, a26, a27, a28, a29, a30, a31, a32, .string nm, .int .u8 k, .int .i64 n, .float .f64 f, .string t, b0, b1, b2, b3, b4, b5, b6, b7, b8, b9, b10, b11, b12, b13, b14, b15, b16, b17, b18, b19, b20, b21, b22, b23, b24, b25, b26, b27, b28, b29, b30, b31, b32, c0, c1, c2, c3, c4, c5, c6, c7, c8, c9, c10, c11, c12, c13, c14, c15, c16, c17, c18, c19, c20, c21, c22, c23, c24, c25, c26, c27, c28, c29, c30, c31, c32, .int .i64 sd]) w := by kernel_rfl
theorem build_mk (w : World) {x : MkV} (hx : x.ok) : (Instr.build 95 #[(0, x.id.v), (1, .string x.nm), (2, x.v.v), (3, x.fr.v), (4, x.to.v), (5, .int .i64 x.sd)]).run Tryz.prog w = .ok x.a w := by
  have h1 := IdK.len hx.i
  have h2 := IdK.len hx.fr
  have h3 := IdK.len hx.to
  unfold MkV.a MkV.c IdK.v VaV.v VaV.c
  generalize x.id.c = l at *
  generalize x.fr.c = m at *
  generalize x.to.c = r at *
  match l, h1, m, h2, r, h3 with
  | a0 :: a1 :: a2 :: a3 :: a4 :: a5 :: a6 :: a7 :: a8 :: a9 :: a10 :: a11 :: a12 :: a13 :: a14 :: a15 :: a16 :: a17 :: a18 :: a19 :: a20 :: a21 :: a22 :: a23 :: a24 :: a25 :: a26 :: a27 :: a28 :: a29 :: a30 :: a31 :: a32 :: [], _, b0 :: b1 :: b2 :: b3 :: b4 :: b5 :: b6 :: b7 :: b8 :: b9 :: b10 :: b11 :: b12 :: b13 :: b14 :: b15 :: b16 :: b17 :: b18 :: b19 :: b20 :: b21 :: b22 :: b23 :: b24 :: b25 :: b26 :: b27 :: b28 :: b29 :: b30 :: b31 :: b32 :: [], _, c0 :: c1 :: c2 :: c3 :: c4 :: c5 :: c6 :: c7 :: c8 :: c9 :: c10 :: c11 :: c12 :: c13 :: c14 :: c15 :: c16 :: c17 :: c18 :: c19 :: c20 :: c21 :: c22 :: c23 :: c24 :: c25 :: c26 :: c27 :: c28 :: c29 :: c30 :: c31 :: c32 :: [], _ => exact build_mk0 w a0 a1 a2 a3 a4 a5 a6 a7 a8 a9 a10 a11 a12 a13 a14 a15 a16 a17 a18 a19 a20 a21 a22 a23 a24 a25 a26 a27 a28 a29 a30 a31 a32 b0 b1 b2 b3 b4 b5 b6 b7 b8 b9 b10 b11 b12 b13 b14 b15 b16 b17 b18 b19 b20 b21 b22 b23 b24 b25 b26 b27 b28 b29 b30 b31 b32 c0 c1 c2 c3 c4 c5 c6 c7 c8 c9 c10 c11 c12 c13 c14 c15 c16 c17 c18 c19 c20 c21 c22 c23 c24 c25 c26 c27 c28 c29 c30 c31 c32 x.nm x.v.k x.v.n x.sd x.v.f x.v.s
def addC (L : List MkV) (x : MkV) : Int := if x.id.n < 1 then 2 else if x.sd < 0 then 2 else if x.sd > 3 then 2 else if hasM L x.id = true then 5 else if keyB x.nm = false then 41 else if x.v.right = false then 30 else if x.v.k ≤ 7 then 0 else 30
def addR (L : List MkV) (x : MkV) : List MkV := if addC L x = 0 then L ++ [x] else L
def MkN (m : Mx) (base : Nat) (L' : List MkV) (w w' : World) : Prop := ∃ m', MkAt w' base m' ∧ m'.mb = m.mb ∧ m'.ib = m.ib ∧ m'.L = L' ∧ (m'.lv.ownBlock = m.lv.ownBlock ∨ ∀ j, m'.lv.ownBlock = some j → w.heap.size ≤ j) ∧ Tch (fun j => j = m.mb ∨ j = m.ib ∨ m.lv.ownBlock = some j) w w'
theorem two_typesM {w : World} {j : Nat} {c c' : Array Value} {t t' : TypeId} {f f' : Nat × Nat} (h : w.heap[j]? = some (.cells c t f)) (h' : w.heap[j]? = some (.cells c' t' f')) : t = t' := by
  rw [h] at h'
  injection h' with h'
  injection h' with _ h' _
theorem addM_nil {L : List MkV} {k : IdK} (h : hasM L k = false) : M.put (idE L) k unV = idE L ++ [(k, unV)] := by
  have hn : M.look (idE L) k = none := by
    rw [idE_look, if_neg (fun q => by rw [hasM_iff.2 q] at h; cases h)]
  unfold M.look at hn
  unfold M.put
  cases e : M.fnd (idE L) k 0 with
  | none => rfl
  | some q => rw [e] at hn; cases hn
section
variable {w W : World} {base : Nat} {m : Mx}
theorem MkN.same (h : MkAt w base m) (b : Below w.heap.size w W) : MkN m base m.L w W := ⟨m, h.below b, rfl, rfl, rfl, .inl rfl, tch_below b _⟩
theorem MkAt.apart (h : MkAt w base m) : m.lv.ownBlock ≠ some m.mb ∧ m.lv.ownBlock ≠ some m.ib ∧ m.mb ≠ m.ib := by
  refine ⟨fun e => ?_, fun e => ?_, fun e => ?_⟩
  · obtain ⟨_, c, hc⟩ := h.lo.cells e
    have := two_typesM hc h.cell
    revert this; decide
  · obtain ⟨_, c, hc⟩ := h.lo.cells e
    obtain ⟨⟨es, c2, hm, _⟩, _⟩ := h.map
    rw [hm] at hc
    cases hc
  · obtain ⟨⟨es, c2, hm, _⟩, _⟩ := h.map
    have := h.cell
    rw [e, hm] at this
    cases this
theorem st_list {lv : Value} {b i : Nat} {a : Option Addr} {n c : Nat} (h : W.heap[b]? = some (.cells #[lv, .map (some i)] 87 (0, 0))) (hl : ∃ a n c, lv = .slice a n c) : ∃ W', (Instr.storeAt 85 (.pointer (some ⟨b, 0 + 0, none⟩)) (.slice a n c)).run Tryz.prog W = .ok () W' ∧ W'.heap[b]? = some (.cells #[.slice a n c, .map (some i)] 87 (0, 0)) ∧ Tch (fun j => j = b) W W' := by
  obtain ⟨a0, n0, c0, rfl⟩ := hl
  have c2 : W.cell? ⟨b, 0, none⟩ = some (.slice a0 n0 c0) := (cell_of_row W b 0 _ _ _ h).trans rfl
  have f2 := frozen_of_row W b 0 _ _ h
  refine ⟨W.setCell ⟨b, 0, none⟩ (.slice a n c), ?_, ?_, ⟨rfl, rfl, rfl, by simp [World.setCell], fun j _ hj => Go.heap_setCell_other _ _ _ _ hj⟩⟩
  · go_simp
  · obtain ⟨hl2, hv⟩ := Array.getElem?_eq_some_iff.1 h
    simp [World.setCell, hl2, Array.getElem_modify_self, hv]
def AddS (m : Mx) (x : MkV) (b1 b2 b3 b4 : Nat) (W : World) : Prop := W.heap[m.mb]? = some (.cells #[m.lv, .map (some m.ib)] 87 (0, 0)) ∧ IdAt W b1 x.id ∧ VaAt W b2 x.v ∧ IdAt W b3 x.fr ∧ IdAt W b4 x.to
theorem AddS.below {x : MkV} {b1 b2 b3 b4 : Nat} {W' : World} (h : AddS m x b1 b2 b3 b4 W) (b : Below W.heap.size W W') : AddS m x b1 b2 b3 b4 W' :=
  ⟨(b.block _ (Array.getElem?_eq_some_iff.1 h.1).1).trans h.1, h.2.1.below b, h.2.2.1.below b, h.2.2.2.1.below b, h.2.2.2.2.below b⟩
theorem add_list (h : MkAt W base m) (hb : base ≤ W.heap.size) {x : MkV} (hx : x.ok) (hn : m.L.length + 1 ≤ 900000000000) {b1 b2 b3 b4 : Nat} (hS : AddS m x b1 b2 b3 b4 W) :
    ∃ sv w1 v2 w2 w3, (Instr.buildSlice 85 1 #[(0, x.a)]).run Tryz.prog W = .ok sv w1 ∧ AddS m x b1 b2 b3 b4 w1 ∧ (Builtin.append_ #[85, 85] 85 #[m.lv, sv]).run Tryz.prog w1 = .ok v2 w2 ∧ AddS m x b1 b2 b3 b4 w2 ∧ (Instr.storeAt 85 (.pointer (some ⟨m.mb, 0 + 0, none⟩)) v2).run Tryz.prog w2 = .ok () w3 ∧
      w3.heap[m.mb]? = some (.cells #[v2, .map (some m.ib)] 87 (0, 0)) ∧ RM.Lo w3 base v2 (m.L ++ [x]) ∧ (v2.ownBlock = m.lv.ownBlock ∨ ∀ j, v2.ownBlock = some j → W.heap.size ≤ j) ∧ Tch (fun j => j = m.mb ∨ m.lv.ownBlock = some j) W w3 := by
  have okL : ∀ y ∈ m.L, y.ok := fun y hy => (h.ok y hy).1
  obtain ⟨sv, w1, v2, w2, e1, e2, lo, bl1, z1, g, q, _⟩ := RowT.lo_push RM_is W base m.lv m.L okL x h.lo hx (by unfold maxLen; omega) (by show _ * 184 ≤ _; omega) hb
  have okx : ∀ y ∈ m.L ++ [x], y.ok := fun y hy => by
    rcases List.mem_append.1 hy with hy | hy
    · exact okL y hy
    · rw [List.mem_singleton.1 hy]; exact hx
  have S1 := hS.below bl1
  have own : ∀ j, m.lv.ownBlock = some j → ∃ c, w1.heap[j]? = some (.cells c 95 (0, 0)) := fun j hj => ((h.below bl1).lo.cells hj).2
  have keep : ∀ {j : Nat} {c : Array Value} {t : TypeId} {f : Nat × Nat}, w1.heap[j]? = some (.cells c t f) → t ≠ 95 → w2.heap[j]? = some (.cells c t f) := fun hj ht =>
    (g.block _ (Array.getElem?_eq_some_iff.1 hj).1 (fun e => by
      obtain ⟨c2, hc2⟩ := own _ e.symm
      exact ht (two_typesM hj hc2))).trans hj
  have S2 : AddS m x b1 b2 b3 b4 w2 := ⟨keep S1.1 (by decide), keep S1.2.1 (by decide), keep S1.2.2.1 (by decide), keep S1.2.2.2.1 (by decide), keep S1.2.2.2.2 (by decide)⟩
  obtain ⟨a2, c2, ev, _⟩ := lo.open RM_is okx
  obtain ⟨a0, c0, e0, _⟩ := h.lvS
  obtain ⟨w3, e3, n3, t3⟩ := st_list (a := a2) (n := (m.L ++ [x]).length) (c := c2) S2.1 ⟨a0, _, c0, e0⟩
  have n2 : v2.ownBlock ≠ some m.mb := fun e => by
    obtain ⟨_, c, hc⟩ := lo.cells e
    have := two_typesM hc S2.1
    revert this; decide
  refine ⟨sv, w1, v2, w2, w3, e1, S1, e2, S2, by rw [ev]; exact e3, by rw [ev]; exact n3, lo.keep (fun j hj => t3.block j (lo.lt hj) (fun e => n2 (by rw [← e]; exact hj))), q.imp id (fun q j hj => by rw [q] at hj; injection hj with hj; have := bl1.size; omega), ?_⟩
  have t1 : Tch (fun j => j = m.mb ∨ m.lv.ownBlock = some j) W w1 := tch_below bl1 _
  have t2 : Tch (fun j => j = m.mb ∨ m.lv.ownBlock = some j) w1 w2 := ⟨g.os, g.tape, g.output, g.size, fun j hj hO => g.block j hj (fun e => hO (.inr e.symm))⟩
  exact (t1.trans t2).trans (t3.mono (fun j _ e => .inl e))
end
theorem four_boxes (w : World) (k : IdK) (v : VaV) (f t : IdK) : ∃ wx, wx = (((w.alloc (.cells k.c.toArray 36)).alloc (.cells v.c.toArray 40)).alloc (.cells f.c.toArray 36)).alloc (.cells t.c.toArray 36) ∧ IdAt wx w.heap.size k ∧ VaAt wx (w.heap.size + 1) v ∧ IdAt wx (w.heap.size + 2) f ∧ IdAt wx (w.heap.size + 3) t ∧ Below w.heap.size w wx ∧ wx.heap.size = w.heap.size + 4 := by
  have al : ∀ (W : World) (o : Obj), (W.alloc o).heap.size = W.heap.size + 1 := fun W o => by simp
  have b1 : ∀ (W : World) (o : Obj), Below W.heap.size W (W.alloc o) := fun W o => (Below.refl _ _).alloc (Nat.le_refl _) _
  obtain ⟨w1, h1⟩ : ∃ W, w.alloc (.cells k.c.toArray 36) = W := ⟨_, rfl⟩
  obtain ⟨w2, h2⟩ : ∃ W, w1.alloc (.cells v.c.toArray 40) = W := ⟨_, rfl⟩
  obtain ⟨w3, h3⟩ : ∃ W, w2.alloc (.cells f.c.toArray 36) = W := ⟨_, rfl⟩
  obtain ⟨w4, h4⟩ : ∃ W, w3.alloc (.cells t.c.toArray 36) = W := ⟨_, rfl⟩
  have z1 : w1.heap.size = w.heap.size + 1 := by rw [← h1]; exact al _ _
  have z2 : w2.heap.size = w.heap.size + 2 := by rw [← h2, al, z1]
  have z3 : w3.heap.size = w.heap.size + 3 := by rw [← h3, al, z2]
  have z4 : w4.heap.size = w.heap.size + 4 := by rw [← h4, al, z3]
  have B1 : Below w.heap.size w w1 := by rw [← h1]; exact b1 _ _
  have B2 : Below w1.heap.size w1 w2 := by rw [← h2]; exact b1 _ _
  have B3 : Below w2.heap.size w2 w3 := by rw [← h3]; exact b1 _ _
  have B4 : Below w3.heap.size w3 w4 := by rw [← h4]; exact b1 _ _
  have i1 : IdAt w1 w.heap.size k := by rw [← h1]; exact heap_alloc_new _ _
  have i2 : VaAt w2 (w.heap.size + 1) v := by rw [← h2, ← z1]; exact heap_alloc_new _ _
  have i3 : IdAt w3 (w.heap.size + 2) f := by rw [← h3, ← z2]; exact heap_alloc_new _ _
  have i4 : IdAt w4 (w.heap.size + 3) t := by rw [← h4, ← z3]; exact heap_alloc_new _ _
  refine ⟨w4, by rw [← h4, ← h3, ← h2, ← h1], ((i1.below B2).below B3).below B4, (i2.below B3).below B4, i3.below B4, i4, ?_, z4⟩
  exact ((B1.trans (B2.mono (by omega))).trans (B3.mono (by omega))).trans (B4.mono (by omega))
section
variable {w : World} {base : Nat} {m : Mx}
theorem add_any (h : MkAt w base m) (hb : base ≤ w.heap.size) (hT : K.V.Tabs w) {x : MkV} (hx : x.ok) (hn : m.L.length + 1 ≤ 900000000000) :
    Calls Tryz.prog 12 #[.pointer (some ⟨m.mb, 0, none⟩), x.id.v, .string x.nm, x.v.v, x.fr.v, x.to.v, .int .i64 x.sd] w fun e w' => e = .returned (.int .i64 (addC m.L x)) ∧ MkN m base (addR m.L x) w w' := by
  obtain ⟨wx, ewx, i1, i2, i3, i4, bx, zx⟩ := four_boxes w x.id x.v x.fr x.to
  have HX := hidMk (And.intro i1 (And.intro i2 (And.intro i3 i4)))
  have HH := hidMk h
  have HT := hidMk hT
  have HK := hidMk hx
  have HB := hidMk hb
  have HNN := hidMk hn
  have BX := hidMk bx
  have ZX := hidMk zx
  have hlt : m.mb < w.heap.size := (Array.getElem?_eq_some_iff.1 h.cell).1
  have HLT := hidMk hlt
  have HC : Hid (addC m.L x = if x.id.n < 1 then 2 else if x.sd < 0 then 2 else if x.sd > 3 then 2 else if hasM m.L x.id = true then 5 else if keyB x.nm = false then 41 else if x.v.right = false then 30 else if x.v.k ≤ 7 then 0 else 30) := rfl
  have HR : Hid (addR m.L x = if addC m.L x = 0 then m.L ++ [x] else m.L) := rfl
  have HW := hidMk ewx
  have SAME : Hid (∀ (W : World) (c : Int), Below w.heap.size w W → addC m.L x = c → c ≠ 0 → (Ending.returned (.int .i64 c) : Ending) = .returned (.int .i64 (addC m.L x)) ∧ MkN m base (addR m.L x) w W) := fun W c b e hc => by
    refine ⟨by rw [e], ?_⟩
    rw [HR.out, if_neg (by rw [e]; exact hc)]
    exact MkN.same h b
  clear i1 i2 i3 i4 bx zx h hT hx hb hn hlt ewx
  show Calls Tryz.prog 12 #[.pointer (some ⟨m.mb, 0, none⟩), .agg x.id.c.toArray, .string x.nm, .agg x.v.c.toArray, .agg x.fr.c.toArray, .agg x.to.c.toArray, .int .i64 x.sd] w _
  generalize addR m.L x = rr at *
  generalize addC m.L x = cc at *
  go_enter Tryz.func12, Tryz.ntmps12
  go_upto_region 3 with fail
  rw [← HW.out]
  cases hn1 : decide (x.id.n < 1) with
  | true =>
    have HN := hidMk hn1
    clear hn1
    refine mad3a (k := x.id) (b1 := w.heap.size) _ wx _ rfl rfl HN.out (fun W e => by rw [e, Nat.zero_add]; exact ld_n HK.out.i HX.out.1) ?_
    intro a' w2 hw ha
    obtain rfl : wx = w2 := hw.symm
    subst ha
    simp only [Act.put, List.setIfInBounds_toArray, List.set_cons_zero, List.set_cons_succ]
    clear HX
    go_wp2
    go_ret
    exact SAME.out _ _ BX.out (by rw [HC.out, if_pos (of_decide_eq_true HN.out)]) (by decide)
  | false =>
    have HN := hidMk hn1
    clear hn1
    cases hs0 : decide (x.sd < 0) with
    | true =>
      have H0 := hidMk hs0
      clear hs0
      refine mad3b (k := x.id) (sd := x.sd) (b1 := w.heap.size) _ wx _ rfl rfl rfl HN.out H0.out (fun W e => by rw [e, Nat.zero_add]; exact ld_n HK.out.i HX.out.1) ?_
      intro a' w2 hw ha
      obtain rfl : wx = w2 := hw.symm
      subst ha
      simp only [Act.put, List.setIfInBounds_toArray, List.set_cons_zero, List.set_cons_succ]
      clear HX
      go_wp2
      go_ret
      exact SAME.out _ _ BX.out (by rw [HC.out, if_neg (of_decide_eq_false HN.out), if_pos (of_decide_eq_true H0.out)]) (by decide)
    | false =>
      have H0 := hidMk hs0
      clear hs0
      obtain ⟨r3, hr3⟩ : ∃ r, decide (x.sd > 3) = r := ⟨_, rfl⟩
      have H3 := hidMk hr3
      clear hr3
      refine mad3c (k := x.id) (sd := x.sd) (b1 := w.heap.size) (r := r3) _ wx _ rfl rfl rfl HN.out H0.out H3.out (fun W e => by rw [e, Nat.zero_add]; exact ld_n HK.out.i HX.out.1) ?_
      intro a' w2 hw ha
      obtain rfl : wx = w2 := hw.symm
      subst ha
      simp only [Act.put, List.setIfInBounds_toArray, List.set_cons_zero, List.set_cons_succ]
      cases r3 with
      | true =>
        clear HX
        go_wp2
        go_ret
        exact SAME.out _ _ BX.out (by rw [HC.out, if_neg (of_decide_eq_false HN.out), if_neg (of_decide_eq_false H0.out), if_pos (of_decide_eq_true H3.out)]) (by decide)
      | false =>
        have C0 : Hid (cc = if hasM m.L x.id = true then 5 else if keyB x.nm = false then 41 else if x.v.right = false then 30 else if x.v.k ≤ 7 then 0 else 30) := by
          show cc = _
          rw [HC.out, if_neg (of_decide_eq_false HN.out), if_neg (of_decide_eq_false H0.out), if_neg (of_decide_eq_false H3.out)]
        have HSD : Hid (0 ≤ x.sd ∧ x.sd ≤ 3) := by
          have h1 := of_decide_eq_false H0.out
          have h2 := of_decide_eq_false H3.out
          show 0 ≤ x.sd ∧ x.sd ≤ 3
          omega
        clear HC H3 H0
        go_upto_region 5 with fail
        refine mad5 (k := x.id) (b1 := w.heap.size) (r := hasM m.L x.id) (fun W => Below wx.heap.size wx W) _ wx _ rfl rfl rfl (fun W e => by rw [e]; exact load_id HK.out.i HX.out.1) (mhas_any (HH.out.below BX.out) HK.out.i) ?_
        intro a' w3 hf ha
        subst ha
        simp only [Act.put, List.setIfInBounds_toArray, List.set_cons_zero, List.set_cons_succ]
        have B3 : Hid (Below w.heap.size w w3) := BX.out.trans (hf.mono BX.out.size)
        have X3 : Hid (IdAt w3 w.heap.size x.id ∧ VaAt w3 (w.heap.size + 1) x.v ∧ IdAt w3 (w.heap.size + 2) x.fr ∧ IdAt w3 (w.heap.size + 3) x.to) := ⟨HX.out.1.below hf, HX.out.2.1.below hf, HX.out.2.2.1.below hf, HX.out.2.2.2.below hf⟩
        clear hf HX
        cases hq : hasM m.L x.id with
        | true =>
          have HQ := hidMk hq
          clear hq
          go_wp2
          go_ret
          exact SAME.out _ _ B3.out (by rw [C0.out, if_pos HQ.out]) (by decide)
        | false =>
          have HQ := hidMk hq
          clear hq
          go_upto_region 7 with fail
          obtain ⟨kb, hkb⟩ : ∃ r, keyB x.nm = r := ⟨_, rfl⟩
          have CK : Hid (Calls Tryz.prog 40 #[.string x.nm] w3 fun e w' => e = .returned (.bool kb) ∧ Below w3.heap.size w3 w') := by rw [← hkb]; exact wkey_any x.nm w3 (HT.out.below B3.out)
          have HKB := hidMk hkb
          clear hkb
          refine mad7 (nm := x.nm) (r := kb) (fun W => Below w3.heap.size w3 W) _ w3 _ rfl rfl CK.out ?_
          intro a' w4 hf ha
          subst ha
          simp only [Act.put, List.setIfInBounds_toArray, List.set_cons_zero, List.set_cons_succ]
          have B4 : Hid (Below w.heap.size w w4) := B3.out.trans (hf.mono B3.out.size)
          have X4 : Hid (IdAt w4 w.heap.size x.id ∧ VaAt w4 (w.heap.size + 1) x.v ∧ IdAt w4 (w.heap.size + 2) x.fr ∧ IdAt w4 (w.heap.size + 3) x.to) := ⟨X3.out.1.below hf, X3.out.2.1.below hf, X3.out.2.2.1.below hf, X3.out.2.2.2.below hf⟩
          clear hf CK X3 B3
          cases kb with
          | false =>
            go_wp2
            go_ret
            exact SAME.out _ _ B4.out (by rw [C0.out, if_neg (by rw [HQ.out]; decide), if_pos HKB.out]) (by decide)
          | true =>
            have C1 : Hid (cc = if x.v.right = false then 30 else if x.v.k ≤ 7 then 0 else 30) := by
              show cc = _
              rw [C0.out, if_neg (by rw [HQ.out]; decide), if_neg (by rw [HKB.out]; decide)]
            clear C0 HKB
            go_upto_region 9 with fail
            have CR := hidMk (vright_any x.v HK.out.v w4 (HT.out.below B4.out))
            cases hr : x.v.right with
            | false =>
              have ez : vaC x.v = 30 := by unfold vaC; rw [hr]; rfl
              rw [ez] at CR
              have HRR := hidMk hr
              clear hr ez
              refine mad9a (x := x.v) (b2 := w.heap.size + 1) (z := 30) (fun W => Below w4.heap.size w4 W) _ w4 _ rfl rfl (by decide) (fun W e => by rw [e]; exact load_va X4.out.2.1) CR.out ?_
              intro a' w5 hf ha
              subst ha
              simp only [Act.put, List.setIfInBounds_toArray, List.set_cons_zero, List.set_cons_succ]
              have B5 : Hid (Below w.heap.size w w5) := B4.out.trans (hf.mono B4.out.size)
              clear hf CR X4
              go_wp2
              go_ret
              exact SAME.out _ _ B5.out (by rw [C1.out, if_pos HRR.out]) (by decide)
            | true =>
              have ez : vaC x.v = 0 := by unfold vaC; rw [hr]; rfl
              rw [ez] at CR
              have HRR := hidMk hr
              clear hr ez
              obtain ⟨sc, hsc⟩ : ∃ r, decide (x.v.k ≤ 7) = r := ⟨_, rfl⟩
              have HSC := hidMk hsc
              clear hsc
              refine mad9b (x := x.v) (b2 := w.heap.size + 1) (z := 0) (r := sc) (fun W => Below w4.heap.size w4 W) _ w4 _ rfl rfl (by decide) (fun W e => by rw [e]; exact load_va X4.out.2.1) (CR.out.mono ?_) ?_
              · rintro e W ⟨rfl, b⟩
                refine ⟨rfl, load_kd (X4.out.2.1.below b), (vscalar_any x.v.k W).mono ?_⟩
                rintro e W' ⟨rfl, rfl⟩
                exact ⟨by rw [HSC.out], b⟩
              intro a' w5 hf ha
              subst ha
              simp only [Act.put, List.setIfInBounds_toArray, List.set_cons_zero, List.set_cons_succ]
              have B5 : Hid (Below w.heap.size w w5) := B4.out.trans (hf.mono B4.out.size)
              have X5 : Hid (IdAt w5 w.heap.size x.id ∧ VaAt w5 (w.heap.size + 1) x.v ∧ IdAt w5 (w.heap.size + 2) x.fr ∧ IdAt w5 (w.heap.size + 3) x.to) := ⟨X4.out.1.below hf, X4.out.2.1.below hf, X4.out.2.2.1.below hf, X4.out.2.2.2.below hf⟩
              clear hf CR X4 B4
              cases sc with
              | false =>
                go_wp2
                go_ret
                exact SAME.out _ _ B5.out (by rw [C1.out, if_neg (by rw [HRR.out]; decide), if_neg (of_decide_eq_false HSC.out)]) (by decide)
              | true =>
                have C2 : Hid (cc = 0) := by show cc = 0; rw [C1.out, if_neg (by rw [HRR.out]; decide), if_pos (of_decide_eq_true HSC.out)]
                clear C1 HSC HRR SAME
                have bd : Below w5.heap.size w5 w5.drew := (Below.refl _ _).drew
                have B6 : Hid (Below w.heap.size w w5.drew) := B5.out.drew
                have SA : Hid (AddS m x w.heap.size (w.heap.size + 1) (w.heap.size + 2) (w.heap.size + 3) w5.drew) := ⟨(HH.out.below B6.out).cell, X5.out.1.below bd, X5.out.2.1.below bd, X5.out.2.2.1.below bd, X5.out.2.2.2.below bd⟩
                obtain ⟨sv, y1, v2, y2, y3, e1, s1, e2, s2, e3, n3, lo3, q3, t3⟩ := add_list (HH.out.below B6.out) (Nat.le_trans HB.out B6.out.size) HK.out HNN.out SA.out
                have E := hidMk (And.intro e1 (And.intro s1 (And.intro e2 (And.intro s2 e3))))
                have LDL : Hid (∀ W, AddS m x w.heap.size (w.heap.size + 1) (w.heap.size + 2) (w.heap.size + 3) W → (Instr.loadAt 85 (.pointer (some ⟨m.mb, 0 + 0, none⟩))).run Tryz.prog W = .ok m.lv W) := fun W hS => by
                  obtain ⟨a, c, e, _⟩ := HH.out.lvS
                  have hc : W.cell? ⟨m.mb, 0, none⟩ = some (.slice a m.L.length c) := by rw [← e]; exact (cell_of_row W m.mb 0 _ _ _ hS.1).trans rfl
                  rw [e]
                  go_simp
                have mp3 : M.MapAt y3 m.ib IdK.v IdK.ok (idE m.L) := (HH.out.below B6.out).map.below (t3.block _ (HH.out.below B6.out).map.lt (fun q => by
                  have ap := (HH.out.below B6.out).apart
                  rcases q with q | q
                  · exact ap.2.2 q.symm
                  · exact ap.2.1 q))
                obtain ⟨ob, ep, mp4⟩ := M.run_put (P := Tryz.prog) (w := y3.drew) idKey Tryz.underlying84 (mp3.below rfl) x.id HK.out.i (.agg #[])
                have PUT : Hid (MkN m base rr w (M.setM y3.drew m.ib ob)) := by
                  show MkN m base rr w (M.setM y3.drew m.ib ob)
                  rw [HR.out, if_pos C2.out]
                  have ap := (HH.out.below B6.out).apart
                  have nib : ∀ j, v2.ownBlock = some j → j ≠ m.ib := fun j hj e => by
                    obtain ⟨_, c, hc⟩ := lo3.cells hj
                    obtain ⟨⟨es, c2, hm2, _⟩, _⟩ := mp3
                    rw [e, hm2] at hc
                    cases hc
                  have em := addM_nil HQ.out
                  have mp5 : M.MapAt (M.setM y3.drew m.ib ob) m.ib IdK.v IdK.ok (idE (m.L ++ [x])) := by
                    have e5 : idE (m.L ++ [x]) = M.put (idE m.L) x.id (.agg #[]) := by
                      rw [show M.put (idE m.L) x.id (.agg #[]) = M.put (idE m.L) x.id unV from rfl, em]
                      simp [idE]
                    rw [e5]
                    exact mp4
                  refine ⟨⟨m.mb, v2, m.ib, m.L ++ [x]⟩, ⟨(M.setM_other ob ap.2.2).trans n3, lo3.keep (fun j hj => M.setM_other ob (nib j hj)), fun y hy => ?_, mp5, by simp only [List.length_append, List.length_singleton]; exact HNN.out⟩, rfl, rfl, rfl, q3.imp id (fun q j hj => Nat.le_trans B6.out.size (q j hj)), ?_⟩
                  · rcases List.mem_append.1 hy with hy | hy
                    · exact HH.out.ok y hy
                    · rw [List.mem_singleton.1 hy]; exact ⟨HK.out, HSD.out⟩
                  · have t0 : Tch (fun j => j = m.mb ∨ j = m.ib ∨ m.lv.ownBlock = some j) w w5.drew := tch_below B6.out _
                    have t4 : Tch (fun j => j = m.mb ∨ j = m.ib ∨ m.lv.ownBlock = some j) w5.drew y3 := t3.mono (fun j _ e => e.elim .inl (fun q => .inr (.inr q)))
                    have t5 : Tch (fun j => j = m.mb ∨ j = m.ib ∨ m.lv.ownBlock = some j) y3 (M.setM y3.drew m.ib ob) := ⟨rfl, rfl, rfl, by rw [M.setM_size]; exact Nat.le_refl _, fun j _ hj => M.setM_other ob (fun e => hj (.inr (.inl e)))⟩
                    exact (t0.trans t4).trans t5
                have EP := hidMk ep
                have XY : Hid (IdAt y3.drew w.heap.size x.id ∧ y3.drew.heap[m.mb]? = some (.cells #[v2, .map (some m.ib)] 87 (0, 0))) := ⟨(t3.block _ (SA.out.2.1.lt) (fun q => by
                    rcases q with q | q
                    · have := HLT.out; omega
                    · obtain ⟨_, c, hc⟩ := HH.out.lo.cells q
                      have := (Array.getElem?_eq_some_iff.1 hc).1
                      omega)).trans SA.out.2.1, n3⟩
                clear e1 s1 e2 s2 e3 n3 lo3 q3 t3 mp3 ep mp4 bd X5 B5
                go_upto_region 11 with fail
                refine mad11 (x := x) (mb := m.mb) (b1 := w.heap.size) (b2 := w.heap.size + 1) (b3 := w.heap.size + 2) (b4 := w.heap.size + 3) (lv := m.lv) (sv := sv) (v2 := v2) (w1 := y1) (w2 := y2) (w3 := y3) (AddS m x w.heap.size (w.heap.size + 1) (w.heap.size + 2) (w.heap.size + 3)) _ w5 _ rfl rfl rfl rfl rfl rfl rfl rfl SA.out LDL.out (fun W hS => load_id HK.out.i hS.2.1) (fun W hS => load_va hS.2.2.1) (fun W hS => load_id HK.out.fr hS.2.2.2.1) (fun W hS => load_id HK.out.to hS.2.2.2.2) (fun W => build_mk W HK.out) E.out.1 E.out.2.1 E.out.2.2.1 E.out.2.2.2.1 E.out.2.2.2.2 ?_
                intro a' w6 hw ha
                obtain rfl : y3 = w6 := hw.symm
                subst ha
                simp only [Act.put, List.setIfInBounds_toArray, List.set_cons_zero, List.set_cons_succ]
                clear E LDL SA
                go_upto_region 12 with fail
                refine mad12 (mb := m.mb) (ib := m.ib) (b1 := w.heap.size) (k := x.id) (w2 := M.setM y3.drew m.ib ob) (fun W => W = y3.drew) _ y3 _ rfl rfl rfl rfl (fun W e => ?_) (fun W e => by rw [e]; exact load_id HK.out.i XY.out.1) (fun W => build_un W) EP.out ?_
                · have hc : W.cell? ⟨m.mb, 1, none⟩ = some (.map (some m.ib)) := by rw [e]; exact (cell_of_row y3.drew m.mb 1 _ _ _ XY.out.2).trans rfl
                  clear e
                  go_simp
                intro a' w6 hw ha
                obtain rfl : M.setM y3.drew m.ib ob = w6 := hw.symm
                subst ha
                simp only [Act.put, List.setIfInBounds_toArray, List.set_cons_zero, List.set_cons_succ]
                clear EP XY
                go_wp2
                go_ret
                exact ⟨by rw [C2.out]; rfl, PUT.out⟩
end
end Go.Proofs.YtifendlpeebofaaGreatDoor
