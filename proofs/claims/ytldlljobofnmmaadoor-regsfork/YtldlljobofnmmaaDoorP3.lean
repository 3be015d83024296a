import Derived.Test.YtldlljobofnmmaaDoorP2
import Derived.Test.YtldlljobofnmmaaDoorP0
import Derived.Laws.ResultCell
import Derived.Laws.Rows
set_option maxRecDepth 100000
set_option maxHeartbeats 4000000
namespace Go.Proofs.YtldlljobofnmmaaDoor
open Go.RowKit
set_option linter.unusedVariables false
set_option linter.unusedSimpArgs false
theorem box_pl (w : World) (p : PlK) : ∃ w1, (Instr.box 52 p.v).run Tryd.prog w = .ok (.pointer (some ⟨w.heap.size, 0, none⟩)) w1 ∧ w1.heap[w.heap.size]? = some (.cells p.c.toArray 52 (0, 0)) ∧ Below w.heap.size w w1 := ⟨_, by rw [run_box]; rfl, heap_alloc_new _ _, (Below.refl _ _).alloc (Nat.le_refl _) _⟩
theorem box_id (w : World) (p : IdK) : ∃ w1, (Instr.box 38 p.v).run Tryd.prog w = .ok (.pointer (some ⟨w.heap.size, 0, none⟩)) w1 ∧ w1.heap[w.heap.size]? = some (.cells p.c.toArray 38 (0, 0)) ∧ Below w.heap.size w w1 := ⟨_, by rw [run_box]; rfl, heap_alloc_new _ _, (Below.refl _ _).alloc (Nat.le_refl _) _⟩
theorem box_va (w : World) (p : VaV) : ∃ w1, (Instr.box 42 p.v).run Tryd.prog w = .ok (.pointer (some ⟨w.heap.size, 0, none⟩)) w1 ∧ w1.heap[w.heap.size]? = some (.cells p.c.toArray 42 (0, 0)) ∧ Below w.heap.size w w1 := ⟨_, by rw [run_box]; rfl, heap_alloc_new _ _, (Below.refl _ _).alloc (Nat.le_refl _) _⟩
theorem newR_any (w : World) : Calls Tryd.prog 9 #[] w fun e w' => ∃ s : Rs, e = .returned (.pointer (some ⟨s.r, 0, none⟩)) ∧ RgAt w' w.heap.size s [] ∧ (∀ p, liOf s.P p = []) ∧ s.P = [] ∧ Below w.heap.size w w' := by
  go_enter Tryd.func9, Tryd.ntmps9
  go_wp2_with (first
    | (refine wpList_run rfl (exec_makeMap rfl (mk_map _ _)) ?_)
    | fail)
  go_ret
  have z : ((w.alloc (.map #[] 0)).alloc (.map #[] 0)).heap.size = w.heap.size + 1 + 1 := by simp
  refine ⟨⟨w.heap.size + 1 + 1, w.heap.size, w.heap.size + 1, [], [], none⟩, rfl, ⟨⟨?_, ⟨⟨#[], 0, ?_, rfl, ?_⟩, by simp [entP, M.onV], by simp [entP, M.onV]⟩, ⟨⟨#[], 0, ?_, rfl, ?_⟩, by simp [entK, M.onV], by simp [entK, M.onV]⟩, by simp, by simp, by simp [Rs.bl]; omega, by simp, by simp [Rs.bl]; omega⟩, ?_, rfl, trivial, fun p => rfl⟩, fun p => rfl, rfl, ?_⟩
  · have := heap_alloc_new ((w.alloc (.map #[] 0)).alloc (.map #[] 0)) (.cells #[.map (some w.heap.size), .map (some (w.heap.size + 1)), .pointer none] 84)
    rw [z] at this
    exact this
  · rw [Below.heap_alloc _ _ _ (by rw [z]; show w.heap.size < _; omega), Below.heap_alloc _ _ _ (by simp)]
    exact heap_alloc_new _ _
  · first | trivial | simp
  · have := heap_alloc_new (w.alloc (.map #[] 0)) (.map #[] 0)
    rw [Below.heap_alloc _ _ _ (by rw [z]; show w.heap.size + 1 < _; omega)]
    rw [show (w.alloc (.map #[] 0)).heap.size = w.heap.size + 1 by simp] at this
    exact this
  · first | trivial | simp
  · exact ⟨by simp [Full], fun o k => by simp [KHas, M.look]; rfl⟩
  · exact (((Below.refl _ _).alloc (Nat.le_refl _) _).alloc (by simp) _).alloc (by simp; omega) _
theorem entries_any {w : World} {base : Nat} {s : Rs} (m : RgM w base s) {p : PlK} (hp : p.ok) (hn : (liOf s.P p).length ≤ 2500000000000) :
    Calls Tryd.prog 20 #[.pointer (some ⟨s.r, 0, none⟩), p.v] w fun e w' => ∃ v, e = .returned v ∧ RN.Own w' w.heap.size v (liOf s.P p) ∧ Below w.heap.size w w' := by
  obtain ⟨w1, EB, n1, b1⟩ := box_pl w p
  have HEB := hidMk EB
  have m1 := m.below b1
  have bd : Below w1.heap.size w1 w1.drew := (Below.refl w1.heap.size w1).drew
  have LD : Hid ((∀ W, Below w1.heap.size w1 W → (Instr.loadAt 81 (.pointer (some ⟨s.r, 0 + 0, none⟩))).run Tryd.prog W = .ok (.map (some s.bp)) W) ∧ (∀ W, Below w1.heap.size w1 W → (Instr.loadAt 52 (.pointer (some ⟨w.heap.size, 0, none⟩))).run Tryd.prog W = .ok p.v W) ∧ (∀ W, Below w1.heap.size w1 W → (Instr.lookup 81 (.map (some s.bp)) p.v false).run Tryd.prog W = .ok (lvOf s.P p) W)) := by
    refine ⟨fun W b => ?_, fun W b => ?_, fun W b => (m1.below b).lookP p hp⟩
    · have := (m1.below b).c0
      go_simp
    · exact ld_pl hp (rng_cells ((b.block _ (Array.getElem?_eq_some_iff.1 n1).1).trans n1))
  have CA : Hid (Calls Tryd.prog 60 #[lvOf s.P p] w1.drew fun e w' => ∃ u, e = .returned u ∧ Below w1.heap.size w1 w' ∧ (RN.Own w' w.heap.size u (liOf s.P p) ∧ Below w.heap.size w w')) := by
    have hl := (m1.below bd).list p
    refine (clone_any hl.1 hl.2 hn).mono ?_
    rintro e w' ⟨v, rfl, o, b⟩
    have bb := bd.trans b
    exact ⟨v, rfl, bb, o.mono b1.size, b1.trans (bb.mono b1.size)⟩
  have HS := hidMk bd
  clear m m1 EB n1 b1 bd
  go_enter Tryd.func20, Tryd.ntmps20
  go_upto_region 3 with (first
    | (refine wpList_run rfl (exec_boxE (t := 52) (v := p.v) (u := .pointer (some ⟨w.heap.size, 0, none⟩)) (w2 := w1) rfl rfl HEB.out) ?_)
    | fail)
  refine ent3 (rb := s.r) (mb := s.bp) (pb := w.heap.size) (p := p) (lv := lvOf s.P p) (fun W => Below w1.heap.size w1 W) (fun u w' => RN.Own w' w.heap.size u (liOf s.P p) ∧ Below w.heap.size w w') _ w1 _ rfl rfl rfl HS.out LD.out.1 LD.out.2.1 LD.out.2.2 CA.out ?_
  intro u a' w2 hf ha
  subst ha
  simp only [Act.put, List.setIfInBounds_toArray, List.set_cons_zero, List.set_cons_succ]
  have HF := hidMk hf
  clear hf LD CA HS HEB
  go_wp2
  go_ret
  exact ⟨u, rfl, HF.out.1, HF.out.2⟩
theorem len_any {w : World} {base : Nat} {s : Rs} (m : RgM w base s) :
    Calls Tryd.prog 24 #[.pointer (some ⟨s.r, 0, none⟩)] w fun e w' => e = .returned (.int .i64 (s.P.length : Int)) ∧ w' = w := by
  have c0 := m.c0
  have hm := M.run_mlen (ty := 3) (P := Tryd.prog) Tryd.underlying81 m.pl
  rw [show (entP s.P).length = s.P.length by simp [entP, M.onV]] at hm
  have HM := hidMk hm
  clear m hm
  go_enter Tryd.func24, Tryd.ntmps24
  go_wp2_with (first
    | (refine wpList_val rfl (exec_len rfl rfl HM.out) ?_)
    | fail)
  go_ret
  exact ⟨rfl, rfl⟩
theorem build_zen (w : World) : (Instr.build 63 #[]).run Tryd.prog w = .ok zEn.a w := by kernel_rfl
theorem ex_rgsome {w : World} {a : Act} {o : Oper} {x y : Operand} {b : Nat} (ho : o.op = .binOp .eql 26 x y 26) (hx : a.eval x = .pointer (some ⟨b, 0, none⟩)) (hy : a.eval y = .pointer none) : (execOp a.eval o).run Tryd.prog w = .ok (.value (.bool false)) w := by
  refine exec_binOp ho hx hy ?_ ?_
  · unfold eqGuard; simp
  · kernel_rfl
theorem ex_eqz {w : World} {a : Act} {o : Oper} {x y : Operand} {n : Nat} (ho : o.op = .binOp .eql 3 x y 3) (hx : a.eval x = .int .i64 (n : Int)) (hy : a.eval y = .int .i64 0) : (execOp a.eval o).run Tryd.prog w = .ok (.value (.bool (n == 0))) w := by
  refine exec_binOp ho hx hy ?_ ?_
  · kernel_rfl
  · have : ((n : Int) == 0) = (n == 0) := by rw [Bool.eq_iff_iff]; simp
    rw [← this]
    go_simp
def top1s_o0 : Oper := ⟨some 7, .move (.tmp 0), 26, "regs.go:146", #[], none⟩
def top1s_o1 : Oper := ⟨some 8, .binOp BinOp.eql 26 (.tmp 7) (Operand.const (Value.pointer none)) 26, 4, "regs.go:146", #[⟨0, .data⟩], none⟩
def top1s_o2 : Oper := ⟨some 9, .move (.tmp 8), 4, "regs.go:146", #[⟨1, .data⟩], none⟩
def top1s_o3 : Oper := ⟨some 10, .move (.tmp 0), 26, "regs.go:146", #[⟨2, .guard⟩], some (2, false)⟩
def top1s_o4 : Oper := ⟨some 11, .nilCheck (.tmp 10), 0, "regs.go:146", #[⟨3, .data⟩, ⟨2, .guard⟩], some (2, false)⟩
def top1s_o5 : Oper := ⟨some 12, .fieldAddr 84 (.tmp 11) 0, 0, "regs.go:146", #[⟨4, .data⟩, ⟨2, .guard⟩], some (2, false)⟩
def top1s_o6 : Oper := ⟨some 13, .load 81 (.tmp 12), 81, "regs.go:146", #[⟨5, .data⟩, ⟨2, .guard⟩], some (2, false)⟩
def top1s_o7 : Oper := ⟨some 14, .load 52 (.tmp 3), 52, "regs.go:146", #[⟨2, .guard⟩], some (2, false)⟩
def top1s_o8 : Oper := ⟨some 15, .lookup 81 (.tmp 13) (.tmp 14) false, 60, "regs.go:146", #[⟨6, .data⟩, ⟨7, .data⟩, ⟨2, .guard⟩], some (2, false)⟩
def top1s_o9 : Oper := ⟨some 16, .call { callee := Callee.builtin Builtin.len, args := #[.tmp 15], argTypes := #[60] }, 3, "regs.go:146", #[⟨8, .data⟩, ⟨2, .guard⟩], some (2, false)⟩
def top1s_o10 : Oper := ⟨some 17, .binOp BinOp.eql 3 (.tmp 16) (Operand.const (Value.int IntKind.i64 0)) 3, 4, "regs.go:146", #[⟨9, .data⟩, ⟨2, .guard⟩], some (2, false)⟩
def top1s_o11 : Oper := ⟨some 18, .pick (.tmp 9) (Operand.const (Value.bool true)) (.tmp 17), 4, "regs.go:146", #[⟨2, .data⟩, ⟨10, .data⟩], none⟩
def top1s_ops : Array Oper := #[top1s_o0, top1s_o1, top1s_o2, top1s_o3, top1s_o4, top1s_o5, top1s_o6, top1s_o7, top1s_o8, top1s_o9, top1s_o10, top1s_o11]
theorem top1s {rb mb pb n lc : Nat} {la : Option Addr} {p : PlK} (S : World → Prop) (a : Act) (w : World) (Q : Exit → Act → World → Prop) (zz : a.tmps.size = 32)
    (t0 : a.tmps.getD 0 undef = .pointer (some ⟨rb, 0, none⟩))
    (t3 : a.tmps.getD 3 undef = .pointer (some ⟨pb, 0, none⟩))
    (h0 : S w.drew) (LR : ∀ W, S W → (Instr.loadAt 81 (.pointer (some ⟨rb, 0 + 0, none⟩))).run Tryd.prog W = .ok (.map (some mb)) W) (LP : ∀ W, S W → (Instr.loadAt 52 (.pointer (some ⟨pb, 0, none⟩))).run Tryd.prog W = .ok (p.v) W) (LK : ∀ W, S W → (Instr.lookup 81 (.map (some mb)) p.v false).run Tryd.prog W = .ok (.slice la n lc) W)
    (h : ∀ (a' : Act) (w' : World), S w' → a' = ((((((((((((a).put (some 7) (.pointer (some ⟨rb, 0, none⟩))).put (some 8) (.bool false)).put (some 9) (.bool false)).put (some 10) (.pointer (some ⟨rb, 0, none⟩))).put (some 11) (.pointer (some ⟨rb, 0, none⟩))).put (some 12) (.pointer (some ⟨rb, 0 + 0, none⟩))).put (some 13) (.map (some mb))).put (some 14) (p.v)).put (some 15) (.slice la n lc)).put (some 16) (.int .i64 (n : Int))).put (some 17) (.bool (n == 0))).put (some 18) (.bool (n == 0)) → Q .normal a' w') :
    (Code.region 1 top1s_ops true).wp Tryd.prog Q a w := by
  refine y0 (fun w' => S w') (h0) (fun hHeld => ?_)
  refine yv 0 rfl rfl (fun w1 hw => exec_move rfl (zi t0 rfl)) hHeld ?_
  refine yv (v := .bool false) 1 rfl rfl (fun w1 hw => ex_rgsome rfl (zg zz rfl) rfl) hHeld ?_
  refine yv 2 rfl rfl (fun w1 hw => exec_move rfl (zg zz rfl)) hHeld ?_
  refine yv 3 rfl (zw zz rfl rfl rfl (zg zz rfl)) (fun w1 hw => exec_move rfl (zi t0 rfl)) hHeld ?_
  refine yv 4 rfl (zw zz rfl rfl rfl (zg zz rfl)) (fun w1 hw => exec_nilCheck rfl (zg zz rfl)) hHeld ?_
  refine yv 5 rfl (zw zz rfl rfl rfl (zg zz rfl)) (fun w1 hw => exec_fieldAt rfl (zg zz rfl) (fg_84_0 _ _ _)) hHeld ?_
  refine yv 6 rfl (zw zz rfl rfl rfl (zg zz rfl)) (fun w1 hw => exec_load rfl (zg zz rfl) (LR _ hw)) hHeld ?_
  refine yv 7 rfl (zw zz rfl rfl rfl (zg zz rfl)) (fun w1 hw => exec_load rfl (zi t3 rfl) (LP _ hw)) hHeld ?_
  refine yv (v := .slice la n lc) 8 rfl (zw zz rfl rfl rfl (zg zz rfl)) (fun w1 hw => exec_lookup rfl (zg zz rfl) (zg zz rfl) (LK _ hw)) hHeld ?_
  refine yv 9 rfl (zw zz rfl rfl rfl (zg zz rfl)) (fun w1 hw => exec_len rfl (zg zz rfl) (len_en _ _ _ _ _)) hHeld ?_
  refine yv (v := .bool (n == 0)) 10 rfl (zw zz rfl rfl rfl (zg zz rfl)) (fun w1 hw => ex_eqz rfl (zg zz rfl) rfl) hHeld ?_
  refine yv 11 rfl rfl (fun w1 hw => exec_pickF rfl (zg zz rfl) (zg zz rfl)) hHeld ?_
  exact ye rfl (h _ _ (hHeld) rfl)
def top2_o0 : Oper := ⟨some 19, .build 63 #[], 63, "regs.go:147", #[], none⟩
def top2_o1 : Oper := ⟨none, .store 63 (.tmp 4) (.tmp 19), 0, "regs.go:147", #[⟨0, .data⟩, ⟨0, .phase⟩], none⟩
def top2_o2 : Oper := ⟨some 5, .assign (Operand.const (Value.bool false)), 4, "regs.go:147", #[⟨1, .chain⟩, ⟨0, .phase⟩, ⟨1, .phase⟩], none⟩
def top2_ops : Array Oper := #[top2_o0, top2_o1, top2_o2]
theorem top2 {eb : Nat} {w1 : World} (a : Act) (w : World) (Q : Exit → Act → World → Prop) (zz : a.tmps.size = 32)
    (t4 : a.tmps.getD 4 undef = .pointer (some ⟨eb, 0, none⟩))
    (ES : (Instr.storeAt 63 (.pointer (some ⟨eb, 0, none⟩)) zEn.a).run Tryd.prog w = .ok () w1)
    (h : ∀ (a' : Act) (w' : World), w' = w1 → a' = ((a).put (some 19) (zEn.a)).put (some 5) (.bool false) → Q .normal a' w') :
    (Code.region 2 top2_ops false).wp Tryd.prog Q a w := by
  refine z0 rfl ?_
  refine zv rfl (exec_build0 rfl (build_zen _)) ?_
  refine zs rfl (exec_store rfl (zi t4 rfl) (zg zz rfl) ES) ?_
  refine zv rfl (exec_assign rfl rfl) ?_
  exact ze rfl (h _ _ (rfl) rfl)
def top3_o0 : Oper := ⟨some 20, .move (.tmp 0), 26, "regs.go:149", #[], none⟩
def top3_o1 : Oper := ⟨some 21, .nilCheck (.tmp 20), 0, "regs.go:149", #[⟨0, .data⟩], none⟩
def top3_o2 : Oper := ⟨some 22, .fieldAddr 84 (.tmp 21) 0, 0, "regs.go:149", #[⟨1, .data⟩], none⟩
def top3_o3 : Oper := ⟨some 23, .load 81 (.tmp 22), 81, "regs.go:149", #[⟨2, .data⟩], none⟩
def top3_o4 : Oper := ⟨some 24, .load 52 (.tmp 3), 52, "regs.go:149", #[], none⟩
def top3_o5 : Oper := ⟨some 25, .lookup 81 (.tmp 23) (.tmp 24) false, 60, "regs.go:149", #[⟨3, .data⟩, ⟨4, .data⟩], none⟩
def top3_o6 : Oper := ⟨some 6, .assign (.tmp 25), 60, "regs.go:149", #[⟨5, .data⟩, ⟨0, .phase⟩, ⟨1, .phase⟩, ⟨2, .phase⟩, ⟨3, .phase⟩, ⟨4, .phase⟩, ⟨5, .phase⟩], none⟩
def top3_ops : Array Oper := #[top3_o0, top3_o1, top3_o2, top3_o3, top3_o4, top3_o5, top3_o6]
theorem top3 {rb mb pb n lc : Nat} {la : Option Addr} {p : PlK} (S : World → Prop) (a : Act) (w : World) (Q : Exit → Act → World → Prop) (zz : a.tmps.size = 32)
    (t0 : a.tmps.getD 0 undef = .pointer (some ⟨rb, 0, none⟩))
    (t3 : a.tmps.getD 3 undef = .pointer (some ⟨pb, 0, none⟩))
    (h0 : S w.drew) (LR : ∀ W, S W → (Instr.loadAt 81 (.pointer (some ⟨rb, 0 + 0, none⟩))).run Tryd.prog W = .ok (.map (some mb)) W) (LP : ∀ W, S W → (Instr.loadAt 52 (.pointer (some ⟨pb, 0, none⟩))).run Tryd.prog W = .ok (p.v) W) (LK : ∀ W, S W → (Instr.lookup 81 (.map (some mb)) p.v false).run Tryd.prog W = .ok (.slice la n lc) W)
    (h : ∀ (a' : Act) (w' : World), S w' → a' = (((((((a).put (some 20) (.pointer (some ⟨rb, 0, none⟩))).put (some 21) (.pointer (some ⟨rb, 0, none⟩))).put (some 22) (.pointer (some ⟨rb, 0 + 0, none⟩))).put (some 23) (.map (some mb))).put (some 24) (p.v)).put (some 25) (.slice la n lc)).put (some 6) (.slice la n lc) → Q .normal a' w') :
    (Code.region 3 top3_ops true).wp Tryd.prog Q a w := by
  refine y0 (fun w' => S w') (h0) (fun hHeld => ?_)
  refine yv 0 rfl rfl (fun w1 hw => exec_move rfl (zi t0 rfl)) hHeld ?_
  refine yv 1 rfl rfl (fun w1 hw => exec_nilCheck rfl (zg zz rfl)) hHeld ?_
  refine yv 2 rfl rfl (fun w1 hw => exec_fieldAt rfl (zg zz rfl) (fg_84_0 _ _ _)) hHeld ?_
  refine yv 3 rfl rfl (fun w1 hw => exec_load rfl (zg zz rfl) (LR _ hw)) hHeld ?_
  refine yv 4 rfl rfl (fun w1 hw => exec_load rfl (zi t3 rfl) (LP _ hw)) hHeld ?_
  refine yv (v := .slice la n lc) 5 rfl rfl (fun w1 hw => exec_lookup rfl (zg zz rfl) (zg zz rfl) (LK _ hw)) hHeld ?_
  refine yv 6 rfl rfl (fun w1 hw => exec_assign rfl (zg zz rfl)) hHeld ?_
  exact ye rfl (h _ _ (hHeld) rfl)
def top4_o0 : Oper := ⟨some 26, .move (.tmp 6), 60, "regs.go:150", #[], none⟩
def top4_o1 : Oper := ⟨some 27, .move (.tmp 6), 60, "regs.go:150", #[], none⟩
def top4_o2 : Oper := ⟨some 28, .call { callee := Callee.builtin Builtin.len, args := #[.tmp 27], argTypes := #[60] }, 3, "regs.go:150", #[⟨1, .data⟩], none⟩
def top4_o3 : Oper := ⟨some 29, .binOp BinOp.sub 3 (.tmp 28) (Operand.const (Value.int IntKind.i64 1)) 3, 3, "regs.go:150", #[⟨2, .data⟩], none⟩
def top4_o4 : Oper := ⟨some 30, .indexAddr 60 (.tmp 26) (.tmp 29), 0, "regs.go:150", #[⟨0, .data⟩, ⟨3, .data⟩], none⟩
def top4_o5 : Oper := ⟨some 31, .load 63 (.tmp 30), 63, "regs.go:150", #[⟨4, .data⟩], none⟩
def top4_o6 : Oper := ⟨none, .store 63 (.tmp 4) (.tmp 31), 0, "regs.go:150", #[⟨5, .data⟩, ⟨0, .phase⟩, ⟨1, .phase⟩, ⟨2, .phase⟩, ⟨3, .phase⟩, ⟨4, .phase⟩, ⟨5, .phase⟩], none⟩
def top4_o7 : Oper := ⟨some 5, .assign (Operand.const (Value.bool true)), 4, "regs.go:150", #[⟨6, .chain⟩, ⟨0, .phase⟩, ⟨1, .phase⟩, ⟨2, .phase⟩, ⟨3, .phase⟩, ⟨4, .phase⟩, ⟨5, .phase⟩, ⟨6, .phase⟩], none⟩
def top4_ops : Array Oper := #[top4_o0, top4_o1, top4_o2, top4_o3, top4_o4, top4_o5, top4_o6, top4_o7]
theorem top4 {eb g o n lc d : Nat} {x : EnV} {w1 : World} (a : Act) (w : World) (Q : Exit → Act → World → Prop) (zz : a.tmps.size = 32)
    (t4 : a.tmps.getD 4 undef = .pointer (some ⟨eb, 0, none⟩))
    (t6 : a.tmps.getD 6 undef = .slice (some ⟨g, o, none⟩) n lc)
    (hd : d + 1 = n) (hs : n ≤ 9223372036854775800) (hi : d < n) (hm : n ≤ 9223372036854775807) (LX : ∀ W, W = w → (Instr.loadAt 63 (.pointer (some ⟨g, o + 37 * d, none⟩))).run Tryd.prog W = .ok x.a W) (ES : (Instr.storeAt 63 (.pointer (some ⟨eb, 0, none⟩)) x.a).run Tryd.prog w = .ok () w1)
    (h : ∀ (a' : Act) (w' : World), w' = w1 → a' = (((((((a).put (some 26) (.slice (some ⟨g, o, none⟩) n lc)).put (some 27) (.slice (some ⟨g, o, none⟩) n lc)).put (some 28) (.int .i64 (n : Int))).put (some 29) (.int .i64 (d : Int))).put (some 30) (.pointer (some ⟨g, o + 37 * d, none⟩))).put (some 31) (x.a)).put (some 5) (.bool true) → Q .normal a' w') :
    (Code.region 4 top4_ops false).wp Tryd.prog Q a w := by
  refine z0 rfl ?_
  refine zv rfl (exec_move rfl (zi t6 rfl)) ?_
  refine zv rfl (exec_move rfl (zi t6 rfl)) ?_
  refine zv rfl (exec_len rfl (zg zz rfl) (len_en _ _ _ _ _)) ?_
  refine zv (v := .int .i64 (d : Int)) rfl (exec_sub1 rfl (zg zz rfl) rfl hd hs) ?_
  refine zv rfl (exec_indexAt rfl (zg zz rfl) (zg zz rfl) (ix_en hi hm _)) ?_
  refine zv rfl (exec_load rfl (zg zz rfl) (LX _ rfl)) ?_
  refine zs rfl (exec_store rfl (zi t4 rfl) (zg zz rfl) ES) ?_
  refine zv rfl (exec_assign rfl rfl) ?_
  exact ze rfl (h _ _ (rfl) rfl)
theorem results_c2 {P : Program} {fn : Func} {a b : Nat} {t : TypeId} (h : fn.results = #[.cell a t, .tmp b]) {tmps : Array Value} {w : World} {p : Addr} {v : Value} (ha : tmps.getD a undef = .pointer (some p)) (hl : (loadVar t p).run P w = .ok v w) :
    (results fn tmps).run P w = .ok (.tuple #[v, tmps.getD b undef]) w := by
  rw [Array.getD_eq_getD_getElem?] at ha
  simp [results, h, asAddr, ha, hl, Array.mapM_eq_mapM_toList, Result.andThen]
theorem szEn : (Tryd.prog.info? 63).map (·.size) = some 37 := by kernel_rfl
theorem loadVar_en {w : World} {b : Nat} {x : EnV} (hx : x.ok) (h : RN.Bx w b x) : (loadVar 63 ⟨b, 0, none⟩).run Tryd.prog w = .ok x.a w :=
  run_loadVar_mid (P := Tryd.prog) w b 0 63 x.c _ h.rng Tryd.underlying63 rfl (by rw [EnV.len hx]; exact szEn)
theorem en_box (w : World) : ∃ w2, (Instr.alloc 63 true (.tuple #[])).run Tryd.prog w = .ok (.pointer (some ⟨w.heap.size, 0, none⟩)) w2 ∧ RN.Bx w2 w.heap.size zEn ∧ Below w.heap.size w w2 := ⟨_, RowT.bx_zero RN_is w, heap_alloc_new _ _, (Below.refl _ _).alloc (Nat.le_refl _) _⟩
theorem en_put {w : World} {b : Nat} {x u : EnV} (hx : x.ok) (hu : u.ok) (h : RN.Bx w b x) : ∃ w', (Instr.storeAt 63 (.pointer (some ⟨b, 0, none⟩)) u.a).run Tryd.prog w = .ok () w' ∧ RN.Bx w' b u ∧ Tch (fun j => j = b) w w' := by
  have t := setRow_tch w b u.c.toArray
  refine ⟨_, RowT.bx_store RN_is hx hu h, setRow_heap w b _ _ _ _ h, t.mono (fun j _ e => ?_)⟩
  simp at e
  exact e.symm
theorem top_any {w : World} {base : Nat} {s : Rs} (m : RgM w base s) {p : PlK} (hp : p.ok) (hn : (liOf s.P p).length ≤ 2500000000000) :
    Calls Tryd.prog 21 #[.pointer (some ⟨s.r, 0, none⟩), p.v] w fun e w' => e = .returned (.tuple #[((liOf s.P p).getLast?.getD zEn).a, .bool (!(liOf s.P p).isEmpty)]) ∧ Below w.heap.size w w' := by
  obtain ⟨w1, E1, n1, b1⟩ := box_pl w p
  obtain ⟨w2, E2, n2, b2⟩ := en_box w1
  have b12 := b1.trans (b2.mono b1.size)
  have m2 := m.below b12
  have n12 := (b2.block _ (Array.getElem?_eq_some_iff.1 n1).1).trans n1
  have hl := m2.list p
  obtain ⟨a, c, ev, hat, hc, hcm, _⟩ := hl.1.open RN_is hl.2
  have LD : Hid (∀ W, Below w2.heap.size w2 W → (Instr.loadAt 81 (.pointer (some ⟨s.r, 0 + 0, none⟩))).run Tryd.prog W = .ok (.map (some s.bp)) W ∧ (Instr.loadAt 52 (.pointer (some ⟨w.heap.size, 0, none⟩))).run Tryd.prog W = .ok p.v W ∧ (Instr.lookup 81 (.map (some s.bp)) p.v false).run Tryd.prog W = .ok (.slice a (liOf s.P p).length c) W) := by
    refine fun W b => ⟨?_, ?_, ?_⟩
    · have := (m2.below b).c0
      go_simp
    · exact ld_pl hp (rng_cells ((b.block _ (Array.getElem?_eq_some_iff.1 n12).1).trans n12))
    · rw [← ev]; exact (m2.below b).lookP p hp
  have H1 := hidMk E1
  have H2 := hidMk E2
  have bd : Below w2.heap.size w2 w2.drew := (Below.refl _ _).drew
  have bdd : Below w2.heap.size w2 w2.drew.drew := bd.drew
  have bw : w1.heap.size ≤ w2.heap.size := b2.size
  obtain ⟨L, hL⟩ : ∃ L, liOf s.P p = L := ⟨_, rfl⟩
  rw [hL] at hn hl hat LD ⊢
  go_enter Tryd.func21, Tryd.ntmps21
  cases hLe : L with
  | nil =>
    subst hLe
    obtain ⟨w3, E3, n3, t3⟩ := en_put (w := w2.drew) zEn_ok zEn_ok n2
    have b2d : Below w1.heap.size w1 w2.drew := b2.drew
    have b3 : Below w1.heap.size w1 w3 := b2d.trans (t3.below b2d.size (fun j e => by rw [e]; exact Nat.le_refl _))
    have HF := hidMk (And.intro n3 (b1.trans (b3.mono b1.size)))
    have H3 := hidMk E3
    have HB := hidMk bd
    clear E1 E2 E3 b1 b2 b3 n3 b2d t3 n1 n2 n12 m m2 hl hat hc hcm ev hL bd bdd b12
    go_upto_region 1 with (first
      | (refine wpList_run rfl (exec_boxE (t := 52) (v := p.v) (u := .pointer (some ⟨w.heap.size, 0, none⟩)) (w2 := w1) rfl rfl H1.out) ?_)
      | (refine wpList_run rfl (exec_alloc (w2 := w2) rfl H2.out) ?_)
      | fail)
    refine top1s (rb := s.r) (mb := s.bp) (pb := w.heap.size) (n := 0) (lc := c) (la := a) (p := p) (fun W => W = w2.drew) _ w2 _ rfl rfl rfl rfl (fun W e => by rw [e]; exact (LD.out _ HB.out).1) (fun W e => by rw [e]; exact (LD.out _ HB.out).2.1) (fun W e => by rw [e]; exact (LD.out _ HB.out).2.2) ?_
    intro a' w' hw' ha
    subst ha
    subst hw'
    simp only [Act.put, List.setIfInBounds_toArray, List.set_cons_zero, List.set_cons_succ]
    go_upto_region 2 with fail
    refine top2 (eb := w1.heap.size) (w1 := w3) _ w2.drew _ rfl rfl H3.out ?_
    intro a' w' hw' ha
    subst ha
    subst hw'
    simp only [Act.put, List.setIfInBounds_toArray, List.set_cons_zero, List.set_cons_succ]
    clear H1 H2 H3 LD HB
    go_wp2
    refine bodyPost_ret (results_c2 rfl rfl (loadVar_en zEn_ok HF.out.1)) rfl ?_
    exact ⟨rfl, HF.out.2⟩
  | cons y Y =>
    obtain ⟨d, hd⟩ : ∃ d, L.length = d + 1 := ⟨Y.length, by rw [hLe]; rfl⟩
    obtain ⟨x, hx⟩ : ∃ x, L[d]? = some x := ⟨_, List.getElem?_eq_getElem (by omega)⟩
    have hlast : L.getLast?.getD zEn = x := by rw [List.getLast?_eq_getElem?, hd, Nat.add_sub_cancel, hx]; rfl
    have hxo : x.ok := hl.2 x (List.mem_of_getElem? hx)
    obtain ⟨g, o, rfl, hg, hr⟩ : ∃ g o, a = some ⟨g, o, none⟩ ∧ g < w2.heap.size ∧ w2.rangeAt g (o + 37 * d) x.c := by
      rcases hat with h | ⟨g, o, e, h1, h2⟩
      · rw [hLe] at h; cases h
      · exact ⟨g, o, e, h1, h2 d x hx⟩
    obtain ⟨w3, E3, n3, t3⟩ := en_put (w := w2.drew.drew) zEn_ok hxo n2
    have b2d : Below w1.heap.size w1 w2.drew.drew := b2.drew.drew
    have b3 : Below w1.heap.size w1 w3 := b2d.trans (t3.below b2d.size (fun j e => by rw [e]; exact Nat.le_refl _))
    have HF := hidMk (And.intro n3 (And.intro (b1.trans (b3.mono b1.size)) (And.intro hxo hlast)))
    have H3 := hidMk E3
    have HB := hidMk (And.intro bd bdd)
    have LX : Hid ((Instr.loadAt 63 (.pointer (some ⟨g, o + 37 * d, none⟩))).run Tryd.prog w2.drew.drew = .ok x.a w2.drew.drew) := ld_en hxo (w := w2.drew.drew) hr
    rw [← hLe]
    rw [hd] at LD hn
    have hne : ((d + 1 : Nat) == 0) = false := rfl
    have he : L.isEmpty = false := by rw [hLe]; rfl
    have HE := hidMk he
    clear E1 E2 E3 b1 b2 b3 n3 b2d t3 n1 n2 n12 m m2 hl hat hc hcm ev hL bd bdd b12 hlast hxo hr hx hLe he
    go_upto_region 1 with (first
      | (refine wpList_run rfl (exec_boxE (t := 52) (v := p.v) (u := .pointer (some ⟨w.heap.size, 0, none⟩)) (w2 := w1) rfl rfl H1.out) ?_)
      | (refine wpList_run rfl (exec_alloc (w2 := w2) rfl H2.out) ?_)
      | fail)
    refine top1s (rb := s.r) (mb := s.bp) (pb := w.heap.size) (n := d + 1) (lc := c) (la := some ⟨g, o, none⟩) (p := p) (fun W => W = w2.drew) _ w2 _ rfl rfl rfl rfl (fun W e => by rw [e]; exact (LD.out _ HB.out.1).1) (fun W e => by rw [e]; exact (LD.out _ HB.out.1).2.1) (fun W e => by rw [e]; exact (LD.out _ HB.out.1).2.2) ?_
    intro a' w' hw' ha
    subst ha
    subst hw'
    simp only [Act.put, List.setIfInBounds_toArray, List.set_cons_zero, List.set_cons_succ]
    rw [hne]
    go_upto_region 3 with fail
    refine top3 (rb := s.r) (mb := s.bp) (pb := w.heap.size) (n := d + 1) (lc := c) (la := some ⟨g, o, none⟩) (p := p) (fun W => W = w2.drew.drew) _ w2.drew _ rfl rfl rfl rfl (fun W e => by rw [e]; exact (LD.out _ HB.out.2).1) (fun W e => by rw [e]; exact (LD.out _ HB.out.2).2.1) (fun W e => by rw [e]; exact (LD.out _ HB.out.2).2.2) ?_
    intro a' w' hw' ha
    subst ha
    subst hw'
    simp only [Act.put, List.setIfInBounds_toArray, List.set_cons_zero, List.set_cons_succ]
    go_upto_region 4 with fail
    refine top4 (eb := w1.heap.size) (g := g) (o := o) (n := d + 1) (lc := c) (d := d) (x := x) (w1 := w3) _ w2.drew.drew _ rfl rfl rfl rfl (by omega) (by omega) (by omega) (fun W e => by rw [e]; exact LX.out) H3.out ?_
    intro a' w' hw' ha
    subst ha
    subst hw'
    simp only [Act.put, List.setIfInBounds_toArray, List.set_cons_zero, List.set_cons_succ]
    clear H1 H2 H3 LD HB LX
    go_wp2
    refine bodyPost_ret (results_c2 rfl rfl (loadVar_en HF.out.2.2.1 HF.out.1)) rfl ?_
    refine ⟨?_, HF.out.2.1⟩
    rw [HF.out.2.2.2, HE.out]
    rfl
end Go.Proofs.YtldlljobofnmmaaDoor
namespace Go.Proofs.YtldlljobofnmmaaDoor
open Go.ChangeShapes Go.WideShapes Go.ChangeAt Go.RowKit
set_option linter.unusedVariables false
set_option linter.unusedSimpArgs false
def RowAt {κ : Type} (k : Nat) (encd : κ → List Value) (w : World) (a : Option Addr) (L : List κ) : Prop := L = [] ∨ ∃ b off, a = some ⟨b, off, none⟩ ∧ b < w.heap.size ∧ ∀ i x, L[i]? = some x → w.rangeAt b (off + i * k) (encd x)
theorem RowAt.below {κ : Type} {k : Nat} {encd : κ → List Value} {w w' : World} {a : Option Addr} {L : List κ} (h : RowAt k encd w a L) (hb : Below w.heap.size w w') : RowAt k encd w' a L := by
  rcases h with h | ⟨b, off, e, hl, hr⟩
  · exact .inl h
  · exact .inr ⟨b, off, e, Nat.lt_of_lt_of_le hl hb.size, fun i x hx => rangeAt_keep (hr i x hx) (hb.block b hl)⟩
theorem RowAt.keep {κ : Type} {k : Nat} {encd : κ → List Value} {w w' : World} {a : Option Addr} {L : List κ} {N : Nat} (h : RowAt k encd w a L) (hN : N = w.heap.size) (hb : Below N w w') : RowAt k encd w' a L := by
  subst hN
  exact h.below hb
section
variable {H : Type} {enc : TypeId × Value → H} {W : World}
theorem view_rows {κ : Type} {T e k : Nat} {encd : κ → List Value} {ok : κ → Prop} (hT : Tryd.prog.underlying T = some (.slice e)) (hce : Tryd.prog.cellsOf e = k) (hk : 0 < k) (hlen : ∀ x, ok x → (encd x).length = k)
    (hcells : ∀ (fuel : Nat) (cs : List Value) (y : DataW H × List MemPlace), DataW.trod enc Tryd.prog W 0 (fun _ => true) true fuel e cs = some y → ∃ x, ok x ∧ cs = encd x)
    {a : Option Addr} {len cap : Nat} {d : DataW H} {p : List MemPlace} (h : DataW.Trod enc Tryd.prog W 0 (fun _ => true) true T (.slice a len cap) d p) :
    ∃ L : List κ, L.length = len ∧ (∀ x ∈ L, ok x) ∧ RowAt k encd W a L ∧ (d = .nil ∧ len = 0 ∨ ∃ el sp, d = .slice el sp ∧ el.length = len) := by
  obtain ⟨fuel, hf⟩ := h
  rcases DataW.trod_slice hT hf with ⟨hcs', hx⟩ | ⟨ad, l, c, elems, rest, n, _, hcs', hx, _, hl, hm, hel, hcell, _, _⟩
  · simp [Value.cells] at hcs'
    obtain ⟨rfl, rfl, rfl⟩ := hcs'
    simp only [Prod.mk.injEq] at hx
    exact ⟨[], rfl, fun v hv => (by cases hv), .inl rfl, .inl ⟨hx.1, rfl⟩⟩
  · simp [Value.cells] at hcs'
    obtain ⟨rfl, rfl, rfl⟩ := hcs'
    simp only [Prod.mk.injEq] at hx
    obtain ⟨b, off, spot⟩ := ad
    have raw : ∀ i, i < len → ∃ v : κ, ok v ∧ ∀ j u, (encd v)[j]? = some u → W.cell? (((⟨b, off, spot⟩ : Addr).add (i * k)).add j) = some u := fun i hi => by
      have hi2 := hcell i hi
      rw [List.getElem?_eq_getElem (by omega), hce, Option.bind_eq_some_iff] at hi2
      obtain ⟨cs, hc1, hc2⟩ := hi2
      obtain ⟨v, hv, rfl⟩ := hcells _ _ _ hc2
      obtain ⟨_, _, hc3⟩ := World.cells?_some hc1
      refine ⟨v, hv, fun j u hu => ?_⟩
      have hj := (List.getElem?_eq_some_iff.1 hu).1
      rw [hlen v hv] at hj
      rw [hc3 j hj]
      exact hu
    have hspot : 0 < len → spot = none ∧ b < W.heap.size := fun h0 => by
      obtain ⟨v, hv, hc⟩ := raw 0 h0
      have q := hc 0 _ (List.getElem?_eq_getElem (by rw [hlen v hv]; omega))
      have q1 := World.cell?_spot q
      have q2 : spot = none := by simpa [Addr.add] using q1
      subst q2
      refine ⟨rfl, ?_⟩
      rw [Addr.add_mid, Addr.add_mid] at q
      exact block_lt_of_cell q
    by_cases h0 : 0 < len
    · obtain ⟨hs, hb⟩ := hspot h0
      subst hs
      obtain ⟨v0, _⟩ := raw 0 h0
      let F : Nat → κ := fun i => if h : i < len then Classical.choose (raw i h) else v0
      have hF : ∀ i (h : i < len), F i = Classical.choose (raw i h) := fun i h => dif_pos h
      refine ⟨(List.range len).map F, by simp, fun v hv => ?_, ?_, .inr ⟨_, _, hx.1, by simp [hel]⟩⟩
      · rw [List.mem_map] at hv
        obtain ⟨i, hi, rfl⟩ := hv
        rw [List.mem_range] at hi
        rw [hF i hi]
        exact (Classical.choose_spec (raw i hi)).1
      · refine .inr ⟨b, off, rfl, hb, fun i v hv => ?_⟩
        have hi : i < len := by
          have := (List.getElem?_eq_some_iff.1 hv).1
          simpa using this
        rw [List.getElem?_map, List.getElem?_range hi] at hv
        simp only [Option.map_some, Option.some.injEq] at hv
        subst hv
        rw [hF i hi]
        intro j u hu
        have := (Classical.choose_spec (raw i hi)).2 j u hu
        rwa [Addr.add_mid, Addr.add_mid] at this
    · obtain rfl : len = 0 := by omega
      exact ⟨[], rfl, fun v hv => (by cases hv), .inl rfl, .inr ⟨_, _, hx.1, by simp [hel]⟩⟩
theorem i64_wf {z : Int} (h : (Lit.int .i64 z).wf = true) : -9223372036854775808 ≤ z ∧ z ≤ 9223372036854775807 := by
  simp [Lit.wf, IntKind.min, IntKind.max, IntKind.signed, IntKind.bits] at h
  omega
theorem u8_wf {z : Int} (h : (Lit.int .u8 z).wf = true) : 0 ≤ z ∧ z ≤ 255 := by
  simp [Lit.wf, IntKind.min, IntKind.max, IntKind.signed, IntKind.bits] at h
  omega
def intV : Value → Int
  | .int _ z => z
  | _ => 0
theorem cells_int : Tryd.prog.cellsOf 3 = 1 := by kernel_rfl
theorem cells_str : Tryd.prog.cellsOf 9 = 1 := by kernel_rfl
theorem cells_hash : Tryd.prog.cellsOf 36 = 32 := by kernel_rfl
theorem cells_id : Tryd.prog.cellsOf 38 = 33 := by kernel_rfl
theorem hash_cells {fuel : Nat} {cs : List Value} {y : DataW H × List MemPlace} (h : DataW.trod enc Tryd.prog W 0 (fun _ => true) true fuel 36 cs = some y) : ∃ l : List UInt8, l.length = 32 ∧ cs = hcs l := by
  obtain ⟨xs, m, _, _, hlen, hxs, hall⟩ := DataW.trod_array Tryd.underlying36 h
  rw [cells_hash] at hlen
  have hce : Tryd.prog.cellsOf 5 = 1 := by kernel_rfl
  have key : ∀ i (hi : i < cs.length), ∃ z : Int, cs[i] = .int .u8 z ∧ 0 ≤ z ∧ z ≤ 255 := by
    intro i hi
    have h1 := hall i (by omega)
    rw [hce, Nat.mul_one, List.getElem?_eq_getElem (by omega)] at h1
    obtain ⟨z, e0, _, w0⟩ := DataW.trod_int Tryd.underlying5 h1
    have hb := u8_wf w0
    refine ⟨z, ?_, hb.1, hb.2⟩
    rw [List.drop_eq_getElem_cons hi, List.take_succ_cons, List.take_zero] at e0
    exact (List.cons.inj e0).1
  refine ⟨cs.map (fun v => UInt8.ofNat (intV v).toNat), by simpa using hlen, ?_⟩
  apply List.ext_getElem
  · simp [hcs, bs]
  · intro i h1 h2
    obtain ⟨z, hz, z0, z1⟩ := key i h1
    simp only [hcs, bs, List.map_map, List.getElem_map, Function.comp_apply]
    rw [hz]
    simp only [intV, Value.int.injEq, true_and]
    rw [UInt8.toNat_ofNat']
    omega
theorem list_split {α : Type} {l : List α} {n m : Nat} (h : l.length = n + m) : ∃ a b, l = a ++ b ∧ a.length = n ∧ b.length = m := ⟨l.take n, l.drop n, (List.take_append_drop n l).symm, by simp; omega, by simp; omega⟩
theorem id_cells {fuel : Nat} {cs : List Value} {y : DataW H × List MemPlace} (h : DataW.trod enc Tryd.prog W 0 (fun _ => true) true fuel 38 cs = some y) : ∃ x : IdK, x.ok ∧ cs = x.c := by
  obtain ⟨y0, y1, n, _, hcl, h0, h1⟩ := trod_struct2 Tryd.underlying38 h
  rw [cells_id] at hcl
  obtain ⟨A, B, rfl, hA, hB⟩ := list_split (n := 32) (m := 1) hcl
  simp only [cells_hash, cells_int, List.drop_zero] at h0 h1
  rw [← hA, List.take_left] at h0
  rw [← hA, List.drop_left, List.take_of_length_le (by omega)] at h1
  obtain ⟨k, hk, rfl⟩ := hash_cells h0
  obtain ⟨z, e0, _, w0⟩ := DataW.trod_int Tryd.underlying3 h1
  subst e0
  have b := i64_wf w0
  exact ⟨⟨k, z⟩, ⟨hk, b.1, b.2⟩, rfl⟩
end
theorem trod_float {H : Type} {enc : TypeId × Value → H} {P : Program} {w : World} {base : Nat} {spare : Nat → Bool} {held : Bool} {fuel : Nat} {t : TypeId} {cs : List Value} {x : DataW H × List MemPlace} {k : FloatKind} (ht : P.underlying t = some (.float k)) (h : DataW.trod enc P w base spare held fuel t cs = some x) :
    ∃ b, cs = [.float k b] ∧ (Lit.float k b).wf = true := by
  cases fuel with
  | zero => simp [DataW.trod] at h
  | succ n =>
    unfold DataW.trod at h
    rw [ht] at h
    split at h <;> simp_all
theorem cells_u8k : Tryd.prog.cellsOf 39 = 1 := by kernel_rfl
theorem cells_i64 : Tryd.prog.cellsOf 2 = 1 := by kernel_rfl
theorem cells_flt : Tryd.prog.cellsOf 40 = 1 := by kernel_rfl
theorem cells_va : Tryd.prog.cellsOf 42 = 4 := by kernel_rfl
theorem cells_pl : Tryd.prog.cellsOf 52 = 67 := by kernel_rfl
theorem cells_opR : Tryd.prog.cellsOf 45 = 42 := by kernel_rfl
theorem cells_ids : Tryd.prog.cellsOf 43 = 1 := by kernel_rfl
section
variable {H : Type} {enc : TypeId × Value → H} {W : World}
theorem va_cells (fuel : Nat) (cs : List Value) (y : DataW H × List MemPlace) (h : DataW.trod enc Tryd.prog W 0 (fun _ => true) true fuel 42 cs = some y) : ∃ x : VaV, x.ok ∧ cs = x.c := by
  obtain ⟨xs, n, _, hx, hcl, hlen, hfs⟩ := DataW.trod_struct Tryd.underlying42 h
  rw [cells_va] at hcl
  have hlen : xs.length = 4 := hlen
  obtain ⟨a, b, c, d, rfl⟩ : ∃ a b c d, cs = [a, b, c, d] := by
    match cs, hcl with
    | [a, b, c, d], _ => exact ⟨a, b, c, d, rfl⟩
  match xs, hlen with
  | [y0, y1, y2, y3], _ =>
    have t0 : DataW.trod enc Tryd.prog W 0 (fun _ => true) true n 39 (([a, b, c, d].drop 0).take (Tryd.prog.cellsOf 39)) = some y0 := hfs 0 _ rfl
    have t1 : DataW.trod enc Tryd.prog W 0 (fun _ => true) true n 2 (([a, b, c, d].drop 1).take (Tryd.prog.cellsOf 2)) = some y1 := hfs 1 _ rfl
    have t2 : DataW.trod enc Tryd.prog W 0 (fun _ => true) true n 40 (([a, b, c, d].drop 2).take (Tryd.prog.cellsOf 40)) = some y2 := hfs 2 _ rfl
    have t3 : DataW.trod enc Tryd.prog W 0 (fun _ => true) true n 9 (([a, b, c, d].drop 3).take (Tryd.prog.cellsOf 9)) = some y3 := hfs 3 _ rfl
    rw [cells_u8k] at t0
    rw [cells_i64] at t1
    rw [cells_flt] at t2
    rw [cells_str] at t3
    obtain ⟨z0, q0, _, w0⟩ := DataW.trod_int Tryd.underlying39 t0
    obtain ⟨z1, q1, _, w1⟩ := DataW.trod_int Tryd.underlying2 t1
    obtain ⟨z2, q2, w2⟩ := trod_float Tryd.underlying40 t2
    obtain ⟨z3, q3, _, w3⟩ := DataW.trod_string Tryd.underlying9 t3
    simp at q0 q1 q2 q3
    subst q0 q1 q2 q3
    have u0 := u8_wf w0
    have u1 := i64_wf w1
    exact ⟨⟨z0, z1, z2, z3⟩, ⟨u0.1, u0.2, u1.1, u1.2, by simpa [Lit.wf] using w2, w3⟩, rfl⟩
theorem pl_cells (fuel : Nat) (cs : List Value) (y : DataW H × List MemPlace) (h : DataW.trod enc Tryd.prog W 0 (fun _ => true) true fuel 52 cs = some y) : ∃ x : PlK, x.ok ∧ cs = x.c := by
  obtain ⟨xs, n, _, hx, hcl, hlen, hfs⟩ := DataW.trod_struct Tryd.underlying52 h
  rw [cells_pl] at hcl
  have hlen : xs.length = 3 := hlen
  obtain ⟨A, R, rfl, hA, hR⟩ := list_split (n := 33) (m := 34) hcl
  obtain ⟨B, C, rfl, hB, hC⟩ := list_split (n := 1) (m := 33) hR
  match xs, hlen with
  | [y0, y1, y2], _ =>
    have t0 : DataW.trod enc Tryd.prog W 0 (fun _ => true) true n 38 (((A ++ (B ++ C)).drop 0).take (Tryd.prog.cellsOf 38)) = some y0 := hfs 0 _ rfl
    have t1 : DataW.trod enc Tryd.prog W 0 (fun _ => true) true n 9 (((A ++ (B ++ C)).drop 33).take (Tryd.prog.cellsOf 9)) = some y1 := hfs 1 _ rfl
    have t2 : DataW.trod enc Tryd.prog W 0 (fun _ => true) true n 38 (((A ++ (B ++ C)).drop 34).take (Tryd.prog.cellsOf 38)) = some y2 := hfs 2 _ rfl
    rw [cells_id] at t0 t2
    rw [cells_str] at t1
    rw [List.drop_zero, ← hA, List.take_left] at t0
    rw [← hA, List.drop_left, ← hB, List.take_left] at t1
    rw [show 34 = A.length + B.length by omega, ← List.drop_drop, List.drop_left, List.drop_left, List.take_of_length_le (by omega)] at t2
    obtain ⟨x0, o0, q0⟩ := id_cells t0
    obtain ⟨z1, q1, _, w1⟩ := DataW.trod_string Tryd.underlying9 t1
    obtain ⟨x2, o2, q2⟩ := id_cells t2
    subst q0 q1 q2
    exact ⟨⟨x0, z1, x2⟩, ⟨o0, w1, o2⟩, rfl⟩
end
structure OpR where
  kind : Int
  pl : Int
  id : IdK
  v : VaV
  n : Int
  seen : Value
  back : Int
def OpR.c (o : OpR) : List Value := (.int .i64 o.kind) :: (.int .i64 o.pl) :: (o.id.c ++ (o.v.c ++ [.int .i64 o.n, o.seen, .int .i64 o.back]))
structure OpR.ok (W : World) (o : OpR) : Prop where
  id : o.id.ok
  v : o.v.ok
  kind : -9223372036854775808 ≤ o.kind ∧ o.kind ≤ 9223372036854775807
  pl : -9223372036854775808 ≤ o.pl ∧ o.pl ≤ 9223372036854775807
  n : -9223372036854775808 ≤ o.n ∧ o.n ≤ 9223372036854775807
  back : -9223372036854775808 ≤ o.back ∧ o.back ≤ 9223372036854775807
  seen : ∃ a cap, ∃ L : List IdK, o.seen = .slice a L.length cap ∧ (∀ x ∈ L, x.ok) ∧ RowAt 33 IdK.c W a L
theorem OpR.len {W : World} {o : OpR} (h : o.ok W) : o.c.length = 42 := by
  have h1 := IdK.len h.id
  simp [OpR.c, h1, VaV.len]
section
variable {H : Type} {enc : TypeId × Value → H} {W : World}
theorem view_pls {a : Option Addr} {len cap : Nat} {d : DataW H} {p : List MemPlace} (h : DataW.Trod enc Tryd.prog W 0 (fun _ => true) true 22 (.slice a len cap) d p) :
    ∃ L : List PlK, L.length = len ∧ (∀ x ∈ L, x.ok) ∧ RowAt 67 PlK.c W a L ∧ (d = .nil ∧ len = 0 ∨ ∃ el sp, d = .slice el sp ∧ el.length = len) :=
  view_rows Tryd.underlying22 cells_pl (by omega) (fun x hx => PlK.len hx) pl_cells h
end
theorem bytes_opR : Tryd.prog.bytesOf 45 = 136 := by kernel_rfl
theorem bytes_plR : Tryd.prog.bytesOf 52 = 96 := by kernel_rfl
end Go.Proofs.YtldlljobofnmmaaDoor
namespace Go.Proofs.YtldlljobofnmmaaDoor
open Go.RowKit
set_option linter.unusedVariables false
set_option linter.unusedSimpArgs false
theorem fg_45_0 (b o : Nat) (w : World) : (Instr.fieldAt 45 (.pointer (some ⟨b, o, none⟩)) 0).run Tryd.prog w = .ok (.pointer (some ⟨b, o + 0, none⟩)) w := by go_simp
theorem fg_45_1 (b o : Nat) (w : World) : (Instr.fieldAt 45 (.pointer (some ⟨b, o, none⟩)) 1).run Tryd.prog w = .ok (.pointer (some ⟨b, o + 1, none⟩)) w := by go_simp
theorem fg_45_2 (b o : Nat) (w : World) : (Instr.fieldAt 45 (.pointer (some ⟨b, o, none⟩)) 2).run Tryd.prog w = .ok (.pointer (some ⟨b, o + 2, none⟩)) w := by go_simp
theorem fg_45_3 (b o : Nat) (w : World) : (Instr.fieldAt 45 (.pointer (some ⟨b, o, none⟩)) 3).run Tryd.prog w = .ok (.pointer (some ⟨b, o + 35, none⟩)) w := by go_simp
theorem fg_45_4 (b o : Nat) (w : World) : (Instr.fieldAt 45 (.pointer (some ⟨b, o, none⟩)) 4).run Tryd.prog w = .ok (.pointer (some ⟨b, o + 39, none⟩)) w := by go_simp
theorem fg_45_5 (b o : Nat) (w : World) : (Instr.fieldAt 45 (.pointer (some ⟨b, o, none⟩)) 5).run Tryd.prog w = .ok (.pointer (some ⟨b, o + 40, none⟩)) w := by go_simp
theorem fg_45_6 (b o : Nat) (w : World) : (Instr.fieldAt 45 (.pointer (some ⟨b, o, none⟩)) 6).run Tryd.prog w = .ok (.pointer (some ⟨b, o + 41, none⟩)) w := by go_simp
theorem ix_opR {b o m c i : Nat} (hi : i < m) (hm : m ≤ 9223372036854775807) (W : World) : (Instr.indexAt 23 (.slice (some ⟨b, o, none⟩) m c) (.int .i64 (i : Int))).run Tryd.prog W = .ok (.pointer (some ⟨b, o + 42 * i, none⟩)) W := by
  rw [Nat.mul_comm]
  go_simp
theorem exec_c5 {w : World} {a : Act} {o : Oper} {F : Nat} {ts : Array TypeId} {x1 x2 x3 x4 x5 : Operand} {v1 v2 v3 v4 v5 : Value} (ho : o.op = .call { callee := .value (.func F), args := #[x1, x2, x3, x4, x5], argTypes := ts }) (h1 : a.eval x1 = v1) (h2 : a.eval x2 = v2) (h3 : a.eval x3 = v3) (h4 : a.eval x4 = v4) (h5 : a.eval x5 = v5) (hf : (callFunc F #[v1, v2, v3, v4, v5]).run Tryd.prog w = .ok (.enter F #[v1, v2, v3, v4, v5]) w := by go_simp) : (execOp a.eval o).run Tryd.prog w = .ok (.enter F #[v1, v2, v3, v4, v5]) w := by
  have e0 : a.eval (.func F) = .func (.func F) #[] #[] := rfl
  unfold execOp; simp [ho, resolve, invoke, h1, h2, h3, h4, h5, e0, Deferred.ofValue, Result.andThen, hf]
theorem exec_bc1 {w : World} {a : Act} {o : Oper} {t : TypeId} {i : Nat} {v u : Value} (ho : o.op = .build t #[(i, .const v)]) (hl : (Instr.build t #[(i, v)]).run Tryd.prog w = .ok u w) : (execOp a.eval o).run Tryd.prog w = .ok (.value u) w := exec_build ho (by simp; rfl) hl
theorem exec_bc2 {w : World} {a : Act} {o : Oper} {t : TypeId} {i j : Nat} {v v2 u : Value} (ho : o.op = .build t #[(i, .const v), (j, .const v2)]) (hl : (Instr.build t #[(i, v), (j, v2)]).run Tryd.prog w = .ok u w) : (execOp a.eval o).run Tryd.prog w = .ok (.value u) w := exec_build ho (by simp; exact ⟨rfl, rfl⟩) hl
theorem ex_nei {w : World} {a : Act} {o : Oper} {x y : Operand} {c : Int} {t : TypeId} (ht : t = 3 ∨ t = 2) (ho : o.op = .binOp .neq t x y t) (hx : a.eval x = .int .i64 c) (hy : a.eval y = .int .i64 c) : (execOp a.eval o).run Tryd.prog w = .ok (.value (.bool false)) w := by
  rcases ht with rfl | rfl
  · refine exec_binOp ho hx hy ?_ ?_
    · kernel_rfl
    · have : (c != c) = false := by simp
      go_simp
  · refine exec_binOp ho hx hy ?_ ?_
    · kernel_rfl
    · have : (c != c) = false := by simp
      go_simp
theorem ex_neqX {w : World} {a : Act} {o : Oper} {x y : Operand} {p : IdK} (hp : p.ok) (ho : o.op = .binOp .neq 38 x y 38) (hx : a.eval x = p.v) (hy : a.eval y = p.v) : (execOp a.eval o).run Tryd.prog w = .ok (.value (.bool false)) w := by
  have h := neq_idR p p hp hp w
  rw [show decide (p ≠ p) = false by simp] at h
  exact exec_binOp ho hx hy (guard_idR _ _ _ _ _ _) h
def live9_o0 : Oper := ⟨some 29, .move (.tmp 7), 60, "law.go:32", #[], none⟩
def live9_o1 : Oper := ⟨some 30, .call { callee := Callee.builtin Builtin.len, args := #[.tmp 29], argTypes := #[60] }, 3, "law.go:32", #[⟨0, .data⟩], none⟩
def live9_o2 : Oper := ⟨some 31, .binOp BinOp.neq 3 (.tmp 30) (Operand.const (Value.int IntKind.i64 2)) 3, 4, "law.go:32", #[⟨1, .data⟩], none⟩
def live9_o3 : Oper := ⟨some 32, .move (.tmp 31), 4, "law.go:32", #[⟨2, .data⟩], none⟩
def live9_o4 : Oper := ⟨some 33, .move (.tmp 7), 60, "law.go:32", #[⟨3, .guard⟩], some (3, false)⟩
def live9_o5 : Oper := ⟨some 34, .indexAddr 60 (.tmp 33) (Operand.const (Value.int IntKind.i64 0)), 0, "law.go:32", #[⟨4, .data⟩, ⟨3, .guard⟩], some (3, false)⟩
def live9_o6 : Oper := ⟨some 35, .fieldAddr 63 (.tmp 34) 0, 0, "law.go:32", #[⟨5, .data⟩, ⟨3, .guard⟩], some (3, false)⟩
def live9_o7 : Oper := ⟨some 36, .load 38 (.tmp 35), 38, "law.go:32", #[⟨6, .data⟩, ⟨3, .guard⟩], some (3, false)⟩
def live9_o8 : Oper := ⟨some 37, .load 38 (.tmp 3), 38, "law.go:32", #[⟨3, .guard⟩], some (3, false)⟩
def live9_o9 : Oper := ⟨some 38, .binOp BinOp.neq 38 (.tmp 36) (.tmp 37) 38, 4, "law.go:32", #[⟨7, .data⟩, ⟨8, .data⟩, ⟨3, .guard⟩], some (3, false)⟩
def live9_o10 : Oper := ⟨some 39, .pick (.tmp 32) (Operand.const (Value.bool true)) (.tmp 38), 4, "law.go:32", #[⟨3, .data⟩, ⟨9, .data⟩], none⟩
def live9_o11 : Oper := ⟨some 40, .move (.tmp 39), 4, "law.go:32", #[⟨10, .data⟩, ⟨3, .chain⟩], none⟩
def live9_o12 : Oper := ⟨some 41, .move (.tmp 7), 60, "law.go:32", #[⟨11, .guard⟩], some (11, false)⟩
def live9_o13 : Oper := ⟨some 42, .indexAddr 60 (.tmp 41) (Operand.const (Value.int IntKind.i64 0)), 0, "law.go:32", #[⟨12, .data⟩, ⟨11, .guard⟩], some (11, false)⟩
def live9_o14 : Oper := ⟨some 43, .fieldAddr 63 (.tmp 42) 1, 0, "law.go:32", #[⟨13, .data⟩, ⟨11, .guard⟩], some (11, false)⟩
def live9_o15 : Oper := ⟨some 44, .fieldAddr 42 (.tmp 43) 1, 0, "law.go:32", #[⟨14, .data⟩, ⟨11, .guard⟩], some (11, false)⟩
def live9_o16 : Oper := ⟨some 45, .load 2 (.tmp 44), 2, "law.go:32", #[⟨15, .data⟩, ⟨11, .guard⟩], some (11, false)⟩
def live9_o17 : Oper := ⟨some 46, .binOp BinOp.neq 2 (.tmp 45) (Operand.const (Value.int IntKind.i64 8)) 2, 4, "law.go:32", #[⟨16, .data⟩, ⟨11, .guard⟩], some (11, false)⟩
def live9_o18 : Oper := ⟨some 47, .pick (.tmp 40) (Operand.const (Value.bool true)) (.tmp 46), 4, "law.go:32", #[⟨11, .data⟩, ⟨17, .data⟩], none⟩
def live9_o19 : Oper := ⟨some 48, .move (.tmp 47), 4, "law.go:32", #[⟨18, .data⟩, ⟨11, .chain⟩], none⟩
def live9_o20 : Oper := ⟨some 49, .move (.tmp 7), 60, "law.go:32", #[⟨19, .guard⟩], some (19, false)⟩
def live9_o21 : Oper := ⟨some 50, .indexAddr 60 (.tmp 49) (Operand.const (Value.int IntKind.i64 1)), 0, "law.go:32", #[⟨20, .data⟩, ⟨19, .guard⟩], some (19, false)⟩
def live9_o22 : Oper := ⟨some 51, .fieldAddr 63 (.tmp 50) 0, 0, "law.go:32", #[⟨21, .data⟩, ⟨19, .guard⟩], some (19, false)⟩
def live9_o23 : Oper := ⟨some 52, .load 38 (.tmp 51), 38, "law.go:32", #[⟨22, .data⟩, ⟨19, .guard⟩], some (19, false)⟩
def live9_o24 : Oper := ⟨some 53, .load 38 (.tmp 4), 38, "law.go:32", #[⟨19, .guard⟩], some (19, false)⟩
def live9_o25 : Oper := ⟨some 54, .binOp BinOp.neq 38 (.tmp 52) (.tmp 53) 38, 4, "law.go:32", #[⟨23, .data⟩, ⟨24, .data⟩, ⟨19, .guard⟩], some (19, false)⟩
def live9_o26 : Oper := ⟨some 55, .pick (.tmp 48) (Operand.const (Value.bool true)) (.tmp 54), 4, "law.go:32", #[⟨19, .data⟩, ⟨25, .data⟩], none⟩
def live9_o27 : Oper := ⟨some 56, .move (.tmp 55), 4, "law.go:32", #[⟨26, .data⟩, ⟨19, .chain⟩], none⟩
def live9_o28 : Oper := ⟨some 57, .move (.tmp 1), 26, "law.go:32", #[⟨27, .guard⟩], some (27, false)⟩
def live9_o29 : Oper := ⟨some 58, .call { callee := Callee.value (Operand.func 24), args := #[.tmp 57], argTypes := #[26] }, 3, "law.go:32", #[⟨28, .data⟩, ⟨27, .chain⟩, ⟨27, .guard⟩], some (27, false)⟩
def live9_o30 : Oper := ⟨some 59, .binOp BinOp.neq 3 (.tmp 58) (Operand.const (Value.int IntKind.i64 1)) 3, 4, "law.go:32", #[⟨29, .data⟩, ⟨27, .guard⟩], some (27, false)⟩
def live9_o31 : Oper := ⟨some 60, .pick (.tmp 56) (Operand.const (Value.bool true)) (.tmp 59), 4, "law.go:32", #[⟨27, .data⟩, ⟨30, .data⟩], none⟩
def live9_ops : Array Oper := #[live9_o0, live9_o1, live9_o2, live9_o3, live9_o4, live9_o5, live9_o6, live9_o7, live9_o8, live9_o9, live9_o10, live9_o11, live9_o12, live9_o13, live9_o14, live9_o15, live9_o16, live9_o17, live9_o18, live9_o19, live9_o20, live9_o21, live9_o22, live9_o23, live9_o24, live9_o25, live9_o26, live9_o27, live9_o28, live9_o29, live9_o30, live9_o31]
theorem live9 {rb xb yb g o lc : Nat} {x y : IdK} (a : Act) (w : World) (Q : Exit → Act → World → Prop) (zz : a.tmps.size = 78)
    (t1 : a.tmps.getD 1 undef = .pointer (some ⟨rb, 0, none⟩))
    (t3 : a.tmps.getD 3 undef = .pointer (some ⟨xb, 0, none⟩))
    (t4 : a.tmps.getD 4 undef = .pointer (some ⟨yb, 0, none⟩))
    (t7 : a.tmps.getD 7 undef = .slice (some ⟨g, o, none⟩) 2 lc)
    (hx : x.ok) (hy : y.ok) (L1 : ∀ W, W = w.drew → (Instr.loadAt 38 (.pointer (some ⟨g, o + 37 * 0 + 0, none⟩))).run Tryd.prog W = .ok (x.v) W) (L2 : ∀ W, W = w.drew → (Instr.loadAt 38 (.pointer (some ⟨xb, 0, none⟩))).run Tryd.prog W = .ok (x.v) W) (L3 : ∀ W, W = w.drew → (Instr.loadAt 2 (.pointer (some ⟨g, o + 37 * 0 + 33 + 1, none⟩))).run Tryd.prog W = .ok (.int .i64 8) W) (L4 : ∀ W, W = w.drew → (Instr.loadAt 38 (.pointer (some ⟨g, o + 37 * 1 + 0, none⟩))).run Tryd.prog W = .ok (y.v) W) (L5 : ∀ W, W = w.drew → (Instr.loadAt 38 (.pointer (some ⟨yb, 0, none⟩))).run Tryd.prog W = .ok (y.v) W) (CL : Calls Tryd.prog 24 #[.pointer (some ⟨rb, 0, none⟩)] w.drew fun e w' => e = .returned (.int .i64 1) ∧ w' = w.drew)
    (h : ∀ (a' : Act) (w' : World), w' = w.drew → a' = ((((((((((((((((((((((((((((((((a).put (some 29) (.slice (some ⟨g, o, none⟩) 2 lc)).put (some 30) (.int .i64 (2 : Int))).put (some 31) (.bool false)).put (some 32) (.bool false)).put (some 33) (.slice (some ⟨g, o, none⟩) 2 lc)).put (some 34) (.pointer (some ⟨g, o + 37 * 0, none⟩))).put (some 35) (.pointer (some ⟨g, o + 37 * 0 + 0, none⟩))).put (some 36) (x.v)).put (some 37) (x.v)).put (some 38) (.bool false)).put (some 39) (.bool false)).put (some 40) (.bool false)).put (some 41) (.slice (some ⟨g, o, none⟩) 2 lc)).put (some 42) (.pointer (some ⟨g, o + 37 * 0, none⟩))).put (some 43) (.pointer (some ⟨g, o + 37 * 0 + 33, none⟩))).put (some 44) (.pointer (some ⟨g, o + 37 * 0 + 33 + 1, none⟩))).put (some 45) (.int .i64 8)).put (some 46) (.bool false)).put (some 47) (.bool false)).put (some 48) (.bool false)).put (some 49) (.slice (some ⟨g, o, none⟩) 2 lc)).put (some 50) (.pointer (some ⟨g, o + 37 * 1, none⟩))).put (some 51) (.pointer (some ⟨g, o + 37 * 1 + 0, none⟩))).put (some 52) (y.v)).put (some 53) (y.v)).put (some 54) (.bool false)).put (some 55) (.bool false)).put (some 56) (.bool false)).put (some 57) (.pointer (some ⟨rb, 0, none⟩))).put (some 58) (.int .i64 1)).put (some 59) (.bool false)).put (some 60) (.bool false) → Q .normal a' w') :
    (Code.region 9 live9_ops true).wp Tryd.prog Q a w := by
  refine y0 (fun w' => w' = w.drew) (rfl) (fun hHeld => ?_)
  refine yv 0 rfl rfl (fun w1 hw => exec_move rfl (zi t7 rfl)) hHeld ?_
  refine yv 1 rfl rfl (fun w1 hw => exec_len rfl (zg zz rfl) (len_en _ _ _ _ _)) hHeld ?_
  refine yv (v := .bool false) 2 rfl rfl (fun w1 hw => ex_nei (.inl rfl) rfl (zg zz rfl) rfl) hHeld ?_
  refine yv 3 rfl rfl (fun w1 hw => exec_move rfl (zg zz rfl)) hHeld ?_
  refine yv 4 rfl (zw zz rfl rfl rfl (zg zz rfl)) (fun w1 hw => exec_move rfl (zi t7 rfl)) hHeld ?_
  refine yv 5 rfl (zw zz rfl rfl rfl (zg zz rfl)) (fun w1 hw => exec_indexAt rfl (zg zz rfl) rfl (ix_en (i := 0) (m := 2) (by decide) (by decide) _)) hHeld ?_
  refine yv 6 rfl (zw zz rfl rfl rfl (zg zz rfl)) (fun w1 hw => exec_fieldAt rfl (zg zz rfl) (fg_63_0 _ _ _)) hHeld ?_
  refine yv 7 rfl (zw zz rfl rfl rfl (zg zz rfl)) (fun w1 hw => exec_load rfl (zg zz rfl) (L1 _ hw)) hHeld ?_
  refine yv 8 rfl (zw zz rfl rfl rfl (zg zz rfl)) (fun w1 hw => exec_load rfl (zi t3 rfl) (L2 _ hw)) hHeld ?_
  refine yv (v := .bool false) 9 rfl (zw zz rfl rfl rfl (zg zz rfl)) (fun w1 hw => ex_neqX hx rfl (zg zz rfl) (zg zz rfl)) hHeld ?_
  refine yv 10 rfl rfl (fun w1 hw => exec_pickF rfl (zg zz rfl) (zg zz rfl)) hHeld ?_
  refine yv 11 rfl rfl (fun w1 hw => exec_move rfl (zg zz rfl)) hHeld ?_
  refine yv 12 rfl (zw zz rfl rfl rfl (zg zz rfl)) (fun w1 hw => exec_move rfl (zi t7 rfl)) hHeld ?_
  refine yv 13 rfl (zw zz rfl rfl rfl (zg zz rfl)) (fun w1 hw => exec_indexAt rfl (zg zz rfl) rfl (ix_en (i := 0) (m := 2) (by decide) (by decide) _)) hHeld ?_
  refine yv 14 rfl (zw zz rfl rfl rfl (zg zz rfl)) (fun w1 hw => exec_fieldAt rfl (zg zz rfl) (fg_63_1 _ _ _)) hHeld ?_
  refine yv 15 rfl (zw zz rfl rfl rfl (zg zz rfl)) (fun w1 hw => exec_fieldAt rfl (zg zz rfl) (fg_42_1 _ _ _)) hHeld ?_
  refine yv 16 rfl (zw zz rfl rfl rfl (zg zz rfl)) (fun w1 hw => exec_load rfl (zg zz rfl) (L3 _ hw)) hHeld ?_
  refine yv (v := .bool false) 17 rfl (zw zz rfl rfl rfl (zg zz rfl)) (fun w1 hw => ex_nei (.inr rfl) rfl (zg zz rfl) rfl) hHeld ?_
  refine yv 18 rfl rfl (fun w1 hw => exec_pickF rfl (zg zz rfl) (zg zz rfl)) hHeld ?_
  refine yv 19 rfl rfl (fun w1 hw => exec_move rfl (zg zz rfl)) hHeld ?_
  refine yv 20 rfl (zw zz rfl rfl rfl (zg zz rfl)) (fun w1 hw => exec_move rfl (zi t7 rfl)) hHeld ?_
  refine yv 21 rfl (zw zz rfl rfl rfl (zg zz rfl)) (fun w1 hw => exec_indexAt rfl (zg zz rfl) rfl (ix_en (i := 1) (m := 2) (by decide) (by decide) _)) hHeld ?_
  refine yv 22 rfl (zw zz rfl rfl rfl (zg zz rfl)) (fun w1 hw => exec_fieldAt rfl (zg zz rfl) (fg_63_0 _ _ _)) hHeld ?_
  refine yv 23 rfl (zw zz rfl rfl rfl (zg zz rfl)) (fun w1 hw => exec_load rfl (zg zz rfl) (L4 _ hw)) hHeld ?_
  refine yv 24 rfl (zw zz rfl rfl rfl (zg zz rfl)) (fun w1 hw => exec_load rfl (zi t4 rfl) (L5 _ hw)) hHeld ?_
  refine yv (v := .bool false) 25 rfl (zw zz rfl rfl rfl (zg zz rfl)) (fun w1 hw => ex_neqX hy rfl (zg zz rfl) (zg zz rfl)) hHeld ?_
  refine yv 26 rfl rfl (fun w1 hw => exec_pickF rfl (zg zz rfl) (zg zz rfl)) hHeld ?_
  refine yv 27 rfl rfl (fun w1 hw => exec_move rfl (zg zz rfl)) hHeld ?_
  refine yv 28 rfl (zw zz rfl rfl rfl (zg zz rfl)) (fun w1 hw => exec_move rfl (zi t1 rfl)) hHeld ?_
  refine yc 29 rfl (zw zz rfl rfl rfl (zg zz rfl)) (exec_c1 rfl (zg zz rfl)) (CL) (fun e x29 hx => ?_)
  obtain ⟨rfl, S1⟩ := hx
  refine ⟨_, rfl, S1, fun hHeld => ?_⟩
  refine yv (v := .bool false) 30 rfl (zw zz rfl rfl rfl (zg zz rfl)) (fun w1 hw => ex_nei (.inl rfl) rfl (zg zz rfl) rfl) hHeld ?_
  refine yv 31 rfl rfl (fun w1 hw => exec_pickF rfl (zg zz rfl) (zg zz rfl)) hHeld ?_
  exact ye rfl (h _ _ (S1) rfl)
def live2_o0 : Oper := ⟨some 9, .build 52 #[(1, Operand.const (Value.string { data := #[97] }))], 52, "law.go:25", #[], none⟩
def live2_o1 : Oper := ⟨some 2, .alloc 52, 0, "law.go:25", #[], none⟩
def live2_o2 : Oper := ⟨none, .store 52 (.tmp 2) (.tmp 9), 0, "law.go:25", #[⟨1, .data⟩, ⟨0, .data⟩, ⟨0, .phase⟩, ⟨1, .phase⟩], none⟩
def live2_ops : Array Oper := #[live2_o0, live2_o1, live2_o2]
theorem live2 {b : Nat} {u : Value} {w1 w2 : World} (a : Act) (w : World) (Q : Exit → Act → World → Prop) (zz : a.tmps.size = 78)
    (BB : (Instr.build 52 #[(1, .string ⟨#[97]⟩)]).run Tryd.prog w = .ok u w) (EA : (Instr.alloc 52 true (.tuple #[])).run Tryd.prog w = .ok (.pointer (some ⟨b, 0, none⟩)) w1) (ES : (Instr.storeAt 52 (.pointer (some ⟨b, 0, none⟩)) u).run Tryd.prog w1 = .ok () w2)
    (h : ∀ (a' : Act) (w' : World), w' = w2 → a' = ((a).put (some 9) (u)).put (some 2) (.pointer (some ⟨b, 0, none⟩)) → Q .normal a' w') :
    (Code.region 2 live2_ops false).wp Tryd.prog Q a w := by
  refine z0 rfl ?_
  refine zv (v := u) rfl (exec_bc1 rfl BB) ?_
  refine zv (v := .pointer (some ⟨b, 0, none⟩)) rfl (exec_alloc rfl EA) ?_
  refine zs rfl (exec_store rfl (zg zz rfl) (zg zz rfl) ES) ?_
  exact ze rfl (h _ _ (rfl) rfl)
def live3_o0 : Oper := ⟨some 10, .build 38 #[(1, Operand.const (Value.int IntKind.i64 1))], 38, "law.go:26", #[], none⟩
def live3_o1 : Oper := ⟨some 3, .alloc 38, 0, "law.go:26", #[], none⟩
def live3_o2 : Oper := ⟨none, .store 38 (.tmp 3) (.tmp 10), 0, "law.go:26", #[⟨1, .data⟩, ⟨0, .data⟩, ⟨0, .phase⟩, ⟨1, .phase⟩], none⟩
def live3_ops : Array Oper := #[live3_o0, live3_o1, live3_o2]
theorem live3 {b : Nat} {u : Value} {w1 w2 : World} (a : Act) (w : World) (Q : Exit → Act → World → Prop) (zz : a.tmps.size = 78)
    (BB : (Instr.build 38 #[(1, .int .i64 1)]).run Tryd.prog w = .ok u w) (EA : (Instr.alloc 38 true (.tuple #[])).run Tryd.prog w = .ok (.pointer (some ⟨b, 0, none⟩)) w1) (ES : (Instr.storeAt 38 (.pointer (some ⟨b, 0, none⟩)) u).run Tryd.prog w1 = .ok () w2)
    (h : ∀ (a' : Act) (w' : World), w' = w2 → a' = ((a).put (some 10) (u)).put (some 3) (.pointer (some ⟨b, 0, none⟩)) → Q .normal a' w') :
    (Code.region 3 live3_ops false).wp Tryd.prog Q a w := by
  refine z0 rfl ?_
  refine zv (v := u) rfl (exec_bc1 rfl BB) ?_
  refine zv (v := .pointer (some ⟨b, 0, none⟩)) rfl (exec_alloc rfl EA) ?_
  refine zs rfl (exec_store rfl (zg zz rfl) (zg zz rfl) ES) ?_
  exact ze rfl (h _ _ (rfl) rfl)
def live4_o0 : Oper := ⟨some 11, .build 38 #[(1, Operand.const (Value.int IntKind.i64 2))], 38, "law.go:27", #[], none⟩
def live4_o1 : Oper := ⟨some 4, .alloc 38, 0, "law.go:27", #[], none⟩
def live4_o2 : Oper := ⟨none, .store 38 (.tmp 4) (.tmp 11), 0, "law.go:27", #[⟨1, .data⟩, ⟨0, .data⟩, ⟨0, .phase⟩, ⟨1, .phase⟩], none⟩
def live4_ops : Array Oper := #[live4_o0, live4_o1, live4_o2]
theorem live4 {b : Nat} {u : Value} {w1 w2 : World} (a : Act) (w : World) (Q : Exit → Act → World → Prop) (zz : a.tmps.size = 78)
    (BB : (Instr.build 38 #[(1, .int .i64 2)]).run Tryd.prog w = .ok u w) (EA : (Instr.alloc 38 true (.tuple #[])).run Tryd.prog w = .ok (.pointer (some ⟨b, 0, none⟩)) w1) (ES : (Instr.storeAt 38 (.pointer (some ⟨b, 0, none⟩)) u).run Tryd.prog w1 = .ok () w2)
    (h : ∀ (a' : Act) (w' : World), w' = w2 → a' = ((a).put (some 11) (u)).put (some 4) (.pointer (some ⟨b, 0, none⟩)) → Q .normal a' w') :
    (Code.region 4 live4_ops false).wp Tryd.prog Q a w := by
  refine z0 rfl ?_
  refine zv (v := u) rfl (exec_bc1 rfl BB) ?_
  refine zv (v := .pointer (some ⟨b, 0, none⟩)) rfl (exec_alloc rfl EA) ?_
  refine zs rfl (exec_store rfl (zg zz rfl) (zg zz rfl) ES) ?_
  exact ze rfl (h _ _ (rfl) rfl)
def live5_o0 : Oper := ⟨some 12, .move (.tmp 1), 26, "law.go:28", #[], none⟩
def live5_o1 : Oper := ⟨some 13, .load 52 (.tmp 2), 52, "law.go:28", #[], none⟩
def live5_o2 : Oper := ⟨some 14, .load 38 (.tmp 3), 38, "law.go:28", #[], none⟩
def live5_o3 : Oper := ⟨some 15, .build 42 #[(0, Operand.const (Value.int IntKind.u8 7)), (1, Operand.const (Value.int IntKind.i64 5))], 42, "law.go:28", #[], none⟩
def live5_o4 : Oper := ⟨some 16, .call { callee := Callee.value (Operand.func 16), args := #[.tmp 12, .tmp 13, .tmp 14, .tmp 15, Operand.const Value.nilFunc], argTypes := #[26, 52, 38, 42, 80] }, 54, "law.go:28", #[⟨0, .data⟩, ⟨1, .data⟩, ⟨2, .data⟩, ⟨3, .data⟩], none⟩
def live5_o5 : Oper := ⟨some 5, .assign (.tmp 16), 54, "law.go:28", #[⟨4, .data⟩, ⟨4, .chain⟩, ⟨0, .phase⟩, ⟨1, .phase⟩, ⟨2, .phase⟩, ⟨3, .phase⟩, ⟨4, .phase⟩], none⟩
def live5_ops : Array Oper := #[live5_o0, live5_o1, live5_o2, live5_o3, live5_o4, live5_o5]
theorem live5 {rb pb xb : Nat} {p : PlK} {x : IdK} {v : VaV} (Fin : Nat → World → Prop) (a : Act) (w : World) (Q : Exit → Act → World → Prop) (zz : a.tmps.size = 78)
    (t1 : a.tmps.getD 1 undef = .pointer (some ⟨rb, 0, none⟩))
    (t2 : a.tmps.getD 2 undef = .pointer (some ⟨pb, 0, none⟩))
    (t3 : a.tmps.getD 3 undef = .pointer (some ⟨xb, 0, none⟩))
    (BB : (Instr.build 42 #[(0, .int .u8 7), (1, .int .i64 5)]).run Tryd.prog w = .ok v.v w) (LP : ∀ W, W = w → (Instr.loadAt 52 (.pointer (some ⟨pb, 0, none⟩))).run Tryd.prog W = .ok (p.v) W) (LX : ∀ W, W = w → (Instr.loadAt 38 (.pointer (some ⟨xb, 0, none⟩))).run Tryd.prog W = .ok (x.v) W) (CP : Calls Tryd.prog 16 #[.pointer (some ⟨rb, 0, none⟩), p.v, x.v, v.v, .nilFunc] w fun e w' => ∃ bk, e = .returned (.pointer (some ⟨bk, 0, none⟩)) ∧ Fin bk w')
    (h : ∀ (bk : Nat) (a' : Act) (w' : World), Fin bk w' → a' = ((((((a).put (some 12) (.pointer (some ⟨rb, 0, none⟩))).put (some 13) (p.v)).put (some 14) (x.v)).put (some 15) (v.v)).put (some 16) (.pointer (some ⟨bk, 0, none⟩))).put (some 5) (.pointer (some ⟨bk, 0, none⟩)) → Q .normal a' w') :
    (Code.region 5 live5_ops false).wp Tryd.prog Q a w := by
  refine z0 rfl ?_
  refine zv rfl (exec_move rfl (zi t1 rfl)) ?_
  refine zv rfl (exec_load rfl (zi t2 rfl) (LP _ rfl)) ?_
  refine zv rfl (exec_load rfl (zi t3 rfl) (LX _ rfl)) ?_
  refine zv (v := v.v) rfl (exec_bc2 rfl BB) ?_
  refine zc rfl (exec_c5 rfl (zg zz rfl) (zg zz rfl) (zg zz rfl) (zg zz rfl) rfl) (CP) (fun e x4 hx => ?_)
  obtain ⟨bk, rfl, HF⟩ := hx
  replace h := h bk
  refine ⟨_, rfl, ?_⟩
  refine zv rfl (exec_assign rfl (zg zz rfl)) ?_
  exact ze rfl (h _ _ (HF) rfl)
def live7_o0 : Oper := ⟨some 21, .move (.tmp 1), 26, "law.go:30", #[], none⟩
def live7_o1 : Oper := ⟨some 22, .load 52 (.tmp 2), 52, "law.go:30", #[], none⟩
def live7_o2 : Oper := ⟨some 23, .load 38 (.tmp 4), 38, "law.go:30", #[], none⟩
def live7_o3 : Oper := ⟨some 24, .build 42 #[], 42, "law.go:30", #[], none⟩
def live7_o4 : Oper := ⟨some 25, .call { callee := Callee.value (Operand.func 16), args := #[.tmp 21, .tmp 22, .tmp 23, .tmp 24, Operand.const Value.nilFunc], argTypes := #[26, 52, 38, 42, 80] }, 54, "law.go:30", #[⟨0, .data⟩, ⟨1, .data⟩, ⟨2, .data⟩, ⟨3, .data⟩], none⟩
def live7_o5 : Oper := ⟨some 6, .assign (.tmp 25), 54, "law.go:30", #[⟨4, .data⟩, ⟨4, .chain⟩, ⟨0, .phase⟩, ⟨1, .phase⟩, ⟨2, .phase⟩, ⟨3, .phase⟩, ⟨4, .phase⟩], none⟩
def live7_ops : Array Oper := #[live7_o0, live7_o1, live7_o2, live7_o3, live7_o4, live7_o5]
theorem live7 {rb pb xb : Nat} {p : PlK} {x : IdK} {v : VaV} (Fin : Nat → World → Prop) (a : Act) (w : World) (Q : Exit → Act → World → Prop) (zz : a.tmps.size = 78)
    (t1 : a.tmps.getD 1 undef = .pointer (some ⟨rb, 0, none⟩))
    (t2 : a.tmps.getD 2 undef = .pointer (some ⟨pb, 0, none⟩))
    (t4 : a.tmps.getD 4 undef = .pointer (some ⟨xb, 0, none⟩))
    (BB : (Instr.build 42 #[]).run Tryd.prog w = .ok v.v w) (LP : ∀ W, W = w → (Instr.loadAt 52 (.pointer (some ⟨pb, 0, none⟩))).run Tryd.prog W = .ok (p.v) W) (LX : ∀ W, W = w → (Instr.loadAt 38 (.pointer (some ⟨xb, 0, none⟩))).run Tryd.prog W = .ok (x.v) W) (CP : Calls Tryd.prog 16 #[.pointer (some ⟨rb, 0, none⟩), p.v, x.v, v.v, .nilFunc] w fun e w' => ∃ bk, e = .returned (.pointer (some ⟨bk, 0, none⟩)) ∧ Fin bk w')
    (h : ∀ (bk : Nat) (a' : Act) (w' : World), Fin bk w' → a' = ((((((a).put (some 21) (.pointer (some ⟨rb, 0, none⟩))).put (some 22) (p.v)).put (some 23) (x.v)).put (some 24) (v.v)).put (some 25) (.pointer (some ⟨bk, 0, none⟩))).put (some 6) (.pointer (some ⟨bk, 0, none⟩)) → Q .normal a' w') :
    (Code.region 7 live7_ops false).wp Tryd.prog Q a w := by
  refine z0 rfl ?_
  refine zv rfl (exec_move rfl (zi t1 rfl)) ?_
  refine zv rfl (exec_load rfl (zi t2 rfl) (LP _ rfl)) ?_
  refine zv rfl (exec_load rfl (zi t4 rfl) (LX _ rfl)) ?_
  refine zv rfl (exec_build0 rfl BB) ?_
  refine zc rfl (exec_c5 rfl (zg zz rfl) (zg zz rfl) (zg zz rfl) (zg zz rfl) rfl) (CP) (fun e x4 hx => ?_)
  obtain ⟨bk, rfl, HF⟩ := hx
  replace h := h bk
  refine ⟨_, rfl, ?_⟩
  refine zv rfl (exec_assign rfl (zg zz rfl)) ?_
  exact ze rfl (h _ _ (HF) rfl)
def live6_o0 : Oper := ⟨some 17, .move (.tmp 1), 26, "law.go:29", #[], none⟩
def live6_o1 : Oper := ⟨some 18, .load 52 (.tmp 2), 52, "law.go:29", #[], none⟩
def live6_o2 : Oper := ⟨some 19, .makeFunc (Fn.func 31) #[] #[.tmp 3], 80, "law.go:29", #[], none⟩
def live6_o3 : Oper := ⟨some 20, .call { callee := Callee.value (Operand.func 18), args := #[.tmp 17, .tmp 18, Operand.const (Value.int IntKind.i64 3), .tmp 19], argTypes := #[26, 52, 2, 80] }, 54, "law.go:29", #[⟨0, .data⟩, ⟨1, .data⟩, ⟨2, .data⟩], none⟩
def live6_ops : Array Oper := #[live6_o0, live6_o1, live6_o2, live6_o3]
theorem live6 {rb pb xb : Nat} {p : PlK} (Fin : Nat → World → Prop) (a : Act) (w : World) (Q : Exit → Act → World → Prop) (zz : a.tmps.size = 78)
    (t1 : a.tmps.getD 1 undef = .pointer (some ⟨rb, 0, none⟩))
    (t2 : a.tmps.getD 2 undef = .pointer (some ⟨pb, 0, none⟩))
    (t3 : a.tmps.getD 3 undef = .pointer (some ⟨xb, 0, none⟩))
    (LP : ∀ W, W = w → (Instr.loadAt 52 (.pointer (some ⟨pb, 0, none⟩))).run Tryd.prog W = .ok (p.v) W) (CP : Calls Tryd.prog 18 #[.pointer (some ⟨rb, 0, none⟩), p.v, .int .i64 3, .func (.func 31) #[] #[.pointer (some ⟨xb, 0, none⟩)]] w fun e w' => ∃ bk, e = .returned (.pointer (some ⟨bk, 0, none⟩)) ∧ Fin bk w')
    (h : ∀ (bk : Nat) (a' : Act) (w' : World), Fin bk w' → a' = ((((a).put (some 17) (.pointer (some ⟨rb, 0, none⟩))).put (some 18) (p.v)).put (some 19) (.func (.func 31) #[] #[.pointer (some ⟨xb, 0, none⟩)])).put (some 20) (.pointer (some ⟨bk, 0, none⟩)) → Q .normal a' w') :
    (Code.region 6 live6_ops false).wp Tryd.prog Q a w := by
  refine z0 rfl ?_
  refine zv rfl (exec_move rfl (zi t1 rfl)) ?_
  refine zv rfl (exec_load rfl (zi t2 rfl) (LP _ rfl)) ?_
  refine zv (v := .func (.func 31) #[] #[.pointer (some ⟨xb, 0, none⟩)]) rfl (exec_mkf1 rfl (zi t3 rfl)) ?_
  refine zc rfl (exec_c4 rfl (zg zz rfl) (zg zz rfl) rfl (zg zz rfl)) (CP) (fun e x3 hx => ?_)
  obtain ⟨bk, rfl, HF⟩ := hx
  replace h := h bk
  refine ⟨_, rfl, ?_⟩
  exact ze rfl (h _ _ (HF) rfl)
def live8_o0 : Oper := ⟨some 26, .move (.tmp 1), 26, "law.go:31", #[], none⟩
def live8_o1 : Oper := ⟨some 27, .load 52 (.tmp 2), 52, "law.go:31", #[], none⟩
def live8_o2 : Oper := ⟨some 28, .call { callee := Callee.value (Operand.func 20), args := #[.tmp 26, .tmp 27], argTypes := #[26, 52] }, 60, "law.go:31", #[⟨0, .data⟩, ⟨1, .data⟩], none⟩
def live8_o3 : Oper := ⟨some 7, .assign (.tmp 28), 60, "law.go:31", #[⟨2, .data⟩, ⟨2, .chain⟩, ⟨0, .phase⟩, ⟨1, .phase⟩, ⟨2, .phase⟩], none⟩
def live8_ops : Array Oper := #[live8_o0, live8_o1, live8_o2, live8_o3]
theorem live8 {rb pb : Nat} {p : PlK} (Fin : Value → World → Prop) (a : Act) (w : World) (Q : Exit → Act → World → Prop) (zz : a.tmps.size = 78)
    (t1 : a.tmps.getD 1 undef = .pointer (some ⟨rb, 0, none⟩))
    (t2 : a.tmps.getD 2 undef = .pointer (some ⟨pb, 0, none⟩))
    (LP : ∀ W, W = w → (Instr.loadAt 52 (.pointer (some ⟨pb, 0, none⟩))).run Tryd.prog W = .ok (p.v) W) (CP : Calls Tryd.prog 20 #[.pointer (some ⟨rb, 0, none⟩), p.v] w fun e w' => ∃ u, e = .returned u ∧ Fin u w')
    (h : ∀ (u : Value) (a' : Act) (w' : World), Fin u w' → a' = ((((a).put (some 26) (.pointer (some ⟨rb, 0, none⟩))).put (some 27) (p.v)).put (some 28) (u)).put (some 7) (u) → Q .normal a' w') :
    (Code.region 8 live8_ops false).wp Tryd.prog Q a w := by
  refine z0 rfl ?_
  refine zv rfl (exec_move rfl (zi t1 rfl)) ?_
  refine zv rfl (exec_load rfl (zi t2 rfl) (LP _ rfl)) ?_
  refine zc rfl (exec_c2 rfl (zg zz rfl) (zg zz rfl)) (CP) (fun e x2 hx => ?_)
  obtain ⟨u, rfl, HF⟩ := hx
  replace h := h u
  refine ⟨_, rfl, ?_⟩
  refine zv rfl (exec_assign rfl (zg zz rfl)) ?_
  exact ze rfl (h _ _ (HF) rfl)
def RP : RowT PlK := ⟨PlK.c, PlK.ok, 67, 96, 52, 22, zPl⟩
theorem RP_is : RP.Is := ⟨zPl_ok, fun _ h => PlK.len h, PlK.one, Tryd.underlying22, by kernel_rfl, ⟨_, Tryd.underlying52, rfl⟩, by decide, by decide⟩
theorem szP {u : PlK} (h : u.ok) : (Tryd.prog.info? 52).map (·.size) = some (RP.c u).toArray.size := by
  rw [List.size_toArray]
  show _ = some u.c.length
  rw [PlK.len h]
  exact szPl
theorem pl_box (w : World) : ∃ w2, (Instr.alloc 52 true (.tuple #[])).run Tryd.prog w = .ok (.pointer (some ⟨w.heap.size, 0, none⟩)) w2 ∧ RP.Bx w2 w.heap.size zPl ∧ Below w.heap.size w w2 := ⟨_, RowT.bx_zero RP_is w, heap_alloc_new _ _, (Below.refl _ _).alloc (Nat.le_refl _) _⟩
theorem pl_put {w : World} {b : Nat} {x u : PlK} (hx : x.ok) (hu : u.ok) (h : RP.Bx w b x) : ∃ w', (Instr.storeAt 52 (.pointer (some ⟨b, 0, none⟩)) u.v).run Tryd.prog w = .ok () w' ∧ RP.Bx w' b u ∧ Tch (fun j => j = b) w w' := by
  have t := setRow_tch w b u.c.toArray
  refine ⟨_, RowT.bx_store RP_is hx hu h, setRow_heap w b _ _ _ _ h, t.mono (fun j _ e => ?_)⟩
  simp at e
  exact e.symm
theorem pl_new (w : World) {u : PlK} (hu : u.ok) : ∃ w1 w2, (Instr.alloc 52 true (.tuple #[])).run Tryd.prog w = .ok (.pointer (some ⟨w.heap.size, 0, none⟩)) w1 ∧ (Instr.storeAt 52 (.pointer (some ⟨w.heap.size, 0, none⟩)) u.v).run Tryd.prog w1 = .ok () w2 ∧ RP.Bx w2 w.heap.size u ∧ Below w.heap.size w w2 := by
  obtain ⟨w1, e1, n1, b1⟩ := pl_box w
  obtain ⟨w2, e2, n2, t2⟩ := pl_put zPl_ok hu n1
  exact ⟨w1, w2, e1, e2, n2, b1.trans (t2.below b1.size (fun j e => by rw [e]; exact Nat.le_refl _))⟩
def RI : RowT IdK := ⟨IdK.c, IdK.ok, 33, 40, 38, 43, zId⟩
theorem RI_is : RI.Is := ⟨zId_ok, fun _ h => IdK.len h, IdK.one, Tryd.underlying43, by kernel_rfl, ⟨_, Tryd.underlying38, rfl⟩, by decide, by decide⟩
theorem id_newR (w : World) {u : IdK} (hu : u.ok) : ∃ w1 w2, (Instr.alloc 38 true (.tuple #[])).run Tryd.prog w = .ok (.pointer (some ⟨w.heap.size, 0, none⟩)) w1 ∧ (Instr.storeAt 38 (.pointer (some ⟨w.heap.size, 0, none⟩)) u.v).run Tryd.prog w1 = .ok () w2 ∧ w2.heap[w.heap.size]? = some (.cells u.c.toArray 38 (0, 0)) ∧ Below w.heap.size w w2 :=
  ⟨_, _, RowT.bx_zero RI_is w, RowT.bx_new RI_is w hu, heap_alloc_new _ _, (Below.refl _ _).alloc (Nat.le_refl _) _⟩
def atP (Ps : List PlK) (m : Int) : PlK := if m < 0 then zPl else (Ps[m.toNat]?).getD zPl
theorem atP_ok {Ps : List PlK} (h : ∀ x ∈ Ps, x.ok) (m : Int) : (atP Ps m).ok := by
  unfold atP
  split
  · exact zPl_ok
  · cases e : Ps[m.toNat]? with
    | none => exact zPl_ok
    | some x => exact h x (List.mem_of_getElem? e)
theorem build_pl (w : World) : (Instr.build 52 #[]).run Tryd.prog w = .ok zPl.v w := by kernel_rfl
theorem ix_pl {b o m c i : Nat} (hi : i < m) (hm : m ≤ 9223372036854775807) (W : World) : (Instr.indexAt 22 (.slice (some ⟨b, o, none⟩) m c) (.int .i64 (i : Int))).run Tryd.prog W = .ok (.pointer (some ⟨b, o + i * 67, none⟩)) W := by
  go_simp
theorem at_any {w : World} {a : Option Addr} {c : Nat} {Ps : List PlK} (hP : RowAt 67 PlK.c w a Ps) (ok : ∀ x ∈ Ps, x.ok) (hn : Ps.length ≤ 2000000000000) {m : Int} (hm : -9223372036854775808 ≤ m ∧ m ≤ 9223372036854775807) :
    Calls Tryd.prog 15 #[.slice a Ps.length c, .int .i64 m] w fun e w' => e = .returned (atP Ps m).v ∧ Below w.heap.size w w' := by
  obtain ⟨w1, e1, n1, b1⟩ := pl_box w
  have H1 := hidMk e1
  obtain ⟨u, hu⟩ : ∃ u, atP Ps m = u := ⟨_, rfl⟩
  have hok : u.ok := by rw [← hu]; exact atP_ok ok m
  obtain ⟨w2, e2, n2, t2⟩ := pl_put zPl_ok hok n1
  have b2 : Below w.heap.size w w2 := b1.trans (t2.below b1.size (fun j e => by rw [e]; exact Nat.le_refl _))
  have H2 := hidMk e2
  have HF := hidMk (And.intro n2 b2)
  rw [hu]
  obtain ⟨n, hnn⟩ : ∃ n, Ps.length = n := ⟨_, rfl⟩
  by_cases h0 : m < 0
  · have hz : u = zPl := by rw [← hu, atP, if_pos h0]
    subst hz
    rw [hnn]
    clear e1 n1 b1 e2 n2 t2 b2 hu hP hnn
    go_enter Tryd.func15, Tryd.ntmps15
    go_wp2_with (first
      | (refine wpList_run rfl (exec_alloc (w2 := w1) rfl H1.out) ?_)
      | (refine wpList_val rfl (exec_build0 rfl (build_pl _)) ?_)
      | (refine wpList_skip rfl rfl (exec_store (w2 := w2) rfl rfl rfl H2.out) ?_)
      | fail)
    refine bodyPost_ret (results_cell_row Tryd.results15 _ _ w.heap.size _ _ _ _ rfl HF.out.1 Tryd.underlying52 rfl (szP hok)) rfl ?_
    exact ⟨rfl, HF.out.2⟩
  · obtain ⟨k, rfl⟩ : ∃ k : Nat, m = (k : Int) := ⟨m.toNat, by omega⟩
    by_cases hk : k < n
    · obtain ⟨x, hx⟩ : ∃ x, Ps[k]? = some x := ⟨_, List.getElem?_eq_getElem (by omega)⟩
      have hz : u = x := by rw [← hu, atP, if_neg h0, Int.toNat_natCast, hx]; rfl
      subst hz
      obtain ⟨g, o, rfl, lg, hr⟩ : ∃ g o, a = some ⟨g, o, none⟩ ∧ g < w.heap.size ∧ w.rangeAt g (o + k * 67) u.c := by
        rcases hP with h | ⟨g, o, e, h1, h2⟩
        · rw [h] at hx; cases hx
        · exact ⟨g, o, e, h1, h2 k u hx⟩
      have HX := hidMk (ld_pl hok (rangeAt_keep hr (b1.block g lg)))
      have HI := hidMk (ix_pl (b := g) (o := o) (c := c) hk (by omega) w1)
      rw [hnn] at hn ⊢
      clear e1 n1 b1 e2 n2 t2 b2 hu hP hnn hr hx lg
      go_enter Tryd.func15, Tryd.ntmps15
      go_wp2_with (first
        | (refine wpList_run rfl (exec_alloc (w2 := w1) rfl H1.out) ?_)
        | (refine wpList_val rfl (exec_indexAt rfl rfl rfl HI.out) ?_)
        | (refine wpList_val rfl (exec_load rfl rfl HX.out) ?_)
        | (refine wpList_skip rfl rfl (exec_store (w2 := w2) rfl rfl rfl H2.out) ?_)
        | fail)
      refine bodyPost_ret (results_cell_row Tryd.results15 _ _ w.heap.size _ _ _ _ rfl HF.out.1 Tryd.underlying52 rfl (szP hok)) rfl ?_
      exact ⟨rfl, HF.out.2⟩
    · have hz : u = zPl := by rw [← hu, atP, if_neg h0, Int.toNat_natCast, List.getElem?_eq_none (by omega)]; rfl
      subst hz
      rw [hnn]
      clear e1 n1 b1 e2 n2 t2 b2 hu hP hnn
      go_enter Tryd.func15, Tryd.ntmps15
      go_wp2_with (first
        | (refine wpList_run rfl (exec_alloc (w2 := w1) rfl H1.out) ?_)
        | (refine wpList_val rfl (exec_build0 rfl (build_pl _)) ?_)
        | (refine wpList_skip rfl rfl (exec_store (w2 := w2) rfl rfl rfl H2.out) ?_)
        | fail)
      refine bodyPost_ret (results_cell_row Tryd.results15 _ _ w.heap.size _ _ _ _ rfl HF.out.1 Tryd.underlying52 rfl (szP hok)) rfl ?_
      exact ⟨rfl, HF.out.2⟩
theorem tells_live {w : World} {xb : Nat} {x : IdK} (hx : x.ok) (hb : w.heap[xb]? = some (.cells x.c.toArray 38 (0, 0))) : Tells w 31 #[.pointer (some ⟨xb, 0, none⟩)] (fun k => decide (k = x)) := by
  refine ⟨enters_of Tryd.func31 (by kernel_rfl) rfl, fun W bW k hk => ?_⟩
  obtain ⟨w1, E1, n1, b1⟩ := box_id W k
  have hW := (bW.block xb (Array.getElem?_eq_some_iff.1 hb).1).trans hb
  have h1 := (b1.block xb (Array.getElem?_eq_some_iff.1 hW).1).trans hW
  have H1 := hidMk E1
  have L1 := hidMk (load_id hk n1)
  have L2 := hidMk (load_id hx h1)
  have HB := hidMk b1
  have EQ := hidMk (eql_idR k x hk hx w1)
  clear E1 n1 b1 hW h1 bW hb
  show Calls Tryd.prog 31 #[k.v, .pointer (some ⟨xb, 0, none⟩)] W _
  go_enter Tryd.func31, Tryd.ntmps31
  go_wp2_with (first
    | (refine wpList_run rfl (exec_boxE (t := 38) (v := k.v) (u := .pointer (some ⟨W.heap.size, 0, none⟩)) (w2 := w1) rfl rfl H1.out) ?_)
    | (refine wpList_val rfl (exec_load (v := k.v) rfl rfl L1.out) ?_)
    | (refine wpList_val rfl (exec_load (v := x.v) rfl rfl L2.out) ?_)
    | (refine wpList_val rfl (exec_binOp rfl rfl rfl (guard_idR _ _ _ _ _ _) EQ.out) ?_)
    | fail)
  go_ret
  exact ⟨rfl, HB.out⟩
theorem fg_88_0 (b o : Nat) (w : World) : (Instr.fieldAt 88 (.pointer (some ⟨b, o, none⟩)) 0).run Tryd.prog w = .ok (.pointer (some ⟨b, o + 0, none⟩)) w := by go_simp
theorem fg_88_1 (b o : Nat) (w : World) : (Instr.fieldAt 88 (.pointer (some ⟨b, o, none⟩)) 1).run Tryd.prog w = .ok (.pointer (some ⟨b, o + 1, none⟩)) w := by go_simp
theorem fg_122_0 (b o : Nat) (w : World) : (Instr.fieldAt 122 (.pointer (some ⟨b, o, none⟩)) 0).run Tryd.prog w = .ok (.pointer (some ⟨b, o + 0, none⟩)) w := by go_simp
theorem fg_122_1 (b o : Nat) (w : World) : (Instr.fieldAt 122 (.pointer (some ⟨b, o, none⟩)) 1).run Tryd.prog w = .ok (.pointer (some ⟨b, o + 67, none⟩)) w := by go_simp
theorem ix_idR {b o m c i : Nat} (hi : i < m) (hm : m ≤ 9223372036854775807) (W : World) : (Instr.indexAt 43 (.slice (some ⟨b, o, none⟩) m c) (.int .i64 (i : Int))).run Tryd.prog W = .ok (.pointer (some ⟨b, o + 33 * i, none⟩)) W := by
  rw [Nat.mul_comm]
  go_simp
theorem ix_sl {b o m c i : Nat} (hi : i < m) (hm : m ≤ 9223372036854775807) (W : World) : (Instr.indexAt 85 (.slice (some ⟨b, o, none⟩) m c) (.int .i64 (i : Int))).run Tryd.prog W = .ok (.pointer (some ⟨b, o + 68 * i, none⟩)) W := by
  rw [Nat.mul_comm]
  go_simp
theorem ex_eqlX {w : World} {a : Act} {o : Oper} {x y : Operand} {p q : IdK} (hp : p.ok) (hq : q.ok) (ho : o.op = .binOp .eql 38 x y 38) (hx : a.eval x = p.v) (hy : a.eval y = q.v) : (execOp a.eval o).run Tryd.prog w = .ok (.value (.bool (decide (p = q)))) w := exec_binOp ho hx hy (guard_idR _ _ _ _ _ _) (eql_idR p q hp hq w)
theorem guard_plR (x y : Operand) (a b : PlK) (w : World) (op : BinOp) : (eqGuard op 52 x y a.v b.v).run Tryd.prog w = .ok () w := by
  unfold eqGuard
  cases op <;> simp [PlK.v]
theorem eql_plR (a b : PlK) (ha : a.ok) (hb : b.ok) (w : World) : (binOp .eql 52 a.v b.v).run Tryd.prog w = .ok (.bool (decide (a = b))) w := by
  have h := eqPl 9996 a b ha hb w
  have : (Op.equal 52 a.v b.v).run Tryd.prog w = .ok (decide (a = b)) w := h
  unfold PlK.v at *
  simp only [binOp]
  simp [this]
theorem ex_eqlP {w : World} {a : Act} {o : Oper} {x y : Operand} {p q : PlK} (hp : p.ok) (hq : q.ok) (ho : o.op = .binOp .eql 52 x y 52) (hx : a.eval x = p.v) (hy : a.eval y = q.v) : (execOp a.eval o).run Tryd.prog w = .ok (.value (.bool (decide (p = q)))) w := exec_binOp ho hx hy (guard_plR _ _ _ _ _ _) (eql_plR p q hp hq w)
theorem build_sl0 (w : World) (ea : Option Addr) (en ec : Nat) (a0 a1 a2 a3 a4 a5 a6 a7 a8 a9 a10 a11 a12 a13 a14 a15 a16 a17 a18 a19 a20 a21 a22 a23 a24 a25 a26 a27 a28 a29 a30 a31 a32 a33 a34 a35 a36 a37 a38 a39 a40 a41 a42 a43 a44 a45 a46 a47 a48 a49 a50 a51 a52 a53 a54 a55 a56 a57 a58 a59 a60 a61 a62 a63 a64 a65 a66 : Value) : (Instr.build 122 #[(0, .agg [a0, a1, a2, a3, a4, a5, a6, a7, a8, a9, a10, a11, a12, a13, a14, a15, a16, a17, a18, a19, a20, a21, a22, a23, a24, a25, a26, a27, a28, a29, a30, a31, a32, a33, a34, a35, a36, a37, a38, a39, a40, a41, a42, a43, a44, a45, a46, a47, a48, a49, a50, a51, a52, a53, a54, a55, a56, a57, a58, a59, a60, a61, a62, a63, a64, a65, a66].toArray), (1, .slice ea en ec)]).run Tryd.prog w = .ok (.agg ([a0, a1, a2, a3, a4, a5, a6, a7, a8, a9, a10, a11, a12, a13, a14, a15, a16, a17, a18, a19, a20, a21, a22, a23, a24, a25, a26, a27, a28, a29, a30, a31, a32, a33, a34, a35, a36, a37, a38, a39, a40, a41, a42, a43, a44, a45, a46, a47, a48, a49, a50, a51, a52, a53, a54, a55, a56, a57, a58, a59, a60, a61, a62, a63, a64, a65, a66] ++ [Value.slice ea en ec]).toArray) w := by kernel_rfl
theorem build_sl (w : World) {p : PlK} (hp : p.ok) (ea : Option Addr) (en ec : Nat) : (Instr.build 122 #[(0, p.v), (1, .slice ea en ec)]).run Tryd.prog w = .ok (.agg (p.c ++ [Value.slice ea en ec]).toArray) w := by
  have h := PlK.len hp
  unfold PlK.v
  generalize p.c = l at *
  match l, h with
  | a0 :: a1 :: a2 :: a3 :: a4 :: a5 :: a6 :: a7 :: a8 :: a9 :: a10 :: a11 :: a12 :: a13 :: a14 :: a15 :: a16 :: a17 :: a18 :: a19 :: a20 :: a21 :: a22 :: a23 :: a24 :: a25 :: a26 :: a27 :: a28 :: a29 :: a30 :: a31 :: a32 :: a33 :: a34 :: a35 :: a36 :: a37 :: a38 :: a39 :: a40 :: a41 :: a42 :: a43 :: a44 :: a45 :: a46 :: a47 :: a48 :: a49 :: a50 :: a51 :: a52 :: a53 :: a54 :: a55 :: a56 :: a57 :: a58 :: a59 :: a60 :: a61 :: a62 :: a63 :: a64 :: a65 :: a66 :: [], _ => exact build_sl0 w ea en ec a0 a1 a2 a3 a4 a5 a6 a7 a8 a9 a10 a11 a12 a13 a14 a15 a16 a17 a18 a19 a20 a21 a22 a23 a24 a25 a26 a27 a28 a29 a30 a31 a32 a33 a34 a35 a36 a37 a38 a39 a40 a41 a42 a43 a44 a45 a46 a47 a48 a49 a50 a51 a52 a53 a54 a55 a56 a57 a58 a59 a60 a61 a62 a63 a64 a65 a66
theorem exec_bsl {w : World} {a : Act} {o : Oper} {x y : Operand} {p : PlK} {ea : Option Addr} {en ec : Nat} (hp : p.ok) (ho : o.op = .build 122 #[(0, x), (1, y)]) (hx : a.eval x = p.v) (hy : a.eval y = .slice ea en ec) : (execOp a.eval o).run Tryd.prog w = .ok (.value (.agg (p.c ++ [Value.slice ea en ec]).toArray)) w :=
  exec_build ho (by simp [hx, hy]) (build_sl w hp ea en ec)
def saw4_o0 : Oper := ⟨some 12, .move (.tmp 0), 43, "ref.go:46", #[], none⟩
def saw4_o1 : Oper := ⟨some 13, .move (.tmp 5), 3, "ref.go:46", #[], none⟩
def saw4_o2 : Oper := ⟨some 14, .indexAddr 43 (.tmp 12) (.tmp 13), 0, "ref.go:46", #[⟨0, .data⟩, ⟨1, .data⟩], none⟩
def saw4_o3 : Oper := ⟨some 15, .load 38 (.tmp 14), 38, "ref.go:46", #[⟨2, .data⟩], none⟩
def saw4_o4 : Oper := ⟨some 16, .load 38 (.tmp 3), 38, "ref.go:46", #[], none⟩
def saw4_o5 : Oper := ⟨some 17, .binOp BinOp.eql 38 (.tmp 15) (.tmp 16) 38, 4, "ref.go:46", #[⟨3, .data⟩, ⟨4, .data⟩], none⟩
def saw4_ops : Array Oper := #[saw4_o0, saw4_o1, saw4_o2, saw4_o3, saw4_o4, saw4_o5]
theorem saw4 {g o n c i xb : Nat} {x y : IdK} (a : Act) (w : World) (Q : Exit → Act → World → Prop) (zz : a.tmps.size = 18)
    (t0 : a.tmps.getD 0 undef = .slice (some ⟨g, o, none⟩) n c)
    (t3 : a.tmps.getD 3 undef = .pointer (some ⟨xb, 0, none⟩))
    (t5 : a.tmps.getD 5 undef = .int .i64 (i : Int))
    (hx : x.ok) (hy : y.ok) (hi : i < n) (hm : n ≤ 9223372036854775807) (L1 : ∀ W, W = w.drew → (Instr.loadAt 38 (.pointer (some ⟨g, o + 33 * i, none⟩))).run Tryd.prog W = .ok (x.v) W) (L2 : ∀ W, W = w.drew → (Instr.loadAt 38 (.pointer (some ⟨xb, 0, none⟩))).run Tryd.prog W = .ok (y.v) W)
    (h : ∀ (a' : Act) (w' : World), w' = w.drew → a' = ((((((a).put (some 12) (.slice (some ⟨g, o, none⟩) n c)).put (some 13) (.int .i64 (i : Int))).put (some 14) (.pointer (some ⟨g, o + 33 * i, none⟩))).put (some 15) (x.v)).put (some 16) (y.v)).put (some 17) (.bool (decide (x = y))) → Q .normal a' w') :
    (Code.region 4 saw4_ops true).wp Tryd.prog Q a w := by
  refine y0 (fun w' => w' = w.drew) (rfl) (fun hHeld => ?_)
  refine yv 0 rfl rfl (fun w1 hw => exec_move rfl (zi t0 rfl)) hHeld ?_
  refine yv 1 rfl rfl (fun w1 hw => exec_move rfl (zi t5 rfl)) hHeld ?_
  refine yv 2 rfl rfl (fun w1 hw => exec_indexAt rfl (zg zz rfl) (zg zz rfl) (ix_idR hi hm _)) hHeld ?_
  refine yv 3 rfl rfl (fun w1 hw => exec_load rfl (zg zz rfl) (L1 _ hw)) hHeld ?_
  refine yv 4 rfl rfl (fun w1 hw => exec_load rfl (zi t3 rfl) (L2 _ hw)) hHeld ?_
  refine yv (v := .bool (decide (x = y))) 5 rfl rfl (fun w1 hw => ex_eqlX hx hy rfl (zg zz rfl) (zg zz rfl)) hHeld ?_
  exact ye rfl (h _ _ (hHeld) rfl)
def fnd4_o0 : Oper := ⟨some 19, .move (.tmp 0), 28, "ref.go:56", #[], none⟩
def fnd4_o1 : Oper := ⟨some 20, .nilCheck (.tmp 19), 0, "ref.go:56", #[⟨0, .data⟩], none⟩
def fnd4_o2 : Oper := ⟨some 21, .fieldAddr 88 (.tmp 20) 0, 0, "ref.go:56", #[⟨1, .data⟩], none⟩
def fnd4_o3 : Oper := ⟨some 22, .load 85 (.tmp 21), 85, "ref.go:56", #[⟨2, .data⟩], none⟩
def fnd4_o4 : Oper := ⟨some 23, .move (.tmp 5), 3, "ref.go:56", #[], none⟩
def fnd4_o5 : Oper := ⟨some 24, .indexAddr 85 (.tmp 22) (.tmp 23), 0, "ref.go:56", #[⟨3, .data⟩, ⟨4, .data⟩], none⟩
def fnd4_o6 : Oper := ⟨some 25, .fieldAddr 122 (.tmp 24) 0, 0, "ref.go:56", #[⟨5, .data⟩], none⟩
def fnd4_o7 : Oper := ⟨some 26, .load 52 (.tmp 25), 52, "ref.go:56", #[⟨6, .data⟩], none⟩
def fnd4_o8 : Oper := ⟨some 27, .load 52 (.tmp 3), 52, "ref.go:56", #[], none⟩
def fnd4_o9 : Oper := ⟨some 28, .binOp BinOp.eql 52 (.tmp 26) (.tmp 27) 52, 4, "ref.go:56", #[⟨7, .data⟩, ⟨8, .data⟩], none⟩
def fnd4_ops : Array Oper := #[fnd4_o0, fnd4_o1, fnd4_o2, fnd4_o3, fnd4_o4, fnd4_o5, fnd4_o6, fnd4_o7, fnd4_o8, fnd4_o9]
theorem fnd4 {d g o n c i pb : Nat} {x p : PlK} (a : Act) (w : World) (Q : Exit → Act → World → Prop) (zz : a.tmps.size = 30)
    (t0 : a.tmps.getD 0 undef = .pointer (some ⟨d, 0, none⟩))
    (t3 : a.tmps.getD 3 undef = .pointer (some ⟨pb, 0, none⟩))
    (t5 : a.tmps.getD 5 undef = .int .i64 (i : Int))
    (hx : x.ok) (hp : p.ok) (hi : i < n) (hm : n ≤ 9223372036854775807) (L1 : ∀ W, W = w.drew → (Instr.loadAt 85 (.pointer (some ⟨d, 0 + 0, none⟩))).run Tryd.prog W = .ok (.slice (some ⟨g, o, none⟩) n c) W) (L2 : ∀ W, W = w.drew → (Instr.loadAt 52 (.pointer (some ⟨g, o + 68 * i + 0, none⟩))).run Tryd.prog W = .ok (x.v) W) (L3 : ∀ W, W = w.drew → (Instr.loadAt 52 (.pointer (some ⟨pb, 0, none⟩))).run Tryd.prog W = .ok (p.v) W)
    (h : ∀ (a' : Act) (w' : World), w' = w.drew → a' = ((((((((((a).put (some 19) (.pointer (some ⟨d, 0, none⟩))).put (some 20) (.pointer (some ⟨d, 0, none⟩))).put (some 21) (.pointer (some ⟨d, 0 + 0, none⟩))).put (some 22) (.slice (some ⟨g, o, none⟩) n c)).put (some 23) (.int .i64 (i : Int))).put (some 24) (.pointer (some ⟨g, o + 68 * i, none⟩))).put (some 25) (.pointer (some ⟨g, o + 68 * i + 0, none⟩))).put (some 26) (x.v)).put (some 27) (p.v)).put (some 28) (.bool (decide (x = p))) → Q .normal a' w') :
    (Code.region 4 fnd4_ops true).wp Tryd.prog Q a w := by
  refine y0 (fun w' => w' = w.drew) (rfl) (fun hHeld => ?_)
  refine yv 0 rfl rfl (fun w1 hw => exec_move rfl (zi t0 rfl)) hHeld ?_
  refine yv 1 rfl rfl (fun w1 hw => exec_nilCheck rfl (zg zz rfl)) hHeld ?_
  refine yv 2 rfl rfl (fun w1 hw => exec_fieldAt rfl (zg zz rfl) (fg_88_0 _ _ _)) hHeld ?_
  refine yv 3 rfl rfl (fun w1 hw => exec_load rfl (zg zz rfl) (L1 _ hw)) hHeld ?_
  refine yv 4 rfl rfl (fun w1 hw => exec_move rfl (zi t5 rfl)) hHeld ?_
  refine yv 5 rfl rfl (fun w1 hw => exec_indexAt rfl (zg zz rfl) (zg zz rfl) (ix_sl hi hm _)) hHeld ?_
  refine yv 6 rfl rfl (fun w1 hw => exec_fieldAt rfl (zg zz rfl) (fg_122_0 _ _ _)) hHeld ?_
  refine yv 7 rfl rfl (fun w1 hw => exec_load rfl (zg zz rfl) (L2 _ hw)) hHeld ?_
  refine yv 8 rfl rfl (fun w1 hw => exec_load rfl (zi t3 rfl) (L3 _ hw)) hHeld ?_
  refine yv (v := .bool (decide (x = p))) 9 rfl rfl (fun w1 hw => ex_eqlP hx hp rfl (zg zz rfl) (zg zz rfl)) hHeld ?_
  exact ye rfl (h _ _ (hHeld) rfl)
def cpy5_o0 : Oper := ⟨some 11, .move (.tmp 3), 85, "ref.go:27", #[], none⟩
def cpy5_o1 : Oper := ⟨some 12, .move (.tmp 0), 85, "ref.go:27", #[], none⟩
def cpy5_o2 : Oper := ⟨some 13, .move (.tmp 4), 3, "ref.go:27", #[], none⟩
def cpy5_o3 : Oper := ⟨some 14, .indexAddr 85 (.tmp 12) (.tmp 13), 0, "ref.go:27", #[⟨1, .data⟩, ⟨2, .data⟩], none⟩
def cpy5_o4 : Oper := ⟨some 15, .fieldAddr 122 (.tmp 14) 0, 0, "ref.go:27", #[⟨3, .data⟩], none⟩
def cpy5_o5 : Oper := ⟨some 16, .load 52 (.tmp 15), 52, "ref.go:27", #[⟨4, .data⟩], none⟩
def cpy5_o6 : Oper := ⟨some 17, .buildSlice 60 0 #[], 60, "ref.go:27", #[], none⟩
def cpy5_o7 : Oper := ⟨some 18, .move (.tmp 0), 85, "ref.go:27", #[], none⟩
def cpy5_o8 : Oper := ⟨some 19, .move (.tmp 4), 3, "ref.go:27", #[], none⟩
def cpy5_o9 : Oper := ⟨some 20, .indexAddr 85 (.tmp 18) (.tmp 19), 0, "ref.go:27", #[⟨7, .data⟩, ⟨8, .data⟩], none⟩
def cpy5_o10 : Oper := ⟨some 21, .fieldAddr 122 (.tmp 20) 1, 0, "ref.go:27", #[⟨9, .data⟩], none⟩
def cpy5_o11 : Oper := ⟨some 22, .load 60 (.tmp 21), 60, "ref.go:27", #[⟨10, .data⟩], none⟩
def cpy5_o12 : Oper := ⟨some 23, .call { callee := Callee.builtin Builtin.append, args := #[.tmp 17, .tmp 22], argTypes := #[60, 60] }, 60, "ref.go:27", #[⟨6, .data⟩, ⟨11, .data⟩], none⟩
def cpy5_o13 : Oper := ⟨some 24, .build 122 #[(0, .tmp 16), (1, .tmp 23)], 122, "ref.go:27", #[⟨5, .data⟩, ⟨12, .data⟩], none⟩
def cpy5_o14 : Oper := ⟨some 25, .buildSlice 85 1 #[(0, .tmp 24)], 85, "ref.go:27", #[⟨13, .data⟩], none⟩
def cpy5_o15 : Oper := ⟨some 26, .call { callee := Callee.builtin Builtin.append, args := #[.tmp 11, .tmp 25], argTypes := #[85, 85] }, 85, "ref.go:27", #[⟨0, .data⟩, ⟨14, .data⟩, ⟨12, .chain⟩], none⟩
def cpy5_o16 : Oper := ⟨some 3, .assign (.tmp 26), 85, "ref.go:27", #[⟨15, .data⟩, ⟨15, .chain⟩, ⟨0, .phase⟩, ⟨1, .phase⟩, ⟨2, .phase⟩, ⟨3, .phase⟩, ⟨4, .phase⟩, ⟨5, .phase⟩, ⟨6, .phase⟩, ⟨7, .phase⟩, ⟨8, .phase⟩, ⟨9, .phase⟩, ⟨10, .phase⟩, ⟨11, .phase⟩, ⟨12, .phase⟩, ⟨13, .phase⟩, ⟨14, .phase⟩, ⟨15, .phase⟩], none⟩
def cpy5_ops : Array Oper := #[cpy5_o0, cpy5_o1, cpy5_o2, cpy5_o3, cpy5_o4, cpy5_o5, cpy5_o6, cpy5_o7, cpy5_o8, cpy5_o9, cpy5_o10, cpy5_o11, cpy5_o12, cpy5_o13, cpy5_o14, cpy5_o15, cpy5_o16]
theorem cpy5 {g o n c i en ec : Nat} {ea : Option Addr} {p : PlK} {lv ov e0 bv ov2 : Value} {w1 w2 w3 w4 : World} (S : World → Prop) (a : Act) (w : World) (Q : Exit → Act → World → Prop) (zz : a.tmps.size = 28)
    (t0 : a.tmps.getD 0 undef = .slice (some ⟨g, o, none⟩) n c)
    (t3 : a.tmps.getD 3 undef = ov)
    (t4 : a.tmps.getD 4 undef = .int .i64 (i : Int))
    (hp : p.ok) (hi : i < n) (hm : n ≤ 9223372036854775807) (h0 : S w.drew) (L1 : ∀ W, S W → (Instr.loadAt 52 (.pointer (some ⟨g, o + 68 * i + 0, none⟩))).run Tryd.prog W = .ok (p.v) W) (L2 : ∀ W, S W → (Instr.loadAt 60 (.pointer (some ⟨g, o + 68 * i + 67, none⟩))).run Tryd.prog W = .ok (lv) W) (E1 : (Instr.buildSlice 60 0 #[]).run Tryd.prog w.drew = .ok e0 w1) (S1 : S w1) (E2 : (Builtin.append_ #[60, 60] 60 #[e0, lv]).run Tryd.prog w1 = .ok (.slice ea en ec) w2) (S2 : S w2) (E3 : (Instr.buildSlice 85 1 #[(0, .agg (p.c ++ [Value.slice ea en ec]).toArray)]).run Tryd.prog w2 = .ok bv w3) (S3 : S w3) (E4 : (Builtin.append_ #[85, 85] 85 #[ov, bv]).run Tryd.prog w3 = .ok ov2 w4) (S4 : S w4)
    (h : ∀ (a' : Act) (w' : World), w' = w4 → a' = (((((((((((((((((a).put (some 11) (ov)).put (some 12) (.slice (some ⟨g, o, none⟩) n c)).put (some 13) (.int .i64 (i : Int))).put (some 14) (.pointer (some ⟨g, o + 68 * i, none⟩))).put (some 15) (.pointer (some ⟨g, o + 68 * i + 0, none⟩))).put (some 16) (p.v)).put (some 18) (.slice (some ⟨g, o, none⟩) n c)).put (some 19) (.int .i64 (i : Int))).put (some 20) (.pointer (some ⟨g, o + 68 * i, none⟩))).put (some 21) (.pointer (some ⟨g, o + 68 * i + 67, none⟩))).put (some 22) (lv)).put (some 17) (e0)).put (some 23) (.slice ea en ec)).put (some 24) (.agg (p.c ++ [Value.slice ea en ec]).toArray)).put (some 25) (bv)).put (some 26) (ov2)).put (some 3) (ov2) → Q .normal a' w') :
    (Code.region 5 cpy5_ops true).wp Tryd.prog Q a w := by
  refine y0 (fun w' => S w') (h0) (fun hHeld => ?_)
  refine yv 0 rfl rfl (fun w1 hw => exec_move rfl (zi t3 rfl)) hHeld ?_
  refine yv 1 rfl rfl (fun w1 hw => exec_move rfl (zi t0 rfl)) hHeld ?_
  refine yv 2 rfl rfl (fun w1 hw => exec_move rfl (zi t4 rfl)) hHeld ?_
  refine yv 3 rfl rfl (fun w1 hw => exec_indexAt rfl (zg zz rfl) (zg zz rfl) (ix_sl hi hm _)) hHeld ?_
  refine yv 4 rfl rfl (fun w1 hw => exec_fieldAt rfl (zg zz rfl) (fg_122_0 _ _ _)) hHeld ?_
  refine yv 5 rfl rfl (fun w1 hw => exec_load rfl (zg zz rfl) (L1 _ hw)) hHeld ?_
  refine yv 7 rfl rfl (fun w1 hw => exec_move rfl (zi t0 rfl)) hHeld ?_
  refine yv 8 rfl rfl (fun w1 hw => exec_move rfl (zi t4 rfl)) hHeld ?_
  refine yv 9 rfl rfl (fun w1 hw => exec_indexAt rfl (zg zz rfl) (zg zz rfl) (ix_sl hi hm _)) hHeld ?_
  refine yv 10 rfl rfl (fun w1 hw => exec_fieldAt rfl (zg zz rfl) (fg_122_1 _ _ _)) hHeld ?_
  refine yv 11 rfl rfl (fun w1 hw => exec_load rfl (zg zz rfl) (L2 _ hw)) hHeld ?_
  refine yr (v := e0) 6 rfl rfl (exec_bs0 rfl E1) (S1) (fun hHeld => ?_)
  refine yr (v := .slice ea en ec) 12 rfl rfl (exec_append rfl (zg zz rfl) (zg zz rfl) E2) (S2) (fun hHeld => ?_)
  refine yv (v := .agg (p.c ++ [Value.slice ea en ec]).toArray) 13 rfl rfl (fun w1 hw => exec_bsl hp rfl (zg zz rfl) (zg zz rfl)) hHeld ?_
  refine yr (v := bv) 14 rfl rfl (exec_buildSlice rfl (zg zz rfl) E3) (S3) (fun hHeld => ?_)
  refine yr (v := ov2) 15 rfl rfl (exec_append rfl (zg zz rfl) (zg zz rfl) E4) (S4) (fun hHeld => ?_)
  refine yv 16 rfl rfl (fun w1 hw => exec_assign rfl (zg zz rfl)) hHeld ?_
  exact ye rfl (h _ _ (rfl) rfl)
theorem ex_neb {w : World} {a : Act} {o : Oper} {x y : Operand} {r : Bool} (ho : o.op = .binOp .neq 4 x y 4) (hx : a.eval x = .bool r) (hy : a.eval y = .bool r) : (execOp a.eval o).run Tryd.prog w = .ok (.value (.bool false)) w := by
  refine exec_binOp ho hx hy ?_ ?_
  · unfold eqGuard; simp
  · cases r <;> kernel_rfl
end Go.Proofs.YtldlljobofnmmaaDoor
