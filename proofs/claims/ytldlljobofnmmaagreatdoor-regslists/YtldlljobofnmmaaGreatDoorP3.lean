import Derived.Test.YtldlljobofnmmaaGreatDoorP0
import Derived.Test.YtldlljobofnmmaaGreatDoorP2
import Derived.Laws.ResultCell
import Derived.Laws.Rows
set_option maxRecDepth 100000
set_option maxHeartbeats 4000000
namespace Go.Proofs.YtldlljobofnmmaaGreatDoor
open Go.RowKit
set_option linter.unusedVariables false
set_option linter.unusedSimpArgs false
theorem build_zen (w : World) : (Instr.build 85 #[]).run Tryz.prog w = .ok zEn.a w := by kernel_rfl
theorem ex_rgsome {w : World} {a : Act} {o : Oper} {x y : Operand} {b : Nat} (ho : o.op = .binOp .eql 26 x y 26) (hx : a.eval x = .pointer (some ⟨b, 0, none⟩)) (hy : a.eval y = .pointer none) : (execOp a.eval o).run Tryz.prog w = .ok (.value (.bool false)) w := by
  refine exec_binOp ho hx hy ?_ ?_
  · unfold eqGuard; simp
  · kernel_rfl
theorem ex_eqz {w : World} {a : Act} {o : Oper} {x y : Operand} {n : Nat} (ho : o.op = .binOp .eql 3 x y 3) (hx : a.eval x = .int .i64 (n : Int)) (hy : a.eval y = .int .i64 0) : (execOp a.eval o).run Tryz.prog w = .ok (.value (.bool (n == 0))) w := by
  refine exec_binOp ho hx hy ?_ ?_
  · kernel_rfl
  · have : ((n : Int) == 0) = (n == 0) := by rw [Bool.eq_iff_iff]; simp
    rw [← this]
    go_simp
def top1s_o0 : Oper := ⟨some 7, .move (.tmp 0), 26, "regs.go:146", #[], none⟩
def top1s_o1 : Oper := ⟨some 8, .binOp BinOp.eql 26 (.tmp 7) (Operand.const (Value.pointer none)) 26, 4, "regs.go:146", #[⟨0, .data⟩], none⟩
def top1s_o2 : Oper := ⟨some 9, .move (.tmp 8), 4, "regs.go:146", #[⟨1, .data⟩], none⟩
def top1s_o3 : Oper := ⟨some 10, .move (.tmp 0), 26, "regs.go:146", #[⟨2, .guard⟩], some (2, false)⟩
def top1s_o4 : Oper := ⟨some 11, .nilCheck (.tmp 10), 0, "regs.go:146", #[⟨3, .data⟩, ⟨2, .guard⟩], some (2, false)⟩
def top1s_o5 : Oper := ⟨some 12, .fieldAddr 91 (.tmp 11) 0, 0, "regs.go:146", #[⟨4, .data⟩, ⟨2, .guard⟩], some (2, false)⟩
def top1s_o6 : Oper := ⟨some 13, .load 88 (.tmp 12), 88, "regs.go:146", #[⟨5, .data⟩, ⟨2, .guard⟩], some (2, false)⟩
def top1s_o7 : Oper := ⟨some 14, .load 68 (.tmp 3), 68, "regs.go:146", #[⟨2, .guard⟩], some (2, false)⟩
def top1s_o8 : Oper := ⟨some 15, .lookup 88 (.tmp 13) (.tmp 14) false, 71, "regs.go:146", #[⟨6, .data⟩, ⟨7, .data⟩, ⟨2, .guard⟩], some (2, false)⟩
def top1s_o9 : Oper := ⟨some 16, .call { callee := Callee.builtin Builtin.len, args := #[.tmp 15], argTypes := #[71] }, 3, "regs.go:146", #[⟨8, .data⟩, ⟨2, .guard⟩], some (2, false)⟩
def top1s_o10 : Oper := ⟨some 17, .binOp BinOp.eql 3 (.tmp 16) (Operand.const (Value.int IntKind.i64 0)) 3, 4, "regs.go:146", #[⟨9, .data⟩, ⟨2, .guard⟩], some (2, false)⟩
def top1s_o11 : Oper := ⟨some 18, .pick (.tmp 9) (Operand.const (Value.bool true)) (.tmp 17), 4, "regs.go:146", #[⟨2, .data⟩, ⟨10, .data⟩], none⟩
def top1s_ops : Array Oper := #[top1s_o0, top1s_o1, top1s_o2, top1s_o3, top1s_o4, top1s_o5, top1s_o6, top1s_o7, top1s_o8, top1s_o9, top1s_o10, top1s_o11]
theorem top1s {rb mb pb n lc : Nat} {la : Option Addr} {p : PlK} (S : World → Prop) (a : Act) (w : World) (Q : Exit → Act → World → Prop) (zz : a.tmps.size = 32)
    (t0 : a.tmps.getD 0 undef = .pointer (some ⟨rb, 0, none⟩))
    (t3 : a.tmps.getD 3 undef = .pointer (some ⟨pb, 0, none⟩))
    (h0 : S w.drew) (LR : ∀ W, S W → (Instr.loadAt 88 (.pointer (some ⟨rb, 0 + 0, none⟩))).run Tryz.prog W = .ok (.map (some mb)) W) (LP : ∀ W, S W → (Instr.loadAt 68 (.pointer (some ⟨pb, 0, none⟩))).run Tryz.prog W = .ok (p.v) W) (LK : ∀ W, S W → (Instr.lookup 88 (.map (some mb)) p.v false).run Tryz.prog W = .ok (.slice la n lc) W)
    (h : ∀ (a' : Act) (w' : World), S w' → a' = ((((((((((((a).put (some 7) (.pointer (some ⟨rb, 0, none⟩))).put (some 8) (.bool false)).put (some 9) (.bool false)).put (some 10) (.pointer (some ⟨rb, 0, none⟩))).put (some 11) (.pointer (some ⟨rb, 0, none⟩))).put (some 12) (.pointer (some ⟨rb, 0 + 0, none⟩))).put (some 13) (.map (some mb))).put (some 14) (p.v)).put (some 15) (.slice la n lc)).put (some 16) (.int .i64 (n : Int))).put (some 17) (.bool (n == 0))).put (some 18) (.bool (n == 0)) → Q .normal a' w') :
    (Code.region 1 top1s_ops true).wp Tryz.prog Q a w := by
  refine y0 (fun w' => S w') (h0) (fun hHeld => ?_)
  refine yv 0 rfl rfl (fun w1 hw => exec_move rfl (zi t0 rfl)) hHeld ?_
  refine yv (v := .bool false) 1 rfl rfl (fun w1 hw => ex_rgsome rfl (zg zz rfl) rfl) hHeld ?_
  refine yv 2 rfl rfl (fun w1 hw => exec_move rfl (zg zz rfl)) hHeld ?_
  refine yv 3 rfl (zw zz rfl rfl rfl (zg zz rfl)) (fun w1 hw => exec_move rfl (zi t0 rfl)) hHeld ?_
  refine yv 4 rfl (zw zz rfl rfl rfl (zg zz rfl)) (fun w1 hw => exec_nilCheck rfl (zg zz rfl)) hHeld ?_
  refine yv 5 rfl (zw zz rfl rfl rfl (zg zz rfl)) (fun w1 hw => exec_fieldAt rfl (zg zz rfl) (fg_91_0 _ _ _)) hHeld ?_
  refine yv 6 rfl (zw zz rfl rfl rfl (zg zz rfl)) (fun w1 hw => exec_load rfl (zg zz rfl) (LR _ hw)) hHeld ?_
  refine yv 7 rfl (zw zz rfl rfl rfl (zg zz rfl)) (fun w1 hw => exec_load rfl (zi t3 rfl) (LP _ hw)) hHeld ?_
  refine yv (v := .slice la n lc) 8 rfl (zw zz rfl rfl rfl (zg zz rfl)) (fun w1 hw => exec_lookup rfl (zg zz rfl) (zg zz rfl) (LK _ hw)) hHeld ?_
  refine yv 9 rfl (zw zz rfl rfl rfl (zg zz rfl)) (fun w1 hw => exec_len rfl (zg zz rfl) (len_en _ _ _ _ _)) hHeld ?_
  refine yv (v := .bool (n == 0)) 10 rfl (zw zz rfl rfl rfl (zg zz rfl)) (fun w1 hw => ex_eqz rfl (zg zz rfl) rfl) hHeld ?_
  refine yv 11 rfl rfl (fun w1 hw => exec_pickF rfl (zg zz rfl) (zg zz rfl)) hHeld ?_
  exact ye rfl (h _ _ (hHeld) rfl)
def top2_o0 : Oper := ⟨some 19, .build 85 #[], 85, "regs.go:147", #[], none⟩
def top2_o1 : Oper := ⟨none, .store 85 (.tmp 4) (.tmp 19), 0, "regs.go:147", #[⟨0, .data⟩, ⟨0, .phase⟩], none⟩
def top2_o2 : Oper := ⟨some 5, .assign (Operand.const (Value.bool false)), 4, "regs.go:147", #[⟨1, .chain⟩, ⟨0, .phase⟩, ⟨1, .phase⟩], none⟩
def top2_ops : Array Oper := #[top2_o0, top2_o1, top2_o2]
theorem top2 {eb : Nat} {w1 : World} (a : Act) (w : World) (Q : Exit → Act → World → Prop) (zz : a.tmps.size = 32)
    (t4 : a.tmps.getD 4 undef = .pointer (some ⟨eb, 0, none⟩))
    (ES : (Instr.storeAt 85 (.pointer (some ⟨eb, 0, none⟩)) zEn.a).run Tryz.prog w = .ok () w1)
    (h : ∀ (a' : Act) (w' : World), w' = w1 → a' = ((a).put (some 19) (zEn.a)).put (some 5) (.bool false) → Q .normal a' w') :
    (Code.region 2 top2_ops false).wp Tryz.prog Q a w := by
  refine z0 rfl ?_
  refine zv rfl (exec_build0 rfl (build_zen _)) ?_
  refine zs rfl (exec_store rfl (zi t4 rfl) (zg zz rfl) ES) ?_
  refine zv rfl (exec_assign rfl rfl) ?_
  exact ze rfl (h _ _ (rfl) rfl)
def top3_o0 : Oper := ⟨some 20, .move (.tmp 0), 26, "regs.go:149", #[], none⟩
def top3_o1 : Oper := ⟨some 21, .nilCheck (.tmp 20), 0, "regs.go:149", #[⟨0, .data⟩], none⟩
def top3_o2 : Oper := ⟨some 22, .fieldAddr 91 (.tmp 21) 0, 0, "regs.go:149", #[⟨1, .data⟩], none⟩
def top3_o3 : Oper := ⟨some 23, .load 88 (.tmp 22), 88, "regs.go:149", #[⟨2, .data⟩], none⟩
def top3_o4 : Oper := ⟨some 24, .load 68 (.tmp 3), 68, "regs.go:149", #[], none⟩
def top3_o5 : Oper := ⟨some 25, .lookup 88 (.tmp 23) (.tmp 24) false, 71, "regs.go:149", #[⟨3, .data⟩, ⟨4, .data⟩], none⟩
def top3_o6 : Oper := ⟨some 6, .assign (.tmp 25), 71, "regs.go:149", #[⟨5, .data⟩, ⟨0, .phase⟩, ⟨1, .phase⟩, ⟨2, .phase⟩, ⟨3, .phase⟩, ⟨4, .phase⟩, ⟨5, .phase⟩], none⟩
def top3_ops : Array Oper := #[top3_o0, top3_o1, top3_o2, top3_o3, top3_o4, top3_o5, top3_o6]
theorem top3 {rb mb pb n lc : Nat} {la : Option Addr} {p : PlK} (S : World → Prop) (a : Act) (w : World) (Q : Exit → Act → World → Prop) (zz : a.tmps.size = 32)
    (t0 : a.tmps.getD 0 undef = .pointer (some ⟨rb, 0, none⟩))
    (t3 : a.tmps.getD 3 undef = .pointer (some ⟨pb, 0, none⟩))
    (h0 : S w.drew) (LR : ∀ W, S W → (Instr.loadAt 88 (.pointer (some ⟨rb, 0 + 0, none⟩))).run Tryz.prog W = .ok (.map (some mb)) W) (LP : ∀ W, S W → (Instr.loadAt 68 (.pointer (some ⟨pb, 0, none⟩))).run Tryz.prog W = .ok (p.v) W) (LK : ∀ W, S W → (Instr.lookup 88 (.map (some mb)) p.v false).run Tryz.prog W = .ok (.slice la n lc) W)
    (h : ∀ (a' : Act) (w' : World), S w' → a' = (((((((a).put (some 20) (.pointer (some ⟨rb, 0, none⟩))).put (some 21) (.pointer (some ⟨rb, 0, none⟩))).put (some 22) (.pointer (some ⟨rb, 0 + 0, none⟩))).put (some 23) (.map (some mb))).put (some 24) (p.v)).put (some 25) (.slice la n lc)).put (some 6) (.slice la n lc) → Q .normal a' w') :
    (Code.region 3 top3_ops true).wp Tryz.prog Q a w := by
  refine y0 (fun w' => S w') (h0) (fun hHeld => ?_)
  refine yv 0 rfl rfl (fun w1 hw => exec_move rfl (zi t0 rfl)) hHeld ?_
  refine yv 1 rfl rfl (fun w1 hw => exec_nilCheck rfl (zg zz rfl)) hHeld ?_
  refine yv 2 rfl rfl (fun w1 hw => exec_fieldAt rfl (zg zz rfl) (fg_91_0 _ _ _)) hHeld ?_
  refine yv 3 rfl rfl (fun w1 hw => exec_load rfl (zg zz rfl) (LR _ hw)) hHeld ?_
  refine yv 4 rfl rfl (fun w1 hw => exec_load rfl (zi t3 rfl) (LP _ hw)) hHeld ?_
  refine yv (v := .slice la n lc) 5 rfl rfl (fun w1 hw => exec_lookup rfl (zg zz rfl) (zg zz rfl) (LK _ hw)) hHeld ?_
  refine yv 6 rfl rfl (fun w1 hw => exec_assign rfl (zg zz rfl)) hHeld ?_
  exact ye rfl (h _ _ (hHeld) rfl)
def top4_o0 : Oper := ⟨some 26, .move (.tmp 6), 71, "regs.go:150", #[], none⟩
def top4_o1 : Oper := ⟨some 27, .move (.tmp 6), 71, "regs.go:150", #[], none⟩
def top4_o2 : Oper := ⟨some 28, .call { callee := Callee.builtin Builtin.len, args := #[.tmp 27], argTypes := #[71] }, 3, "regs.go:150", #[⟨1, .data⟩], none⟩
def top4_o3 : Oper := ⟨some 29, .binOp BinOp.sub 3 (.tmp 28) (Operand.const (Value.int IntKind.i64 1)) 3, 3, "regs.go:150", #[⟨2, .data⟩], none⟩
def top4_o4 : Oper := ⟨some 30, .indexAddr 71 (.tmp 26) (.tmp 29), 0, "regs.go:150", #[⟨0, .data⟩, ⟨3, .data⟩], none⟩
def top4_o5 : Oper := ⟨some 31, .load 85 (.tmp 30), 85, "regs.go:150", #[⟨4, .data⟩], none⟩
def top4_o6 : Oper := ⟨none, .store 85 (.tmp 4) (.tmp 31), 0, "regs.go:150", #[⟨5, .data⟩, ⟨0, .phase⟩, ⟨1, .phase⟩, ⟨2, .phase⟩, ⟨3, .phase⟩, ⟨4, .phase⟩, ⟨5, .phase⟩], none⟩
def top4_o7 : Oper := ⟨some 5, .assign (Operand.const (Value.bool true)), 4, "regs.go:150", #[⟨6, .chain⟩, ⟨0, .phase⟩, ⟨1, .phase⟩, ⟨2, .phase⟩, ⟨3, .phase⟩, ⟨4, .phase⟩, ⟨5, .phase⟩, ⟨6, .phase⟩], none⟩
def top4_ops : Array Oper := #[top4_o0, top4_o1, top4_o2, top4_o3, top4_o4, top4_o5, top4_o6, top4_o7]
theorem top4 {eb g o n lc d : Nat} {x : EnV} {w1 : World} (a : Act) (w : World) (Q : Exit → Act → World → Prop) (zz : a.tmps.size = 32)
    (t4 : a.tmps.getD 4 undef = .pointer (some ⟨eb, 0, none⟩))
    (t6 : a.tmps.getD 6 undef = .slice (some ⟨g, o, none⟩) n lc)
    (hd : d + 1 = n) (hs : n ≤ 9223372036854775800) (hi : d < n) (hm : n ≤ 9223372036854775807) (LX : ∀ W, W = w → (Instr.loadAt 85 (.pointer (some ⟨g, o + 37 * d, none⟩))).run Tryz.prog W = .ok x.a W) (ES : (Instr.storeAt 85 (.pointer (some ⟨eb, 0, none⟩)) x.a).run Tryz.prog w = .ok () w1)
    (h : ∀ (a' : Act) (w' : World), w' = w1 → a' = (((((((a).put (some 26) (.slice (some ⟨g, o, none⟩) n lc)).put (some 27) (.slice (some ⟨g, o, none⟩) n lc)).put (some 28) (.int .i64 (n : Int))).put (some 29) (.int .i64 (d : Int))).put (some 30) (.pointer (some ⟨g, o + 37 * d, none⟩))).put (some 31) (x.a)).put (some 5) (.bool true) → Q .normal a' w') :
    (Code.region 4 top4_ops false).wp Tryz.prog Q a w := by
  refine z0 rfl ?_
  refine zv rfl (exec_move rfl (zi t6 rfl)) ?_
  refine zv rfl (exec_move rfl (zi t6 rfl)) ?_
  refine zv rfl (exec_len rfl (zg zz rfl) (len_en _ _ _ _ _)) ?_
  refine zv (v := .int .i64 (d : Int)) rfl (exec_sub1 rfl (zg zz rfl) rfl hd hs) ?_
  refine zv rfl (exec_indexAt rfl (zg zz rfl) (zg zz rfl) (ix_en hi hm _)) ?_
  refine zv rfl (exec_load rfl (zg zz rfl) (LX _ rfl)) ?_
  refine zs rfl (exec_store rfl (zi t4 rfl) (zg zz rfl) ES) ?_
  refine zv rfl (exec_assign rfl rfl) ?_
  exact ze rfl (h _ _ (rfl) rfl)
theorem results_c2 {P : Program} {fn : Func} {a b : Nat} {t : TypeId} (h : fn.results = #[.cell a t, .tmp b]) {tmps : Array Value} {w : World} {p : Addr} {v : Value} (ha : tmps.getD a undef = .pointer (some p)) (hl : (loadVar t p).run P w = .ok v w) :
    (results fn tmps).run P w = .ok (.tuple #[v, tmps.getD b undef]) w := by
  rw [Array.getD_eq_getD_getElem?] at ha
  simp [results, h, asAddr, ha, hl, Array.mapM_eq_mapM_toList, Result.andThen]
theorem szEn : (Tryz.prog.info? 85).map (·.size) = some 37 := by kernel_rfl
theorem loadVar_en {w : World} {b : Nat} {x : EnV} (hx : x.ok) (h : RN.Bx w b x) : (loadVar 85 ⟨b, 0, none⟩).run Tryz.prog w = .ok x.a w :=
  run_loadVar_mid (P := Tryz.prog) w b 0 85 x.c _ h.rng Tryz.underlying85 rfl (by rw [EnV.len hx]; exact szEn)
theorem en_box (w : World) : ∃ w2, (Instr.alloc 85 true (.tuple #[])).run Tryz.prog w = .ok (.pointer (some ⟨w.heap.size, 0, none⟩)) w2 ∧ RN.Bx w2 w.heap.size zEn ∧ Below w.heap.size w w2 := ⟨_, RowT.bx_zero RN_is w, heap_alloc_new _ _, (Below.refl _ _).alloc (Nat.le_refl _) _⟩
theorem en_put {w : World} {b : Nat} {x u : EnV} (hx : x.ok) (hu : u.ok) (h : RN.Bx w b x) : ∃ w', (Instr.storeAt 85 (.pointer (some ⟨b, 0, none⟩)) u.a).run Tryz.prog w = .ok () w' ∧ RN.Bx w' b u ∧ Tch (fun j => j = b) w w' := by
  have t := setRow_tch w b u.c.toArray
  refine ⟨_, RowT.bx_store RN_is hx hu h, setRow_heap w b _ _ _ _ h, t.mono (fun j _ e => ?_)⟩
  simp at e
  exact e.symm
theorem top_any {w : World} {base : Nat} {s : Rs} (m : RgM w base s) {p : PlK} (hp : p.ok) (hn : (liOf s.P p).length ≤ 2500000000000) :
    Calls Tryz.prog 55 #[.pointer (some ⟨s.r, 0, none⟩), p.v] w fun e w' => e = .returned (.tuple #[((liOf s.P p).getLast?.getD zEn).a, .bool (!(liOf s.P p).isEmpty)]) ∧ Below w.heap.size w w' := by
  obtain ⟨w1, E1, n1, b1⟩ := box_pl w p
  obtain ⟨w2, E2, n2, b2⟩ := en_box w1
  have b12 := b1.trans (b2.mono b1.size)
  have m2 := m.below b12
  have n12 := (b2.block _ (Array.getElem?_eq_some_iff.1 n1).1).trans n1
  have hl := m2.list p
  obtain ⟨a, c, ev, hat, hc, hcm, _⟩ := hl.1.open RN_is hl.2
  have LD : Hid (∀ W, Below w2.heap.size w2 W → (Instr.loadAt 88 (.pointer (some ⟨s.r, 0 + 0, none⟩))).run Tryz.prog W = .ok (.map (some s.bp)) W ∧ (Instr.loadAt 68 (.pointer (some ⟨w.heap.size, 0, none⟩))).run Tryz.prog W = .ok p.v W ∧ (Instr.lookup 88 (.map (some s.bp)) p.v false).run Tryz.prog W = .ok (.slice a (liOf s.P p).length c) W) := by
    refine fun W b => ⟨?_, ?_, ?_⟩
    · have := (m2.below b).c0
      go_simp
    · exact ld_pl hp (rng_cells ((b.block _ (Array.getElem?_eq_some_iff.1 n12).1).trans n12))
    · rw [← ev]; exact (m2.below b).lookP p hp
  have H1 := hidMk E1
  have H2 := hidMk E2
  have bd : Below w2.heap.size w2 w2.drew := (Below.refl _ _).drew
  have bdd : Below w2.heap.size w2 w2.drew.drew := bd.drew
  have bw : w1.heap.size ≤ w2.heap.size := b2.size
  obtain ⟨L, hL⟩ : ∃ L, liOf s.P p = L := ⟨_, rfl⟩
  rw [hL] at hn hl hat LD ⊢
  go_enter Tryz.func55, Tryz.ntmps55
  cases hLe : L with
  | nil =>
    subst hLe
    obtain ⟨w3, E3, n3, t3⟩ := en_put (w := w2.drew) zEn_ok zEn_ok n2
    have b2d : Below w1.heap.size w1 w2.drew := b2.drew
    have b3 : Below w1.heap.size w1 w3 := b2d.trans (t3.below b2d.size (fun j e => by rw [e]; exact Nat.le_refl _))
    have HF := hidMk (And.intro n3 (b1.trans (b3.mono b1.size)))
    have H3 := hidMk E3
    have HB := hidMk bd
    clear E1 E2 E3 b1 b2 b3 n3 b2d t3 n1 n2 n12 m m2 hl hat hc hcm ev hL bd bdd b12
    go_upto_region 1 with (first
      | (refine wpList_run rfl (exec_boxE (t := 68) (v := p.v) (u := .pointer (some ⟨w.heap.size, 0, none⟩)) (w2 := w1) rfl rfl H1.out) ?_)
      | (refine wpList_run rfl (exec_alloc (w2 := w2) rfl H2.out) ?_)
      | fail)
    refine top1s (rb := s.r) (mb := s.bp) (pb := w.heap.size) (n := 0) (lc := c) (la := a) (p := p) (fun W => W = w2.drew) _ w2 _ rfl rfl rfl rfl (fun W e => by rw [e]; exact (LD.out _ HB.out).1) (fun W e => by rw [e]; exact (LD.out _ HB.out).2.1) (fun W e => by rw [e]; exact (LD.out _ HB.out).2.2) ?_
    intro a' w' hw' ha
    subst ha
    subst hw'
    simp only [Act.put, List.setIfInBounds_toArray, List.set_cons_zero, List.set_cons_succ]
    go_upto_region 2 with fail
    refine top2 (eb := w1.heap.size) (w1 := w3) _ w2.drew _ rfl rfl H3.out ?_
    intro a' w' hw' ha
    subst ha
    subst hw'
    simp only [Act.put, List.setIfInBounds_toArray, List.set_cons_zero, List.set_cons_succ]
    clear H1 H2 H3 LD HB
    go_wp2
    refine bodyPost_ret (results_c2 rfl rfl (loadVar_en zEn_ok HF.out.1)) rfl ?_
    exact ⟨rfl, HF.out.2⟩
  | cons y Y =>
    obtain ⟨d, hd⟩ : ∃ d, L.length = d + 1 := ⟨Y.length, by rw [hLe]; rfl⟩
    obtain ⟨x, hx⟩ : ∃ x, L[d]? = some x := ⟨_, List.getElem?_eq_getElem (by omega)⟩
    have hlast : L.getLast?.getD zEn = x := by rw [List.getLast?_eq_getElem?, hd, Nat.add_sub_cancel, hx]; rfl
    have hxo : x.ok := hl.2 x (List.mem_of_getElem? hx)
    obtain ⟨g, o, rfl, hg, hr⟩ : ∃ g o, a = some ⟨g, o, none⟩ ∧ g < w2.heap.size ∧ w2.rangeAt g (o + 37 * d) x.c := by
      rcases hat with h | ⟨g, o, e, h1, h2⟩
      · rw [hLe] at h; cases h
      · exact ⟨g, o, e, h1, h2 d x hx⟩
    obtain ⟨w3, E3, n3, t3⟩ := en_put (w := w2.drew.drew) zEn_ok hxo n2
    have b2d : Below w1.heap.size w1 w2.drew.drew := b2.drew.drew
    have b3 : Below w1.heap.size w1 w3 := b2d.trans (t3.below b2d.size (fun j e => by rw [e]; exact Nat.le_refl _))
    have HF := hidMk (And.intro n3 (And.intro (b1.trans (b3.mono b1.size)) (And.intro hxo hlast)))
    have H3 := hidMk E3
    have HB := hidMk (And.intro bd bdd)
    have LX : Hid ((Instr.loadAt 85 (.pointer (some ⟨g, o + 37 * d, none⟩))).run Tryz.prog w2.drew.drew = .ok x.a w2.drew.drew) := ld_en hxo (w := w2.drew.drew) hr
    rw [← hLe]
    rw [hd] at LD hn
    have hne : ((d + 1 : Nat) == 0) = false := rfl
    have he : L.isEmpty = false := by rw [hLe]; rfl
    have HE := hidMk he
    clear E1 E2 E3 b1 b2 b3 n3 b2d t3 n1 n2 n12 m m2 hl hat hc hcm ev hL bd bdd b12 hlast hxo hr hx hLe he
    go_upto_region 1 with (first
      | (refine wpList_run rfl (exec_boxE (t := 68) (v := p.v) (u := .pointer (some ⟨w.heap.size, 0, none⟩)) (w2 := w1) rfl rfl H1.out) ?_)
      | (refine wpList_run rfl (exec_alloc (w2 := w2) rfl H2.out) ?_)
      | fail)
    refine top1s (rb := s.r) (mb := s.bp) (pb := w.heap.size) (n := d + 1) (lc := c) (la := some ⟨g, o, none⟩) (p := p) (fun W => W = w2.drew) _ w2 _ rfl rfl rfl rfl (fun W e => by rw [e]; exact (LD.out _ HB.out.1).1) (fun W e => by rw [e]; exact (LD.out _ HB.out.1).2.1) (fun W e => by rw [e]; exact (LD.out _ HB.out.1).2.2) ?_
    intro a' w' hw' ha
    subst ha
    subst hw'
    simp only [Act.put, List.setIfInBounds_toArray, List.set_cons_zero, List.set_cons_succ]
    rw [hne]
    go_upto_region 3 with fail
    refine top3 (rb := s.r) (mb := s.bp) (pb := w.heap.size) (n := d + 1) (lc := c) (la := some ⟨g, o, none⟩) (p := p) (fun W => W = w2.drew.drew) _ w2.drew _ rfl rfl rfl rfl (fun W e => by rw [e]; exact (LD.out _ HB.out.2).1) (fun W e => by rw [e]; exact (LD.out _ HB.out.2).2.1) (fun W e => by rw [e]; exact (LD.out _ HB.out.2).2.2) ?_
    intro a' w' hw' ha
    subst ha
    subst hw'
    simp only [Act.put, List.setIfInBounds_toArray, List.set_cons_zero, List.set_cons_succ]
    go_upto_region 4 with fail
    refine top4 (eb := w1.heap.size) (g := g) (o := o) (n := d + 1) (lc := c) (d := d) (x := x) (w1 := w3) _ w2.drew.drew _ rfl rfl rfl rfl (by omega) (by omega) (by omega) (fun W e => by rw [e]; exact LX.out) H3.out ?_
    intro a' w' hw' ha
    subst ha
    subst hw'
    simp only [Act.put, List.setIfInBounds_toArray, List.set_cons_zero, List.set_cons_succ]
    clear H1 H2 H3 LD HB LX
    go_wp2
    refine bodyPost_ret (results_c2 rfl rfl (loadVar_en HF.out.2.2.1 HF.out.1)) rfl ?_
    refine ⟨?_, HF.out.2.1⟩
    rw [HF.out.2.2.2, HE.out]
    rfl
end Go.Proofs.YtldlljobofnmmaaGreatDoor
namespace Go.Proofs.YtldlljobofnmmaaGreatDoor
open Go.ChangeShapes Go.WideShapes Go.ChangeAt Go.RowKit
set_option linter.unusedVariables false
set_option linter.unusedSimpArgs false
def RowAt {κ : Type} (k : Nat) (encd : κ → List Value) (w : World) (a : Option Addr) (L : List κ) : Prop := L = [] ∨ ∃ b off, a = some ⟨b, off, none⟩ ∧ b < w.heap.size ∧ ∀ i x, L[i]? = some x → w.rangeAt b (off + i * k) (encd x)
theorem RowAt.below {κ : Type} {k : Nat} {encd : κ → List Value} {w w' : World} {a : Option Addr} {L : List κ} (h : RowAt k encd w a L) (hb : Below w.heap.size w w') : RowAt k encd w' a L := by
  rcases h with h | ⟨b, off, e, hl, hr⟩
  · exact .inl h
  · exact .inr ⟨b, off, e, Nat.lt_of_lt_of_le hl hb.size, fun i x hx => rangeAt_keep (hr i x hx) (hb.block b hl)⟩
theorem RowAt.keep {κ : Type} {k : Nat} {encd : κ → List Value} {w w' : World} {a : Option Addr} {L : List κ} {N : Nat} (h : RowAt k encd w a L) (hN : N = w.heap.size) (hb : Below N w w') : RowAt k encd w' a L := by
  subst hN
  exact h.below hb
section
variable {H : Type} {enc : TypeId × Value → H} {W : World}
theorem view_rows {κ : Type} {T e k : Nat} {encd : κ → List Value} {ok : κ → Prop} (hT : Tryz.prog.underlying T = some (.slice e)) (hce : Tryz.prog.cellsOf e = k) (hk : 0 < k) (hlen : ∀ x, ok x → (encd x).length = k)
    (hcells : ∀ (fuel : Nat) (cs : List Value) (y : DataW H × List MemPlace), DataW.trod enc Tryz.prog W 0 (fun _ => true) true fuel e cs = some y → ∃ x, ok x ∧ cs = encd x)
    {a : Option Addr} {len cap : Nat} {d : DataW H} {p : List MemPlace} (h : DataW.Trod enc Tryz.prog W 0 (fun _ => true) true T (.slice a len cap) d p) :
    ∃ L : List κ, L.length = len ∧ (∀ x ∈ L, ok x) ∧ RowAt k encd W a L ∧ (d = .nil ∧ len = 0 ∨ ∃ el sp, d = .slice el sp ∧ el.length = len) := by
  obtain ⟨fuel, hf⟩ := h
  rcases DataW.trod_slice hT hf with ⟨hcs', hx⟩ | ⟨ad, l, c, elems, rest, n, _, hcs', hx, _, hl, hm, hel, hcell, _, _⟩
  · simp [Value.cells] at hcs'
    obtain ⟨rfl, rfl, rfl⟩ := hcs'
    simp only [Prod.mk.injEq] at hx
    exact ⟨[], rfl, fun v hv => (by cases hv), .inl rfl, .inl ⟨hx.1, rfl⟩⟩
  · simp [Value.cells] at hcs'
    obtain ⟨rfl, rfl, rfl⟩ := hcs'
    simp only [Prod.mk.injEq] at hx
    obtain ⟨b, off, spot⟩ := ad
    have raw : ∀ i, i < len → ∃ v : κ, ok v ∧ ∀ j u, (encd v)[j]? = some u → W.cell? (((⟨b, off, spot⟩ : Addr).add (i * k)).add j) = some u := fun i hi => by
      have hi2 := hcell i hi
      rw [List.getElem?_eq_getElem (by omega), hce, Option.bind_eq_some_iff] at hi2
      obtain ⟨cs, hc1, hc2⟩ := hi2
      obtain ⟨v, hv, rfl⟩ := hcells _ _ _ hc2
      obtain ⟨_, _, hc3⟩ := World.cells?_some hc1
      refine ⟨v, hv, fun j u hu => ?_⟩
      have hj := (List.getElem?_eq_some_iff.1 hu).1
      rw [hlen v hv] at hj
      rw [hc3 j hj]
      exact hu
    have hspot : 0 < len → spot = none ∧ b < W.heap.size := fun h0 => by
      obtain ⟨v, hv, hc⟩ := raw 0 h0
      have q := hc 0 _ (List.getElem?_eq_getElem (by rw [hlen v hv]; omega))
      have q1 := World.cell?_spot q
      have q2 : spot = none := by simpa [Addr.add] using q1
      subst q2
      refine ⟨rfl, ?_⟩
      rw [Addr.add_mid, Addr.add_mid] at q
      exact block_lt_of_cell q
    by_cases h0 : 0 < len
    · obtain ⟨hs, hb⟩ := hspot h0
      subst hs
      obtain ⟨v0, _⟩ := raw 0 h0
      let F : Nat → κ := fun i => if h : i < len then Classical.choose (raw i h) else v0
      have hF : ∀ i (h : i < len), F i = Classical.choose (raw i h) := fun i h => dif_pos h
      refine ⟨(List.range len).map F, by simp, fun v hv => ?_, ?_, .inr ⟨_, _, hx.1, by simp [hel]⟩⟩
      · rw [List.mem_map] at hv
        obtain ⟨i, hi, rfl⟩ := hv
        rw [List.mem_range] at hi
        rw [hF i hi]
        exact (Classical.choose_spec (raw i hi)).1
      · refine .inr ⟨b, off, rfl, hb, fun i v hv => ?_⟩
        have hi : i < len := by
          have := (List.getElem?_eq_some_iff.1 hv).1
          simpa using this
        rw [List.getElem?_map, List.getElem?_range hi] at hv
        simp only [Option.map_some, Option.some.injEq] at hv
        subst hv
        rw [hF i hi]
        intro j u hu
        have := (Classical.choose_spec (raw i hi)).2 j u hu
        rwa [Addr.add_mid, Addr.add_mid] at this
    · obtain rfl : len = 0 := by omega
      exact ⟨[], rfl, fun v hv => (by cases hv), .inl rfl, .inr ⟨_, _, hx.1, by simp [hel]⟩⟩
theorem i64_wf {z : Int} (h : (Lit.int .i64 z).wf = true) : -9223372036854775808 ≤ z ∧ z ≤ 9223372036854775807 := by
  simp [Lit.wf, IntKind.min, IntKind.max, IntKind.signed, IntKind.bits] at h
  omega
theorem u8_wf {z : Int} (h : (Lit.int .u8 z).wf = true) : 0 ≤ z ∧ z ≤ 255 := by
  simp [Lit.wf, IntKind.min, IntKind.max, IntKind.signed, IntKind.bits] at h
  omega
def intV : Value → Int
  | .int _ z => z
  | _ => 0
theorem cells_int : Tryz.prog.cellsOf 3 = 1 := by kernel_rfl
theorem cells_str : Tryz.prog.cellsOf 9 = 1 := by kernel_rfl
theorem cells_hash : Tryz.prog.cellsOf 57 = 32 := by kernel_rfl
theorem cells_id : Tryz.prog.cellsOf 59 = 33 := by kernel_rfl
theorem hash_cells {fuel : Nat} {cs : List Value} {y : DataW H × List MemPlace} (h : DataW.trod enc Tryz.prog W 0 (fun _ => true) true fuel 57 cs = some y) : ∃ l : List UInt8, l.length = 32 ∧ cs = hcs l := by
  obtain ⟨xs, m, _, _, hlen, hxs, hall⟩ := DataW.trod_array Tryz.underlying57 h
  rw [cells_hash] at hlen
  have hce : Tryz.prog.cellsOf 5 = 1 := by kernel_rfl
  have key : ∀ i (hi : i < cs.length), ∃ z : Int, cs[i] = .int .u8 z ∧ 0 ≤ z ∧ z ≤ 255 := by
    intro i hi
    have h1 := hall i (by omega)
    rw [hce, Nat.mul_one, List.getElem?_eq_getElem (by omega)] at h1
    obtain ⟨z, e0, _, w0⟩ := DataW.trod_int Tryz.underlying5 h1
    have hb := u8_wf w0
    refine ⟨z, ?_, hb.1, hb.2⟩
    rw [List.drop_eq_getElem_cons hi, List.take_succ_cons, List.take_zero] at e0
    exact (List.cons.inj e0).1
  refine ⟨cs.map (fun v => UInt8.ofNat (intV v).toNat), by simpa using hlen, ?_⟩
  apply List.ext_getElem
  · simp [hcs, bs]
  · intro i h1 h2
    obtain ⟨z, hz, z0, z1⟩ := key i h1
    simp only [hcs, bs, List.map_map, List.getElem_map, Function.comp_apply]
    rw [hz]
    simp only [intV, Value.int.injEq, true_and]
    rw [UInt8.toNat_ofNat']
    omega
theorem list_split {α : Type} {l : List α} {n m : Nat} (h : l.length = n + m) : ∃ a b, l = a ++ b ∧ a.length = n ∧ b.length = m := ⟨l.take n, l.drop n, (List.take_append_drop n l).symm, by simp; omega, by simp; omega⟩
theorem id_cells {fuel : Nat} {cs : List Value} {y : DataW H × List MemPlace} (h : DataW.trod enc Tryz.prog W 0 (fun _ => true) true fuel 59 cs = some y) : ∃ x : IdK, x.ok ∧ cs = x.c := by
  obtain ⟨y0, y1, n, _, hcl, h0, h1⟩ := trod_struct2 Tryz.underlying59 h
  rw [cells_id] at hcl
  obtain ⟨A, B, rfl, hA, hB⟩ := list_split (n := 32) (m := 1) hcl
  simp only [cells_hash, cells_int, List.drop_zero] at h0 h1
  rw [← hA, List.take_left] at h0
  rw [← hA, List.drop_left, List.take_of_length_le (by omega)] at h1
  obtain ⟨k, hk, rfl⟩ := hash_cells h0
  obtain ⟨z, e0, _, w0⟩ := DataW.trod_int Tryz.underlying3 h1
  subst e0
  have b := i64_wf w0
  exact ⟨⟨k, z⟩, ⟨hk, b.1, b.2⟩, rfl⟩
end
theorem trod_float {H : Type} {enc : TypeId × Value → H} {P : Program} {w : World} {base : Nat} {spare : Nat → Bool} {held : Bool} {fuel : Nat} {t : TypeId} {cs : List Value} {x : DataW H × List MemPlace} {k : FloatKind} (ht : P.underlying t = some (.float k)) (h : DataW.trod enc P w base spare held fuel t cs = some x) :
    ∃ b, cs = [.float k b] ∧ (Lit.float k b).wf = true := by
  cases fuel with
  | zero => simp [DataW.trod] at h
  | succ n =>
    unfold DataW.trod at h
    rw [ht] at h
    split at h <;> simp_all
theorem cells_u8k : Tryz.prog.cellsOf 60 = 1 := by kernel_rfl
theorem cells_i64 : Tryz.prog.cellsOf 2 = 1 := by kernel_rfl
theorem cells_flt : Tryz.prog.cellsOf 61 = 1 := by kernel_rfl
theorem cells_va : Tryz.prog.cellsOf 63 = 4 := by kernel_rfl
theorem cells_pl : Tryz.prog.cellsOf 68 = 67 := by kernel_rfl
theorem cells_opR : Tryz.prog.cellsOf 66 = 42 := by kernel_rfl
theorem cells_ids : Tryz.prog.cellsOf 64 = 1 := by kernel_rfl
section
variable {H : Type} {enc : TypeId × Value → H} {W : World}
theorem va_cells (fuel : Nat) (cs : List Value) (y : DataW H × List MemPlace) (h : DataW.trod enc Tryz.prog W 0 (fun _ => true) true fuel 63 cs = some y) : ∃ x : VaV, x.ok ∧ cs = x.c := by
  obtain ⟨xs, n, _, hx, hcl, hlen, hfs⟩ := DataW.trod_struct Tryz.underlying63 h
  rw [cells_va] at hcl
  have hlen : xs.length = 4 := hlen
  obtain ⟨a, b, c, d, rfl⟩ : ∃ a b c d, cs = [a, b, c, d] := by
    match cs, hcl with
    | [a, b, c, d], _ => exact ⟨a, b, c, d, rfl⟩
  match xs, hlen with
  | [y0, y1, y2, y3], _ =>
    have t0 : DataW.trod enc Tryz.prog W 0 (fun _ => true) true n 60 (([a, b, c, d].drop 0).take (Tryz.prog.cellsOf 60)) = some y0 := hfs 0 _ rfl
    have t1 : DataW.trod enc Tryz.prog W 0 (fun _ => true) true n 2 (([a, b, c, d].drop 1).take (Tryz.prog.cellsOf 2)) = some y1 := hfs 1 _ rfl
    have t2 : DataW.trod enc Tryz.prog W 0 (fun _ => true) true n 61 (([a, b, c, d].drop 2).take (Tryz.prog.cellsOf 61)) = some y2 := hfs 2 _ rfl
    have t3 : DataW.trod enc Tryz.prog W 0 (fun _ => true) true n 9 (([a, b, c, d].drop 3).take (Tryz.prog.cellsOf 9)) = some y3 := hfs 3 _ rfl
    rw [cells_u8k] at t0
    rw [cells_i64] at t1
    rw [cells_flt] at t2
    rw [cells_str] at t3
    obtain ⟨z0, q0, _, w0⟩ := DataW.trod_int Tryz.underlying60 t0
    obtain ⟨z1, q1, _, w1⟩ := DataW.trod_int Tryz.underlying2 t1
    obtain ⟨z2, q2, w2⟩ := trod_float Tryz.underlying61 t2
    obtain ⟨z3, q3, _, w3⟩ := DataW.trod_string Tryz.underlying9 t3
    simp at q0 q1 q2 q3
    subst q0 q1 q2 q3
    have u0 := u8_wf w0
    have u1 := i64_wf w1
    exact ⟨⟨z0, z1, z2, z3⟩, ⟨u0.1, u0.2, u1.1, u1.2, by simpa [Lit.wf] using w2, w3⟩, rfl⟩
theorem pl_cells (fuel : Nat) (cs : List Value) (y : DataW H × List MemPlace) (h : DataW.trod enc Tryz.prog W 0 (fun _ => true) true fuel 68 cs = some y) : ∃ x : PlK, x.ok ∧ cs = x.c := by
  obtain ⟨xs, n, _, hx, hcl, hlen, hfs⟩ := DataW.trod_struct Tryz.underlying68 h
  rw [cells_pl] at hcl
  have hlen : xs.length = 3 := hlen
  obtain ⟨A, R, rfl, hA, hR⟩ := list_split (n := 33) (m := 34) hcl
  obtain ⟨B, C, rfl, hB, hC⟩ := list_split (n := 1) (m := 33) hR
  match xs, hlen with
  | [y0, y1, y2], _ =>
    have t0 : DataW.trod enc Tryz.prog W 0 (fun _ => true) true n 59 (((A ++ (B ++ C)).drop 0).take (Tryz.prog.cellsOf 59)) = some y0 := hfs 0 _ rfl
    have t1 : DataW.trod enc Tryz.prog W 0 (fun _ => true) true n 9 (((A ++ (B ++ C)).drop 33).take (Tryz.prog.cellsOf 9)) = some y1 := hfs 1 _ rfl
    have t2 : DataW.trod enc Tryz.prog W 0 (fun _ => true) true n 59 (((A ++ (B ++ C)).drop 34).take (Tryz.prog.cellsOf 59)) = some y2 := hfs 2 _ rfl
    rw [cells_id] at t0 t2
    rw [cells_str] at t1
    rw [List.drop_zero, ← hA, List.take_left] at t0
    rw [← hA, List.drop_left, ← hB, List.take_left] at t1
    rw [show 34 = A.length + B.length by omega, ← List.drop_drop, List.drop_left, List.drop_left, List.take_of_length_le (by omega)] at t2
    obtain ⟨x0, o0, q0⟩ := id_cells t0
    obtain ⟨z1, q1, _, w1⟩ := DataW.trod_string Tryz.underlying9 t1
    obtain ⟨x2, o2, q2⟩ := id_cells t2
    subst q0 q1 q2
    exact ⟨⟨x0, z1, x2⟩, ⟨o0, w1, o2⟩, rfl⟩
end
structure OpR where
  kind : Int
  pl : Int
  id : IdK
  v : VaV
  n : Int
  seen : Value
  back : Int
def OpR.c (o : OpR) : List Value := (.int .i64 o.kind) :: (.int .i64 o.pl) :: (o.id.c ++ (o.v.c ++ [.int .i64 o.n, o.seen, .int .i64 o.back]))
structure OpR.ok (W : World) (o : OpR) : Prop where
  id : o.id.ok
  v : o.v.ok
  kind : -9223372036854775808 ≤ o.kind ∧ o.kind ≤ 9223372036854775807
  pl : -9223372036854775808 ≤ o.pl ∧ o.pl ≤ 9223372036854775807
  n : -9223372036854775808 ≤ o.n ∧ o.n ≤ 9223372036854775807
  back : -9223372036854775808 ≤ o.back ∧ o.back ≤ 9223372036854775807
  seen : ∃ a cap, ∃ L : List IdK, o.seen = .slice a L.length cap ∧ (∀ x ∈ L, x.ok) ∧ RowAt 33 IdK.c W a L
theorem OpR.len {W : World} {o : OpR} (h : o.ok W) : o.c.length = 42 := by
  have h1 := IdK.len h.id
  simp [OpR.c, h1, VaV.len]
section
variable {H : Type} {enc : TypeId × Value → H} {W : World}
theorem view_pls {a : Option Addr} {len cap : Nat} {d : DataW H} {p : List MemPlace} (h : DataW.Trod enc Tryz.prog W 0 (fun _ => true) true 22 (.slice a len cap) d p) :
    ∃ L : List PlK, L.length = len ∧ (∀ x ∈ L, x.ok) ∧ RowAt 67 PlK.c W a L ∧ (d = .nil ∧ len = 0 ∨ ∃ el sp, d = .slice el sp ∧ el.length = len) :=
  view_rows Tryz.underlying22 cells_pl (by omega) (fun x hx => PlK.len hx) pl_cells h
end
theorem bytes_opR : Tryz.prog.bytesOf 66 = 136 := by kernel_rfl
theorem bytes_plR : Tryz.prog.bytesOf 68 = 96 := by kernel_rfl
theorem reach_opsR {H : Type} {ts : List TypeId} {ds : List (DataW H)} (hsz : (DataW.weightsEach Tryz.prog ts ds).all (· ≤ reachBytes) = true) (j : Nat) (ht : ts[j]? = some 23) {d : DataW H} (hd : ds[j]? = some d) {len : Nat}
    (h : d = .nil ∧ len = 0 ∨ ∃ el sp, d = .slice el sp ∧ el.length = len) : len ≤ 1034834473202 := by
  rcases h with ⟨_, rfl⟩ | ⟨el, sp, rfl, rfl⟩
  · omega
  · have := sized_slice hsz (j := j) (t := 23) (e := 66) ht hd Tryz.underlying23
    rw [bytes_opR] at this
    simp only [reachBytes] at this
    omega
theorem reach_pls {H : Type} {ts : List TypeId} {ds : List (DataW H)} (hsz : (DataW.weightsEach Tryz.prog ts ds).all (· ≤ reachBytes) = true) (j : Nat) (ht : ts[j]? = some 22) {d : DataW H} (hd : ds[j]? = some d) {len : Nat}
    (h : d = .nil ∧ len = 0 ∨ ∃ el sp, d = .slice el sp ∧ el.length = len) : len ≤ 1466015503700 := by
  rcases h with ⟨_, rfl⟩ | ⟨el, sp, rfl, rfl⟩
  · omega
  · have := sized_slice hsz (j := j) (t := 22) (e := 68) ht hd Tryz.underlying22
    rw [bytes_plR] at this
    simp only [reachBytes] at this
    omega
end Go.Proofs.YtldlljobofnmmaaGreatDoor
namespace Go.Proofs.YtldlljobofnmmaaGreatDoor
open Go.RowKit
set_option linter.unusedVariables false
set_option linter.unusedSimpArgs false
theorem exec_c5 {w : World} {a : Act} {o : Oper} {F : Nat} {ts : Array TypeId} {x1 x2 x3 x4 x5 : Operand} {v1 v2 v3 v4 v5 : Value} (ho : o.op = .call { callee := .value (.func F), args := #[x1, x2, x3, x4, x5], argTypes := ts }) (h1 : a.eval x1 = v1) (h2 : a.eval x2 = v2) (h3 : a.eval x3 = v3) (h4 : a.eval x4 = v4) (h5 : a.eval x5 = v5) (hf : (callFunc F #[v1, v2, v3, v4, v5]).run Tryz.prog w = .ok (.enter F #[v1, v2, v3, v4, v5]) w := by go_simp) : (execOp a.eval o).run Tryz.prog w = .ok (.enter F #[v1, v2, v3, v4, v5]) w := by
  have e0 : a.eval (.func F) = .func (.func F) #[] #[] := rfl
  unfold execOp; simp [ho, resolve, invoke, h1, h2, h3, h4, h5, e0, Deferred.ofValue, Result.andThen, hf]
theorem exec_bc1 {w : World} {a : Act} {o : Oper} {t : TypeId} {i : Nat} {v u : Value} (ho : o.op = .build t #[(i, .const v)]) (hl : (Instr.build t #[(i, v)]).run Tryz.prog w = .ok u w) : (execOp a.eval o).run Tryz.prog w = .ok (.value u) w := exec_build ho (by simp; rfl) hl
theorem exec_bc2 {w : World} {a : Act} {o : Oper} {t : TypeId} {i j : Nat} {v v2 u : Value} (ho : o.op = .build t #[(i, .const v), (j, .const v2)]) (hl : (Instr.build t #[(i, v), (j, v2)]).run Tryz.prog w = .ok u w) : (execOp a.eval o).run Tryz.prog w = .ok (.value u) w := exec_build ho (by simp; exact ⟨rfl, rfl⟩) hl
theorem ex_nei {w : World} {a : Act} {o : Oper} {x y : Operand} {c : Int} {t : TypeId} (ht : t = 3 ∨ t = 2) (ho : o.op = .binOp .neq t x y t) (hx : a.eval x = .int .i64 c) (hy : a.eval y = .int .i64 c) : (execOp a.eval o).run Tryz.prog w = .ok (.value (.bool false)) w := by
  rcases ht with rfl | rfl
  · refine exec_binOp ho hx hy ?_ ?_
    · kernel_rfl
    · have : (c != c) = false := by simp
      go_simp
  · refine exec_binOp ho hx hy ?_ ?_
    · kernel_rfl
    · have : (c != c) = false := by simp
      go_simp
theorem ex_neqX {w : World} {a : Act} {o : Oper} {x y : Operand} {p : IdK} (hp : p.ok) (ho : o.op = .binOp .neq 59 x y 59) (hx : a.eval x = p.v) (hy : a.eval y = p.v) : (execOp a.eval o).run Tryz.prog w = .ok (.value (.bool false)) w := by
  have h := neq_idR p p hp hp w
  rw [show decide (p ≠ p) = false by simp] at h
  exact exec_binOp ho hx hy (guard_idR _ _ _ _ _ _) h
def live9_o0 : Oper := ⟨some 29, .move (.tmp 7), 71, "law.go:32", #[], none⟩
def live9_o1 : Oper := ⟨some 30, .call { callee := Callee.builtin Builtin.len, args := #[.tmp 29], argTypes := #[71] }, 3, "law.go:32", #[⟨0, .data⟩], none⟩
def live9_o2 : Oper := ⟨some 31, .binOp BinOp.neq 3 (.tmp 30) (Operand.const (Value.int IntKind.i64 2)) 3, 4, "law.go:32", #[⟨1, .data⟩], none⟩
def live9_o3 : Oper := ⟨some 32, .move (.tmp 31), 4, "law.go:32", #[⟨2, .data⟩], none⟩
def live9_o4 : Oper := ⟨some 33, .move (.tmp 7), 71, "law.go:32", #[⟨3, .guard⟩], some (3, false)⟩
def live9_o5 : Oper := ⟨some 34, .indexAddr 71 (.tmp 33) (Operand.const (Value.int IntKind.i64 0)), 0, "law.go:32", #[⟨4, .data⟩, ⟨3, .guard⟩], some (3, false)⟩
def live9_o6 : Oper := ⟨some 35, .fieldAddr 85 (.tmp 34) 0, 0, "law.go:32", #[⟨5, .data⟩, ⟨3, .guard⟩], some (3, false)⟩
def live9_o7 : Oper := ⟨some 36, .load 59 (.tmp 35), 59, "law.go:32", #[⟨6, .data⟩, ⟨3, .guard⟩], some (3, false)⟩
def live9_o8 : Oper := ⟨some 37, .load 59 (.tmp 3), 59, "law.go:32", #[⟨3, .guard⟩], some (3, false)⟩
def live9_o9 : Oper := ⟨some 38, .binOp BinOp.neq 59 (.tmp 36) (.tmp 37) 59, 4, "law.go:32", #[⟨7, .data⟩, ⟨8, .data⟩, ⟨3, .guard⟩], some (3, false)⟩
def live9_o10 : Oper := ⟨some 39, .pick (.tmp 32) (Operand.const (Value.bool true)) (.tmp 38), 4, "law.go:32", #[⟨3, .data⟩, ⟨9, .data⟩], none⟩
def live9_o11 : Oper := ⟨some 40, .move (.tmp 39), 4, "law.go:32", #[⟨10, .data⟩, ⟨3, .chain⟩], none⟩
def live9_o12 : Oper := ⟨some 41, .move (.tmp 7), 71, "law.go:32", #[⟨11, .guard⟩], some (11, false)⟩
def live9_o13 : Oper := ⟨some 42, .indexAddr 71 (.tmp 41) (Operand.const (Value.int IntKind.i64 0)), 0, "law.go:32", #[⟨12, .data⟩, ⟨11, .guard⟩], some (11, false)⟩
def live9_o14 : Oper := ⟨some 43, .fieldAddr 85 (.tmp 42) 1, 0, "law.go:32", #[⟨13, .data⟩, ⟨11, .guard⟩], some (11, false)⟩
def live9_o15 : Oper := ⟨some 44, .fieldAddr 63 (.tmp 43) 1, 0, "law.go:32", #[⟨14, .data⟩, ⟨11, .guard⟩], some (11, false)⟩
def live9_o16 : Oper := ⟨some 45, .load 2 (.tmp 44), 2, "law.go:32", #[⟨15, .data⟩, ⟨11, .guard⟩], some (11, false)⟩
def live9_o17 : Oper := ⟨some 46, .binOp BinOp.neq 2 (.tmp 45) (Operand.const (Value.int IntKind.i64 8)) 2, 4, "law.go:32", #[⟨16, .data⟩, ⟨11, .guard⟩], some (11, false)⟩
def live9_o18 : Oper := ⟨some 47, .pick (.tmp 40) (Operand.const (Value.bool true)) (.tmp 46), 4, "law.go:32", #[⟨11, .data⟩, ⟨17, .data⟩], none⟩
def live9_o19 : Oper := ⟨some 48, .move (.tmp 47), 4, "law.go:32", #[⟨18, .data⟩, ⟨11, .chain⟩], none⟩
def live9_o20 : Oper := ⟨some 49, .move (.tmp 7), 71, "law.go:32", #[⟨19, .guard⟩], some (19, false)⟩
def live9_o21 : Oper := ⟨some 50, .indexAddr 71 (.tmp 49) (Operand.const (Value.int IntKind.i64 1)), 0, "law.go:32", #[⟨20, .data⟩, ⟨19, .guard⟩], some (19, false)⟩
def live9_o22 : Oper := ⟨some 51, .fieldAddr 85 (.tmp 50) 0, 0, "law.go:32", #[⟨21, .data⟩, ⟨19, .guard⟩], some (19, false)⟩
def live9_o23 : Oper := ⟨some 52, .load 59 (.tmp 51), 59, "law.go:32", #[⟨22, .data⟩, ⟨19, .guard⟩], some (19, false)⟩
def live9_o24 : Oper := ⟨some 53, .load 59 (.tmp 4), 59, "law.go:32", #[⟨19, .guard⟩], some (19, false)⟩
def live9_o25 : Oper := ⟨some 54, .binOp BinOp.neq 59 (.tmp 52) (.tmp 53) 59, 4, "law.go:32", #[⟨23, .data⟩, ⟨24, .data⟩, ⟨19, .guard⟩], some (19, false)⟩
def live9_o26 : Oper := ⟨some 55, .pick (.tmp 48) (Operand.const (Value.bool true)) (.tmp 54), 4, "law.go:32", #[⟨19, .data⟩, ⟨25, .data⟩], none⟩
def live9_o27 : Oper := ⟨some 56, .move (.tmp 55), 4, "law.go:32", #[⟨26, .data⟩, ⟨19, .chain⟩], none⟩
def live9_o28 : Oper := ⟨some 57, .move (.tmp 1), 26, "law.go:32", #[⟨27, .guard⟩], some (27, false)⟩
def live9_o29 : Oper := ⟨some 58, .call { callee := Callee.value (Operand.func 17), args := #[.tmp 57], argTypes := #[26] }, 3, "law.go:32", #[⟨28, .data⟩, ⟨27, .chain⟩, ⟨27, .guard⟩], some (27, false)⟩
def live9_o30 : Oper := ⟨some 59, .binOp BinOp.neq 3 (.tmp 58) (Operand.const (Value.int IntKind.i64 1)) 3, 4, "law.go:32", #[⟨29, .data⟩, ⟨27, .guard⟩], some (27, false)⟩
def live9_o31 : Oper := ⟨some 60, .pick (.tmp 56) (Operand.const (Value.bool true)) (.tmp 59), 4, "law.go:32", #[⟨27, .data⟩, ⟨30, .data⟩], none⟩
def live9_ops : Array Oper := #[live9_o0, live9_o1, live9_o2, live9_o3, live9_o4, live9_o5, live9_o6, live9_o7, live9_o8, live9_o9, live9_o10, live9_o11, live9_o12, live9_o13, live9_o14, live9_o15, live9_o16, live9_o17, live9_o18, live9_o19, live9_o20, live9_o21, live9_o22, live9_o23, live9_o24, live9_o25, live9_o26, live9_o27, live9_o28, live9_o29, live9_o30, live9_o31]
theorem live9 {rb xb yb g o lc : Nat} {x y : IdK} (a : Act) (w : World) (Q : Exit → Act → World → Prop) (zz : a.tmps.size = 78)
    (t1 : a.tmps.getD 1 undef = .pointer (some ⟨rb, 0, none⟩))
    (t3 : a.tmps.getD 3 undef = .pointer (some ⟨xb, 0, none⟩))
    (t4 : a.tmps.getD 4 undef = .pointer (some ⟨yb, 0, none⟩))
    (t7 : a.tmps.getD 7 undef = .slice (some ⟨g, o, none⟩) 2 lc)
    (hx : x.ok) (hy : y.ok) (L1 : ∀ W, W = w.drew → (Instr.loadAt 59 (.pointer (some ⟨g, o + 37 * 0 + 0, none⟩))).run Tryz.prog W = .ok (x.v) W) (L2 : ∀ W, W = w.drew → (Instr.loadAt 59 (.pointer (some ⟨xb, 0, none⟩))).run Tryz.prog W = .ok (x.v) W) (L3 : ∀ W, W = w.drew → (Instr.loadAt 2 (.pointer (some ⟨g, o + 37 * 0 + 33 + 1, none⟩))).run Tryz.prog W = .ok (.int .i64 8) W) (L4 : ∀ W, W = w.drew → (Instr.loadAt 59 (.pointer (some ⟨g, o + 37 * 1 + 0, none⟩))).run Tryz.prog W = .ok (y.v) W) (L5 : ∀ W, W = w.drew → (Instr.loadAt 59 (.pointer (some ⟨yb, 0, none⟩))).run Tryz.prog W = .ok (y.v) W) (CL : Calls Tryz.prog 17 #[.pointer (some ⟨rb, 0, none⟩)] w.drew fun e w' => e = .returned (.int .i64 1) ∧ w' = w.drew)
    (h : ∀ (a' : Act) (w' : World), w' = w.drew → a' = ((((((((((((((((((((((((((((((((a).put (some 29) (.slice (some ⟨g, o, none⟩) 2 lc)).put (some 30) (.int .i64 (2 : Int))).put (some 31) (.bool false)).put (some 32) (.bool false)).put (some 33) (.slice (some ⟨g, o, none⟩) 2 lc)).put (some 34) (.pointer (some ⟨g, o + 37 * 0, none⟩))).put (some 35) (.pointer (some ⟨g, o + 37 * 0 + 0, none⟩))).put (some 36) (x.v)).put (some 37) (x.v)).put (some 38) (.bool false)).put (some 39) (.bool false)).put (some 40) (.bool false)).put (some 41) (.slice (some ⟨g, o, none⟩) 2 lc)).put (some 42) (.pointer (some ⟨g, o + 37 * 0, none⟩))).put (some 43) (.pointer (some ⟨g, o + 37 * 0 + 33, none⟩))).put (some 44) (.pointer (some ⟨g, o + 37 * 0 + 33 + 1, none⟩))).put (some 45) (.int .i64 8)).put (some 46) (.bool false)).put (some 47) (.bool false)).put (some 48) (.bool false)).put (some 49) (.slice (some ⟨g, o, none⟩) 2 lc)).put (some 50) (.pointer (some ⟨g, o + 37 * 1, none⟩))).put (some 51) (.pointer (some ⟨g, o + 37 * 1 + 0, none⟩))).put (some 52) (y.v)).put (some 53) (y.v)).put (some 54) (.bool false)).put (some 55) (.bool false)).put (some 56) (.bool false)).put (some 57) (.pointer (some ⟨rb, 0, none⟩))).put (some 58) (.int .i64 1)).put (some 59) (.bool false)).put (some 60) (.bool false) → Q .normal a' w') :
    (Code.region 9 live9_ops true).wp Tryz.prog Q a w := by
  refine y0 (fun w' => w' = w.drew) (rfl) (fun hHeld => ?_)
  refine yv 0 rfl rfl (fun w1 hw => exec_move rfl (zi t7 rfl)) hHeld ?_
  refine yv 1 rfl rfl (fun w1 hw => exec_len rfl (zg zz rfl) (len_en _ _ _ _ _)) hHeld ?_
  refine yv (v := .bool false) 2 rfl rfl (fun w1 hw => ex_nei (.inl rfl) rfl (zg zz rfl) rfl) hHeld ?_
  refine yv 3 rfl rfl (fun w1 hw => exec_move rfl (zg zz rfl)) hHeld ?_
  refine yv 4 rfl (zw zz rfl rfl rfl (zg zz rfl)) (fun w1 hw => exec_move rfl (zi t7 rfl)) hHeld ?_
  refine yv 5 rfl (zw zz rfl rfl rfl (zg zz rfl)) (fun w1 hw => exec_indexAt rfl (zg zz rfl) rfl (ix_en (i := 0) (m := 2) (by decide) (by decide) _)) hHeld ?_
  refine yv 6 rfl (zw zz rfl rfl rfl (zg zz rfl)) (fun w1 hw => exec_fieldAt rfl (zg zz rfl) (fg_85_0 _ _ _)) hHeld ?_
  refine yv 7 rfl (zw zz rfl rfl rfl (zg zz rfl)) (fun w1 hw => exec_load rfl (zg zz rfl) (L1 _ hw)) hHeld ?_
  refine yv 8 rfl (zw zz rfl rfl rfl (zg zz rfl)) (fun w1 hw => exec_load rfl (zi t3 rfl) (L2 _ hw)) hHeld ?_
  refine yv (v := .bool false) 9 rfl (zw zz rfl rfl rfl (zg zz rfl)) (fun w1 hw => ex_neqX hx rfl (zg zz rfl) (zg zz rfl)) hHeld ?_
  refine yv 10 rfl rfl (fun w1 hw => exec_pickF rfl (zg zz rfl) (zg zz rfl)) hHeld ?_
  refine yv 11 rfl rfl (fun w1 hw => exec_move rfl (zg zz rfl)) hHeld ?_
  refine yv 12 rfl (zw zz rfl rfl rfl (zg zz rfl)) (fun w1 hw => exec_move rfl (zi t7 rfl)) hHeld ?_
  refine yv 13 rfl (zw zz rfl rfl rfl (zg zz rfl)) (fun w1 hw => exec_indexAt rfl (zg zz rfl) rfl (ix_en (i := 0) (m := 2) (by decide) (by decide) _)) hHeld ?_
  refine yv 14 rfl (zw zz rfl rfl rfl (zg zz rfl)) (fun w1 hw => exec_fieldAt rfl (zg zz rfl) (fg_85_1 _ _ _)) hHeld ?_
  refine yv 15 rfl (zw zz rfl rfl rfl (zg zz rfl)) (fun w1 hw => exec_fieldAt rfl (zg zz rfl) (fg_63_1 _ _ _)) hHeld ?_
  refine yv 16 rfl (zw zz rfl rfl rfl (zg zz rfl)) (fun w1 hw => exec_load rfl (zg zz rfl) (L3 _ hw)) hHeld ?_
  refine yv (v := .bool false) 17 rfl (zw zz rfl rfl rfl (zg zz rfl)) (fun w1 hw => ex_nei (.inr rfl) rfl (zg zz rfl) rfl) hHeld ?_
  refine yv 18 rfl rfl (fun w1 hw => exec_pickF rfl (zg zz rfl) (zg zz rfl)) hHeld ?_
  refine yv 19 rfl rfl (fun w1 hw => exec_move rfl (zg zz rfl)) hHeld ?_
  refine yv 20 rfl (zw zz rfl rfl rfl (zg zz rfl)) (fun w1 hw => exec_move rfl (zi t7 rfl)) hHeld ?_
  refine yv 21 rfl (zw zz rfl rfl rfl (zg zz rfl)) (fun w1 hw => exec_indexAt rfl (zg zz rfl) rfl (ix_en (i := 1) (m := 2) (by decide) (by decide) _)) hHeld ?_
  refine yv 22 rfl (zw zz rfl rfl rfl (zg zz rfl)) (fun w1 hw => exec_fieldAt rfl (zg zz rfl) (fg_85_0 _ _ _)) hHeld ?_
  refine yv 23 rfl (zw zz rfl rfl rfl (zg zz rfl)) (fun w1 hw => exec_load rfl (zg zz rfl) (L4 _ hw)) hHeld ?_
  refine yv 24 rfl (zw zz rfl rfl rfl (zg zz rfl)) (fun w1 hw => exec_load rfl (zi t4 rfl) (L5 _ hw)) hHeld ?_
  refine yv (v := .bool false) 25 rfl (zw zz rfl rfl rfl (zg zz rfl)) (fun w1 hw => ex_neqX hy rfl (zg zz rfl) (zg zz rfl)) hHeld ?_
  refine yv 26 rfl rfl (fun w1 hw => exec_pickF rfl (zg zz rfl) (zg zz rfl)) hHeld ?_
  refine yv 27 rfl rfl (fun w1 hw => exec_move rfl (zg zz rfl)) hHeld ?_
  refine yv 28 rfl (zw zz rfl rfl rfl (zg zz rfl)) (fun w1 hw => exec_move rfl (zi t1 rfl)) hHeld ?_
  refine yc 29 rfl (zw zz rfl rfl rfl (zg zz rfl)) (exec_c1 rfl (zg zz rfl)) (CL) (fun e x29 hx => ?_)
  obtain ⟨rfl, S1⟩ := hx
  refine ⟨_, rfl, S1, fun hHeld => ?_⟩
  refine yv (v := .bool false) 30 rfl (zw zz rfl rfl rfl (zg zz rfl)) (fun w1 hw => ex_nei (.inl rfl) rfl (zg zz rfl) rfl) hHeld ?_
  refine yv 31 rfl rfl (fun w1 hw => exec_pickF rfl (zg zz rfl) (zg zz rfl)) hHeld ?_
  exact ye rfl (h _ _ (S1) rfl)
def live2_o0 : Oper := ⟨some 9, .build 68 #[(1, Operand.const (Value.string { data := #[97] }))], 68, "law.go:25", #[], none⟩
def live2_o1 : Oper := ⟨some 2, .alloc 68, 0, "law.go:25", #[], none⟩
def live2_o2 : Oper := ⟨none, .store 68 (.tmp 2) (.tmp 9), 0, "law.go:25", #[⟨1, .data⟩, ⟨0, .data⟩, ⟨0, .phase⟩, ⟨1, .phase⟩], none⟩
def live2_ops : Array Oper := #[live2_o0, live2_o1, live2_o2]
theorem live2 {b : Nat} {u : Value} {w1 w2 : World} (a : Act) (w : World) (Q : Exit → Act → World → Prop) (zz : a.tmps.size = 78)
    (BB : (Instr.build 68 #[(1, .string ⟨#[97]⟩)]).run Tryz.prog w = .ok u w) (EA : (Instr.alloc 68 true (.tuple #[])).run Tryz.prog w = .ok (.pointer (some ⟨b, 0, none⟩)) w1) (ES : (Instr.storeAt 68 (.pointer (some ⟨b, 0, none⟩)) u).run Tryz.prog w1 = .ok () w2)
    (h : ∀ (a' : Act) (w' : World), w' = w2 → a' = ((a).put (some 9) (u)).put (some 2) (.pointer (some ⟨b, 0, none⟩)) → Q .normal a' w') :
    (Code.region 2 live2_ops false).wp Tryz.prog Q a w := by
  refine z0 rfl ?_
  refine zv (v := u) rfl (exec_bc1 rfl BB) ?_
  refine zv (v := .pointer (some ⟨b, 0, none⟩)) rfl (exec_alloc rfl EA) ?_
  refine zs rfl (exec_store rfl (zg zz rfl) (zg zz rfl) ES) ?_
  exact ze rfl (h _ _ (rfl) rfl)
def live3_o0 : Oper := ⟨some 10, .build 59 #[(1, Operand.const (Value.int IntKind.i64 1))], 59, "law.go:26", #[], none⟩
def live3_o1 : Oper := ⟨some 3, .alloc 59, 0, "law.go:26", #[], none⟩
def live3_o2 : Oper := ⟨none, .store 59 (.tmp 3) (.tmp 10), 0, "law.go:26", #[⟨1, .data⟩, ⟨0, .data⟩, ⟨0, .phase⟩, ⟨1, .phase⟩], none⟩
def live3_ops : Array Oper := #[live3_o0, live3_o1, live3_o2]
theorem live3 {b : Nat} {u : Value} {w1 w2 : World} (a : Act) (w : World) (Q : Exit → Act → World → Prop) (zz : a.tmps.size = 78)
    (BB : (Instr.build 59 #[(1, .int .i64 1)]).run Tryz.prog w = .ok u w) (EA : (Instr.alloc 59 true (.tuple #[])).run Tryz.prog w = .ok (.pointer (some ⟨b, 0, none⟩)) w1) (ES : (Instr.storeAt 59 (.pointer (some ⟨b, 0, none⟩)) u).run Tryz.prog w1 = .ok () w2)
    (h : ∀ (a' : Act) (w' : World), w' = w2 → a' = ((a).put (some 10) (u)).put (some 3) (.pointer (some ⟨b, 0, none⟩)) → Q .normal a' w') :
    (Code.region 3 live3_ops false).wp Tryz.prog Q a w := by
  refine z0 rfl ?_
  refine zv (v := u) rfl (exec_bc1 rfl BB) ?_
  refine zv (v := .pointer (some ⟨b, 0, none⟩)) rfl (exec_alloc rfl EA) ?_
  refine zs rfl (exec_store rfl (zg zz rfl) (zg zz rfl) ES) ?_
  exact ze rfl (h _ _ (rfl) rfl)
def live4_o0 : Oper := ⟨some 11, .build 59 #[(1, Operand.const (Value.int IntKind.i64 2))], 59, "law.go:27", #[], none⟩
def live4_o1 : Oper := ⟨some 4, .alloc 59, 0, "law.go:27", #[], none⟩
def live4_o2 : Oper := ⟨none, .store 59 (.tmp 4) (.tmp 11), 0, "law.go:27", #[⟨1, .data⟩, ⟨0, .data⟩, ⟨0, .phase⟩, ⟨1, .phase⟩], none⟩
def live4_ops : Array Oper := #[live4_o0, live4_o1, live4_o2]
theorem live4 {b : Nat} {u : Value} {w1 w2 : World} (a : Act) (w : World) (Q : Exit → Act → World → Prop) (zz : a.tmps.size = 78)
    (BB : (Instr.build 59 #[(1, .int .i64 2)]).run Tryz.prog w = .ok u w) (EA : (Instr.alloc 59 true (.tuple #[])).run Tryz.prog w = .ok (.pointer (some ⟨b, 0, none⟩)) w1) (ES : (Instr.storeAt 59 (.pointer (some ⟨b, 0, none⟩)) u).run Tryz.prog w1 = .ok () w2)
    (h : ∀ (a' : Act) (w' : World), w' = w2 → a' = ((a).put (some 11) (u)).put (some 4) (.pointer (some ⟨b, 0, none⟩)) → Q .normal a' w') :
    (Code.region 4 live4_ops false).wp Tryz.prog Q a w := by
  refine z0 rfl ?_
  refine zv (v := u) rfl (exec_bc1 rfl BB) ?_
  refine zv (v := .pointer (some ⟨b, 0, none⟩)) rfl (exec_alloc rfl EA) ?_
  refine zs rfl (exec_store rfl (zg zz rfl) (zg zz rfl) ES) ?_
  exact ze rfl (h _ _ (rfl) rfl)
def live5_o0 : Oper := ⟨some 12, .move (.tmp 1), 26, "law.go:28", #[], none⟩
def live5_o1 : Oper := ⟨some 13, .load 68 (.tmp 2), 68, "law.go:28", #[], none⟩
def live5_o2 : Oper := ⟨some 14, .load 59 (.tmp 3), 59, "law.go:28", #[], none⟩
def live5_o3 : Oper := ⟨some 15, .build 63 #[(0, Operand.const (Value.int IntKind.u8 7)), (1, Operand.const (Value.int IntKind.i64 5))], 63, "law.go:28", #[], none⟩
def live5_o4 : Oper := ⟨some 16, .call { callee := Callee.value (Operand.func 18), args := #[.tmp 12, .tmp 13, .tmp 14, .tmp 15, Operand.const Value.nilFunc], argTypes := #[26, 68, 59, 63, 83] }, 80, "law.go:28", #[⟨0, .data⟩, ⟨1, .data⟩, ⟨2, .data⟩, ⟨3, .data⟩], none⟩
def live5_o5 : Oper := ⟨some 5, .assign (.tmp 16), 80, "law.go:28", #[⟨4, .data⟩, ⟨4, .chain⟩, ⟨0, .phase⟩, ⟨1, .phase⟩, ⟨2, .phase⟩, ⟨3, .phase⟩, ⟨4, .phase⟩], none⟩
def live5_ops : Array Oper := #[live5_o0, live5_o1, live5_o2, live5_o3, live5_o4, live5_o5]
theorem live5 {rb pb xb : Nat} {p : PlK} {x : IdK} {v : VaV} (Fin : Nat → World → Prop) (a : Act) (w : World) (Q : Exit → Act → World → Prop) (zz : a.tmps.size = 78)
    (t1 : a.tmps.getD 1 undef = .pointer (some ⟨rb, 0, none⟩))
    (t2 : a.tmps.getD 2 undef = .pointer (some ⟨pb, 0, none⟩))
    (t3 : a.tmps.getD 3 undef = .pointer (some ⟨xb, 0, none⟩))
    (BB : (Instr.build 63 #[(0, .int .u8 7), (1, .int .i64 5)]).run Tryz.prog w = .ok v.v w) (LP : ∀ W, W = w → (Instr.loadAt 68 (.pointer (some ⟨pb, 0, none⟩))).run Tryz.prog W = .ok (p.v) W) (LX : ∀ W, W = w → (Instr.loadAt 59 (.pointer (some ⟨xb, 0, none⟩))).run Tryz.prog W = .ok (x.v) W) (CP : Calls Tryz.prog 18 #[.pointer (some ⟨rb, 0, none⟩), p.v, x.v, v.v, .nilFunc] w fun e w' => ∃ bk, e = .returned (.pointer (some ⟨bk, 0, none⟩)) ∧ Fin bk w')
    (h : ∀ (bk : Nat) (a' : Act) (w' : World), Fin bk w' → a' = ((((((a).put (some 12) (.pointer (some ⟨rb, 0, none⟩))).put (some 13) (p.v)).put (some 14) (x.v)).put (some 15) (v.v)).put (some 16) (.pointer (some ⟨bk, 0, none⟩))).put (some 5) (.pointer (some ⟨bk, 0, none⟩)) → Q .normal a' w') :
    (Code.region 5 live5_ops false).wp Tryz.prog Q a w := by
  refine z0 rfl ?_
  refine zv rfl (exec_move rfl (zi t1 rfl)) ?_
  refine zv rfl (exec_load rfl (zi t2 rfl) (LP _ rfl)) ?_
  refine zv rfl (exec_load rfl (zi t3 rfl) (LX _ rfl)) ?_
  refine zv (v := v.v) rfl (exec_bc2 rfl BB) ?_
  refine zc rfl (exec_c5 rfl (zg zz rfl) (zg zz rfl) (zg zz rfl) (zg zz rfl) rfl) (CP) (fun e x4 hx => ?_)
  obtain ⟨bk, rfl, HF⟩ := hx
  replace h := h bk
  refine ⟨_, rfl, ?_⟩
  refine zv rfl (exec_assign rfl (zg zz rfl)) ?_
  exact ze rfl (h _ _ (HF) rfl)
def live7_o0 : Oper := ⟨some 21, .move (.tmp 1), 26, "law.go:30", #[], none⟩
def live7_o1 : Oper := ⟨some 22, .load 68 (.tmp 2), 68, "law.go:30", #[], none⟩
def live7_o2 : Oper := ⟨some 23, .load 59 (.tmp 4), 59, "law.go:30", #[], none⟩
def live7_o3 : Oper := ⟨some 24, .build 63 #[], 63, "law.go:30", #[], none⟩
def live7_o4 : Oper := ⟨some 25, .call { callee := Callee.value (Operand.func 18), args := #[.tmp 21, .tmp 22, .tmp 23, .tmp 24, Operand.const Value.nilFunc], argTypes := #[26, 68, 59, 63, 83] }, 80, "law.go:30", #[⟨0, .data⟩, ⟨1, .data⟩, ⟨2, .data⟩, ⟨3, .data⟩], none⟩
def live7_o5 : Oper := ⟨some 6, .assign (.tmp 25), 80, "law.go:30", #[⟨4, .data⟩, ⟨4, .chain⟩, ⟨0, .phase⟩, ⟨1, .phase⟩, ⟨2, .phase⟩, ⟨3, .phase⟩, ⟨4, .phase⟩], none⟩
def live7_ops : Array Oper := #[live7_o0, live7_o1, live7_o2, live7_o3, live7_o4, live7_o5]
theorem live7 {rb pb xb : Nat} {p : PlK} {x : IdK} {v : VaV} (Fin : Nat → World → Prop) (a : Act) (w : World) (Q : Exit → Act → World → Prop) (zz : a.tmps.size = 78)
    (t1 : a.tmps.getD 1 undef = .pointer (some ⟨rb, 0, none⟩))
    (t2 : a.tmps.getD 2 undef = .pointer (some ⟨pb, 0, none⟩))
    (t4 : a.tmps.getD 4 undef = .pointer (some ⟨xb, 0, none⟩))
    (BB : (Instr.build 63 #[]).run Tryz.prog w = .ok v.v w) (LP : ∀ W, W = w → (Instr.loadAt 68 (.pointer (some ⟨pb, 0, none⟩))).run Tryz.prog W = .ok (p.v) W) (LX : ∀ W, W = w → (Instr.loadAt 59 (.pointer (some ⟨xb, 0, none⟩))).run Tryz.prog W = .ok (x.v) W) (CP : Calls Tryz.prog 18 #[.pointer (some ⟨rb, 0, none⟩), p.v, x.v, v.v, .nilFunc] w fun e w' => ∃ bk, e = .returned (.pointer (some ⟨bk, 0, none⟩)) ∧ Fin bk w')
    (h : ∀ (bk : Nat) (a' : Act) (w' : World), Fin bk w' → a' = ((((((a).put (some 21) (.pointer (some ⟨rb, 0, none⟩))).put (some 22) (p.v)).put (some 23) (x.v)).put (some 24) (v.v)).put (some 25) (.pointer (some ⟨bk, 0, none⟩))).put (some 6) (.pointer (some ⟨bk, 0, none⟩)) → Q .normal a' w') :
    (Code.region 7 live7_ops false).wp Tryz.prog Q a w := by
  refine z0 rfl ?_
  refine zv rfl (exec_move rfl (zi t1 rfl)) ?_
  refine zv rfl (exec_load rfl (zi t2 rfl) (LP _ rfl)) ?_
  refine zv rfl (exec_load rfl (zi t4 rfl) (LX _ rfl)) ?_
  refine zv rfl (exec_build0 rfl BB) ?_
  refine zc rfl (exec_c5 rfl (zg zz rfl) (zg zz rfl) (zg zz rfl) (zg zz rfl) rfl) (CP) (fun e x4 hx => ?_)
  obtain ⟨bk, rfl, HF⟩ := hx
  replace h := h bk
  refine ⟨_, rfl, ?_⟩
  refine zv rfl (exec_assign rfl (zg zz rfl)) ?_
  exact ze rfl (h _ _ (HF) rfl)
def live6_o0 : Oper := ⟨some 17, .move (.tmp 1), 26, "law.go:29", #[], none⟩
def live6_o1 : Oper := ⟨some 18, .load 68 (.tmp 2), 68, "law.go:29", #[], none⟩
def live6_o2 : Oper := ⟨some 19, .makeFunc (Fn.func 20) #[] #[.tmp 3], 83, "law.go:29", #[], none⟩
def live6_o3 : Oper := ⟨some 20, .call { callee := Callee.value (Operand.func 19), args := #[.tmp 17, .tmp 18, Operand.const (Value.int IntKind.i64 3), .tmp 19], argTypes := #[26, 68, 2, 83] }, 80, "law.go:29", #[⟨0, .data⟩, ⟨1, .data⟩, ⟨2, .data⟩], none⟩
def live6_ops : Array Oper := #[live6_o0, live6_o1, live6_o2, live6_o3]
theorem live6 {rb pb xb : Nat} {p : PlK} (Fin : Nat → World → Prop) (a : Act) (w : World) (Q : Exit → Act → World → Prop) (zz : a.tmps.size = 78)
    (t1 : a.tmps.getD 1 undef = .pointer (some ⟨rb, 0, none⟩))
    (t2 : a.tmps.getD 2 undef = .pointer (some ⟨pb, 0, none⟩))
    (t3 : a.tmps.getD 3 undef = .pointer (some ⟨xb, 0, none⟩))
    (LP : ∀ W, W = w → (Instr.loadAt 68 (.pointer (some ⟨pb, 0, none⟩))).run Tryz.prog W = .ok (p.v) W) (CP : Calls Tryz.prog 19 #[.pointer (some ⟨rb, 0, none⟩), p.v, .int .i64 3, .func (.func 20) #[] #[.pointer (some ⟨xb, 0, none⟩)]] w fun e w' => ∃ bk, e = .returned (.pointer (some ⟨bk, 0, none⟩)) ∧ Fin bk w')
    (h : ∀ (bk : Nat) (a' : Act) (w' : World), Fin bk w' → a' = ((((a).put (some 17) (.pointer (some ⟨rb, 0, none⟩))).put (some 18) (p.v)).put (some 19) (.func (.func 20) #[] #[.pointer (some ⟨xb, 0, none⟩)])).put (some 20) (.pointer (some ⟨bk, 0, none⟩)) → Q .normal a' w') :
    (Code.region 6 live6_ops false).wp Tryz.prog Q a w := by
  refine z0 rfl ?_
  refine zv rfl (exec_move rfl (zi t1 rfl)) ?_
  refine zv rfl (exec_load rfl (zi t2 rfl) (LP _ rfl)) ?_
  refine zv (v := .func (.func 20) #[] #[.pointer (some ⟨xb, 0, none⟩)]) rfl (exec_mkf1 rfl (zi t3 rfl)) ?_
  refine zc rfl (exec_c4 rfl (zg zz rfl) (zg zz rfl) rfl (zg zz rfl)) (CP) (fun e x3 hx => ?_)
  obtain ⟨bk, rfl, HF⟩ := hx
  replace h := h bk
  refine ⟨_, rfl, ?_⟩
  exact ze rfl (h _ _ (HF) rfl)
def live8_o0 : Oper := ⟨some 26, .move (.tmp 1), 26, "law.go:31", #[], none⟩
def live8_o1 : Oper := ⟨some 27, .load 68 (.tmp 2), 68, "law.go:31", #[], none⟩
def live8_o2 : Oper := ⟨some 28, .call { callee := Callee.value (Operand.func 10), args := #[.tmp 26, .tmp 27], argTypes := #[26, 68] }, 71, "law.go:31", #[⟨0, .data⟩, ⟨1, .data⟩], none⟩
def live8_o3 : Oper := ⟨some 7, .assign (.tmp 28), 71, "law.go:31", #[⟨2, .data⟩, ⟨2, .chain⟩, ⟨0, .phase⟩, ⟨1, .phase⟩, ⟨2, .phase⟩], none⟩
def live8_ops : Array Oper := #[live8_o0, live8_o1, live8_o2, live8_o3]
theorem live8 {rb pb : Nat} {p : PlK} (Fin : Value → World → Prop) (a : Act) (w : World) (Q : Exit → Act → World → Prop) (zz : a.tmps.size = 78)
    (t1 : a.tmps.getD 1 undef = .pointer (some ⟨rb, 0, none⟩))
    (t2 : a.tmps.getD 2 undef = .pointer (some ⟨pb, 0, none⟩))
    (LP : ∀ W, W = w → (Instr.loadAt 68 (.pointer (some ⟨pb, 0, none⟩))).run Tryz.prog W = .ok (p.v) W) (CP : Calls Tryz.prog 10 #[.pointer (some ⟨rb, 0, none⟩), p.v] w fun e w' => ∃ u, e = .returned u ∧ Fin u w')
    (h : ∀ (u : Value) (a' : Act) (w' : World), Fin u w' → a' = ((((a).put (some 26) (.pointer (some ⟨rb, 0, none⟩))).put (some 27) (p.v)).put (some 28) (u)).put (some 7) (u) → Q .normal a' w') :
    (Code.region 8 live8_ops false).wp Tryz.prog Q a w := by
  refine z0 rfl ?_
  refine zv rfl (exec_move rfl (zi t1 rfl)) ?_
  refine zv rfl (exec_load rfl (zi t2 rfl) (LP _ rfl)) ?_
  refine zc rfl (exec_c2 rfl (zg zz rfl) (zg zz rfl)) (CP) (fun e x2 hx => ?_)
  obtain ⟨u, rfl, HF⟩ := hx
  replace h := h u
  refine ⟨_, rfl, ?_⟩
  refine zv rfl (exec_assign rfl (zg zz rfl)) ?_
  exact ze rfl (h _ _ (HF) rfl)
def RP : RowT PlK := ⟨PlK.c, PlK.ok, 67, 96, 68, 22, zPl⟩
theorem RP_is : RP.Is := ⟨zPl_ok, fun _ h => PlK.len h, PlK.one, Tryz.underlying22, by kernel_rfl, ⟨_, Tryz.underlying68, rfl⟩, by decide, by decide⟩
theorem szP {u : PlK} (h : u.ok) : (Tryz.prog.info? 68).map (·.size) = some (RP.c u).toArray.size := by
  rw [List.size_toArray]
  show _ = some u.c.length
  rw [PlK.len h]
  exact szPl
theorem pl_box (w : World) : ∃ w2, (Instr.alloc 68 true (.tuple #[])).run Tryz.prog w = .ok (.pointer (some ⟨w.heap.size, 0, none⟩)) w2 ∧ RP.Bx w2 w.heap.size zPl ∧ Below w.heap.size w w2 := ⟨_, RowT.bx_zero RP_is w, heap_alloc_new _ _, (Below.refl _ _).alloc (Nat.le_refl _) _⟩
theorem pl_put {w : World} {b : Nat} {x u : PlK} (hx : x.ok) (hu : u.ok) (h : RP.Bx w b x) : ∃ w', (Instr.storeAt 68 (.pointer (some ⟨b, 0, none⟩)) u.v).run Tryz.prog w = .ok () w' ∧ RP.Bx w' b u ∧ Tch (fun j => j = b) w w' := by
  have t := setRow_tch w b u.c.toArray
  refine ⟨_, RowT.bx_store RP_is hx hu h, setRow_heap w b _ _ _ _ h, t.mono (fun j _ e => ?_)⟩
  simp at e
  exact e.symm
theorem pl_new (w : World) {u : PlK} (hu : u.ok) : ∃ w1 w2, (Instr.alloc 68 true (.tuple #[])).run Tryz.prog w = .ok (.pointer (some ⟨w.heap.size, 0, none⟩)) w1 ∧ (Instr.storeAt 68 (.pointer (some ⟨w.heap.size, 0, none⟩)) u.v).run Tryz.prog w1 = .ok () w2 ∧ RP.Bx w2 w.heap.size u ∧ Below w.heap.size w w2 := by
  obtain ⟨w1, e1, n1, b1⟩ := pl_box w
  obtain ⟨w2, e2, n2, t2⟩ := pl_put zPl_ok hu n1
  exact ⟨w1, w2, e1, e2, n2, b1.trans (t2.below b1.size (fun j e => by rw [e]; exact Nat.le_refl _))⟩
def RI : RowT IdK := ⟨IdK.c, IdK.ok, 33, 40, 59, 64, zId⟩
theorem RI_is : RI.Is := ⟨zId_ok, fun _ h => IdK.len h, IdK.one, Tryz.underlying64, by kernel_rfl, ⟨_, Tryz.underlying59, rfl⟩, by decide, by decide⟩
theorem id_newR (w : World) {u : IdK} (hu : u.ok) : ∃ w1 w2, (Instr.alloc 59 true (.tuple #[])).run Tryz.prog w = .ok (.pointer (some ⟨w.heap.size, 0, none⟩)) w1 ∧ (Instr.storeAt 59 (.pointer (some ⟨w.heap.size, 0, none⟩)) u.v).run Tryz.prog w1 = .ok () w2 ∧ w2.heap[w.heap.size]? = some (.cells u.c.toArray 59 (0, 0)) ∧ Below w.heap.size w w2 :=
  ⟨_, _, RowT.bx_zero RI_is w, RowT.bx_new RI_is w hu, heap_alloc_new _ _, (Below.refl _ _).alloc (Nat.le_refl _) _⟩
def atP (Ps : List PlK) (m : Int) : PlK := if m < 0 then zPl else (Ps[m.toNat]?).getD zPl
theorem atP_ok {Ps : List PlK} (h : ∀ x ∈ Ps, x.ok) (m : Int) : (atP Ps m).ok := by
  unfold atP
  split
  · exact zPl_ok
  · cases e : Ps[m.toNat]? with
    | none => exact zPl_ok
    | some x => exact h x (List.mem_of_getElem? e)
theorem build_pl (w : World) : (Instr.build 68 #[]).run Tryz.prog w = .ok zPl.v w := by kernel_rfl
theorem ix_pl {b o m c i : Nat} (hi : i < m) (hm : m ≤ 9223372036854775807) (W : World) : (Instr.indexAt 22 (.slice (some ⟨b, o, none⟩) m c) (.int .i64 (i : Int))).run Tryz.prog W = .ok (.pointer (some ⟨b, o + i * 67, none⟩)) W := by
  go_simp
theorem at_any {w : World} {a : Option Addr} {c : Nat} {Ps : List PlK} (hP : RowAt 67 PlK.c w a Ps) (ok : ∀ x ∈ Ps, x.ok) (hn : Ps.length ≤ 2000000000000) {m : Int} (hm : -9223372036854775808 ≤ m ∧ m ≤ 9223372036854775807) :
    Calls Tryz.prog 8 #[.slice a Ps.length c, .int .i64 m] w fun e w' => e = .returned (atP Ps m).v ∧ Below w.heap.size w w' := by
  obtain ⟨w1, e1, n1, b1⟩ := pl_box w
  have H1 := hidMk e1
  obtain ⟨u, hu⟩ : ∃ u, atP Ps m = u := ⟨_, rfl⟩
  have hok : u.ok := by rw [← hu]; exact atP_ok ok m
  obtain ⟨w2, e2, n2, t2⟩ := pl_put zPl_ok hok n1
  have b2 : Below w.heap.size w w2 := b1.trans (t2.below b1.size (fun j e => by rw [e]; exact Nat.le_refl _))
  have H2 := hidMk e2
  have HF := hidMk (And.intro n2 b2)
  rw [hu]
  obtain ⟨n, hnn⟩ : ∃ n, Ps.length = n := ⟨_, rfl⟩
  by_cases h0 : m < 0
  · have hz : u = zPl := by rw [← hu, atP, if_pos h0]
    subst hz
    rw [hnn]
    clear e1 n1 b1 e2 n2 t2 b2 hu hP hnn
    go_enter Tryz.func8, Tryz.ntmps8
    go_wp2_with (first
      | (refine wpList_run rfl (exec_alloc (w2 := w1) rfl H1.out) ?_)
      | (refine wpList_val rfl (exec_build0 rfl (build_pl _)) ?_)
      | (refine wpList_skip rfl rfl (exec_store (w2 := w2) rfl rfl rfl H2.out) ?_)
      | fail)
    refine bodyPost_ret (results_cell_row Tryz.results8 _ _ w.heap.size _ _ _ _ rfl HF.out.1 Tryz.underlying68 rfl (szP hok)) rfl ?_
    exact ⟨rfl, HF.out.2⟩
  · obtain ⟨k, rfl⟩ : ∃ k : Nat, m = (k : Int) := ⟨m.toNat, by omega⟩
    by_cases hk : k < n
    · obtain ⟨x, hx⟩ : ∃ x, Ps[k]? = some x := ⟨_, List.getElem?_eq_getElem (by omega)⟩
      have hz : u = x := by rw [← hu, atP, if_neg h0, Int.toNat_natCast, hx]; rfl
      subst hz
      obtain ⟨g, o, rfl, lg, hr⟩ : ∃ g o, a = some ⟨g, o, none⟩ ∧ g < w.heap.size ∧ w.rangeAt g (o + k * 67) u.c := by
        rcases hP with h | ⟨g, o, e, h1, h2⟩
        · rw [h] at hx; cases hx
        · exact ⟨g, o, e, h1, h2 k u hx⟩
      have HX := hidMk (ld_pl hok (rangeAt_keep hr (b1.block g lg)))
      have HI := hidMk (ix_pl (b := g) (o := o) (c := c) hk (by omega) w1)
      rw [hnn] at hn ⊢
      clear e1 n1 b1 e2 n2 t2 b2 hu hP hnn hr hx lg
      go_enter Tryz.func8, Tryz.ntmps8
      go_wp2_with (first
        | (refine wpList_run rfl (exec_alloc (w2 := w1) rfl H1.out) ?_)
        | (refine wpList_val rfl (exec_indexAt rfl rfl rfl HI.out) ?_)
        | (refine wpList_val rfl (exec_load rfl rfl HX.out) ?_)
        | (refine wpList_skip rfl rfl (exec_store (w2 := w2) rfl rfl rfl H2.out) ?_)
        | fail)
      refine bodyPost_ret (results_cell_row Tryz.results8 _ _ w.heap.size _ _ _ _ rfl HF.out.1 Tryz.underlying68 rfl (szP hok)) rfl ?_
      exact ⟨rfl, HF.out.2⟩
    · have hz : u = zPl := by rw [← hu, atP, if_neg h0, Int.toNat_natCast, List.getElem?_eq_none (by omega)]; rfl
      subst hz
      rw [hnn]
      clear e1 n1 b1 e2 n2 t2 b2 hu hP hnn
      go_enter Tryz.func8, Tryz.ntmps8
      go_wp2_with (first
        | (refine wpList_run rfl (exec_alloc (w2 := w1) rfl H1.out) ?_)
        | (refine wpList_val rfl (exec_build0 rfl (build_pl _)) ?_)
        | (refine wpList_skip rfl rfl (exec_store (w2 := w2) rfl rfl rfl H2.out) ?_)
        | fail)
      refine bodyPost_ret (results_cell_row Tryz.results8 _ _ w.heap.size _ _ _ _ rfl HF.out.1 Tryz.underlying68 rfl (szP hok)) rfl ?_
      exact ⟨rfl, HF.out.2⟩
theorem tells_live {w : World} {xb : Nat} {x : IdK} (hx : x.ok) (hb : w.heap[xb]? = some (.cells x.c.toArray 59 (0, 0))) : Tells w 20 #[.pointer (some ⟨xb, 0, none⟩)] (fun k => decide (k = x)) := by
  refine ⟨enters_of Tryz.func20 (by kernel_rfl) rfl, fun W bW k hk => ?_⟩
  obtain ⟨w1, E1, n1, b1⟩ := box_id W k
  have hW := (bW.block xb (Array.getElem?_eq_some_iff.1 hb).1).trans hb
  have h1 := (b1.block xb (Array.getElem?_eq_some_iff.1 hW).1).trans hW
  have H1 := hidMk E1
  have L1 := hidMk (load_id hk n1)
  have L2 := hidMk (load_id hx h1)
  have HB := hidMk b1
  have EQ := hidMk (eql_idR k x hk hx w1)
  clear E1 n1 b1 hW h1 bW hb
  show Calls Tryz.prog 20 #[k.v, .pointer (some ⟨xb, 0, none⟩)] W _
  go_enter Tryz.func20, Tryz.ntmps20
  go_wp2_with (first
    | (refine wpList_run rfl (exec_boxE (t := 59) (v := k.v) (u := .pointer (some ⟨W.heap.size, 0, none⟩)) (w2 := w1) rfl rfl H1.out) ?_)
    | (refine wpList_val rfl (exec_load (v := k.v) rfl rfl L1.out) ?_)
    | (refine wpList_val rfl (exec_load (v := x.v) rfl rfl L2.out) ?_)
    | (refine wpList_val rfl (exec_binOp rfl rfl rfl (guard_idR _ _ _ _ _ _) EQ.out) ?_)
    | fail)
  go_ret
  exact ⟨rfl, HB.out⟩
theorem fg_95_0 (b o : Nat) (w : World) : (Instr.fieldAt 95 (.pointer (some ⟨b, o, none⟩)) 0).run Tryz.prog w = .ok (.pointer (some ⟨b, o + 0, none⟩)) w := by go_simp
theorem fg_95_1 (b o : Nat) (w : World) : (Instr.fieldAt 95 (.pointer (some ⟨b, o, none⟩)) 1).run Tryz.prog w = .ok (.pointer (some ⟨b, o + 1, none⟩)) w := by go_simp
theorem fg_174_0 (b o : Nat) (w : World) : (Instr.fieldAt 174 (.pointer (some ⟨b, o, none⟩)) 0).run Tryz.prog w = .ok (.pointer (some ⟨b, o + 0, none⟩)) w := by go_simp
theorem fg_174_1 (b o : Nat) (w : World) : (Instr.fieldAt 174 (.pointer (some ⟨b, o, none⟩)) 1).run Tryz.prog w = .ok (.pointer (some ⟨b, o + 67, none⟩)) w := by go_simp
theorem ix_idR {b o m c i : Nat} (hi : i < m) (hm : m ≤ 9223372036854775807) (W : World) : (Instr.indexAt 64 (.slice (some ⟨b, o, none⟩) m c) (.int .i64 (i : Int))).run Tryz.prog W = .ok (.pointer (some ⟨b, o + 33 * i, none⟩)) W := by
  rw [Nat.mul_comm]
  go_simp
theorem ix_sl {b o m c i : Nat} (hi : i < m) (hm : m ≤ 9223372036854775807) (W : World) : (Instr.indexAt 92 (.slice (some ⟨b, o, none⟩) m c) (.int .i64 (i : Int))).run Tryz.prog W = .ok (.pointer (some ⟨b, o + 68 * i, none⟩)) W := by
  rw [Nat.mul_comm]
  go_simp
theorem ex_eqlX {w : World} {a : Act} {o : Oper} {x y : Operand} {p q : IdK} (hp : p.ok) (hq : q.ok) (ho : o.op = .binOp .eql 59 x y 59) (hx : a.eval x = p.v) (hy : a.eval y = q.v) : (execOp a.eval o).run Tryz.prog w = .ok (.value (.bool (decide (p = q)))) w := exec_binOp ho hx hy (guard_idR _ _ _ _ _ _) (eql_idR p q hp hq w)
theorem guard_plR (x y : Operand) (a b : PlK) (w : World) (op : BinOp) : (eqGuard op 68 x y a.v b.v).run Tryz.prog w = .ok () w := by
  unfold eqGuard
  cases op <;> simp [PlK.v]
theorem eql_plR (a b : PlK) (ha : a.ok) (hb : b.ok) (w : World) : (binOp .eql 68 a.v b.v).run Tryz.prog w = .ok (.bool (decide (a = b))) w := by
  have h := eqPl 9996 a b ha hb w
  have : (Op.equal 68 a.v b.v).run Tryz.prog w = .ok (decide (a = b)) w := h
  unfold PlK.v at *
  simp only [binOp]
  simp [this]
theorem ex_eqlP {w : World} {a : Act} {o : Oper} {x y : Operand} {p q : PlK} (hp : p.ok) (hq : q.ok) (ho : o.op = .binOp .eql 68 x y 68) (hx : a.eval x = p.v) (hy : a.eval y = q.v) : (execOp a.eval o).run Tryz.prog w = .ok (.value (.bool (decide (p = q)))) w := exec_binOp ho hx hy (guard_plR _ _ _ _ _ _) (eql_plR p q hp hq w)
theorem build_sl0 (w : World) (ea : Option Addr) (en ec : Nat) (a0 a1 a2 a3 a4 a5 a6 a7 a8 a9 a10 a11 a12 a13 a14 a15 a16 a17 a18 a19 a20 a21 a22 a23 a24 a25 a26 a27 a28 a29 a30 a31 a32 a33 a34 a35 a36 a37 a38 a39 a40 a41 a42 a43 a44 a45 a46 a47 a48 a49 a50 a51 a52 a53 a54 a55 a56 a57 a58 a59 a60 a61 a62 a63 a64 a65 a66 : Value) : (Instr.build 174 #[(0, .agg [a0, a1, a2, a3, a4, a5, a6, a7, a8, a9, a10, a11, a12, a13, a14, a15, a16, a17, a18, a19, a20, a21, a22, a23, a24, a25, a26, a27, a28, a29, a30, a31, a32, a33, a34, a35, a36, a37, a38, a39, a40, a41, a42, a43, a44, a45, a46, a47, a48, a49, a50, a51, a52, a53, a54, a55, a56, a57, a58, a59, a60, a61, a62, a63, a64, a65, a66].toArray), (1, .slice ea en ec)]).run Tryz.prog w = .ok (.agg ([a0, a1, a2, a3, a4, a5, a6, a7, a8, a9, a10, a11, a12, a13, a14, a15, a16, a17, a18, a19, a20, a21, a22, a23, a24, a25, a26, a27, a28, a29, a30, a31, a32, a33, a34, a35, a36, a37, a38, a39, a40, a41, a42, a43, a44, a45, a46, a47, a48, a49, a50, a51, a52, a53, a54, a55, a56, a57, a58, a59, a60, a61, a62, a63, a64, a65, a66] ++ [Value.slice ea en ec]).toArray) w := by kernel_rfl
theorem build_sl (w : World) {p : PlK} (hp : p.ok) (ea : Option Addr) (en ec : Nat) : (Instr.build 174 #[(0, p.v), (1, .slice ea en ec)]).run Tryz.prog w = .ok (.agg (p.c ++ [Value.slice ea en ec]).toArray) w := by
  have h := PlK.len hp
  unfold PlK.v
  generalize p.c = l at *
  match l, h with
  | a0 :: a1 :: a2 :: a3 :: a4 :: a5 :: a6 :: a7 :: a8 :: a9 :: a10 :: a11 :: a12 :: a13 :: a14 :: a15 :: a16 :: a17 :: a18 :: a19 :: a20 :: a21 :: a22 :: a23 :: a24 :: a25 :: a26 :: a27 :: a28 :: a29 :: a30 :: a31 :: a32 :: a33 :: a34 :: a35 :: a36 :: a37 :: a38 :: a39 :: a40 :: a41 :: a42 :: a43 :: a44 :: a45 :: a46 :: a47 :: a48 :: a49 :: a50 :: a51 :: a52 :: a53 :: a54 :: a55 :: a56 :: a57 :: a58 :: a59 :: a60 :: a61 :: a62 :: a63 :: a64 :: a65 :: a66 :: [], _ => exact build_sl0 w ea en ec a0 a1 a2 a3 a4 a5 a6 a7 a8 a9 a10 a11 a12 a13 a14 a15 a16 a17 a18 a19 a20 a21 a22 a23 a24 a25 a26 a27 a28 a29 a30 a31 a32 a33 a34 a35 a36 a37 a38 a39 a40 a41 a42 a43 a44 a45 a46 a47 a48 a49 a50 a51 a52 a53 a54 a55 a56 a57 a58 a59 a60 a61 a62 a63 a64 a65 a66
theorem exec_bsl {w : World} {a : Act} {o : Oper} {x y : Operand} {p : PlK} {ea : Option Addr} {en ec : Nat} (hp : p.ok) (ho : o.op = .build 174 #[(0, x), (1, y)]) (hx : a.eval x = p.v) (hy : a.eval y = .slice ea en ec) : (execOp a.eval o).run Tryz.prog w = .ok (.value (.agg (p.c ++ [Value.slice ea en ec]).toArray)) w :=
  exec_build ho (by simp [hx, hy]) (build_sl w hp ea en ec)
def saw4_o0 : Oper := ⟨some 12, .move (.tmp 0), 64, "ref.go:46", #[], none⟩
def saw4_o1 : Oper := ⟨some 13, .move (.tmp 5), 3, "ref.go:46", #[], none⟩
def saw4_o2 : Oper := ⟨some 14, .indexAddr 64 (.tmp 12) (.tmp 13), 0, "ref.go:46", #[⟨0, .data⟩, ⟨1, .data⟩], none⟩
def saw4_o3 : Oper := ⟨some 15, .load 59 (.tmp 14), 59, "ref.go:46", #[⟨2, .data⟩], none⟩
def saw4_o4 : Oper := ⟨some 16, .load 59 (.tmp 3), 59, "ref.go:46", #[], none⟩
def saw4_o5 : Oper := ⟨some 17, .binOp BinOp.eql 59 (.tmp 15) (.tmp 16) 59, 4, "ref.go:46", #[⟨3, .data⟩, ⟨4, .data⟩], none⟩
def saw4_ops : Array Oper := #[saw4_o0, saw4_o1, saw4_o2, saw4_o3, saw4_o4, saw4_o5]
theorem saw4 {g o n c i xb : Nat} {x y : IdK} (a : Act) (w : World) (Q : Exit → Act → World → Prop) (zz : a.tmps.size = 18)
    (t0 : a.tmps.getD 0 undef = .slice (some ⟨g, o, none⟩) n c)
    (t3 : a.tmps.getD 3 undef = .pointer (some ⟨xb, 0, none⟩))
    (t5 : a.tmps.getD 5 undef = .int .i64 (i : Int))
    (hx : x.ok) (hy : y.ok) (hi : i < n) (hm : n ≤ 9223372036854775807) (L1 : ∀ W, W = w.drew → (Instr.loadAt 59 (.pointer (some ⟨g, o + 33 * i, none⟩))).run Tryz.prog W = .ok (x.v) W) (L2 : ∀ W, W = w.drew → (Instr.loadAt 59 (.pointer (some ⟨xb, 0, none⟩))).run Tryz.prog W = .ok (y.v) W)
    (h : ∀ (a' : Act) (w' : World), w' = w.drew → a' = ((((((a).put (some 12) (.slice (some ⟨g, o, none⟩) n c)).put (some 13) (.int .i64 (i : Int))).put (some 14) (.pointer (some ⟨g, o + 33 * i, none⟩))).put (some 15) (x.v)).put (some 16) (y.v)).put (some 17) (.bool (decide (x = y))) → Q .normal a' w') :
    (Code.region 4 saw4_ops true).wp Tryz.prog Q a w := by
  refine y0 (fun w' => w' = w.drew) (rfl) (fun hHeld => ?_)
  refine yv 0 rfl rfl (fun w1 hw => exec_move rfl (zi t0 rfl)) hHeld ?_
  refine yv 1 rfl rfl (fun w1 hw => exec_move rfl (zi t5 rfl)) hHeld ?_
  refine yv 2 rfl rfl (fun w1 hw => exec_indexAt rfl (zg zz rfl) (zg zz rfl) (ix_idR hi hm _)) hHeld ?_
  refine yv 3 rfl rfl (fun w1 hw => exec_load rfl (zg zz rfl) (L1 _ hw)) hHeld ?_
  refine yv 4 rfl rfl (fun w1 hw => exec_load rfl (zi t3 rfl) (L2 _ hw)) hHeld ?_
  refine yv (v := .bool (decide (x = y))) 5 rfl rfl (fun w1 hw => ex_eqlX hx hy rfl (zg zz rfl) (zg zz rfl)) hHeld ?_
  exact ye rfl (h _ _ (hHeld) rfl)
def fnd4_o0 : Oper := ⟨some 19, .move (.tmp 0), 28, "ref.go:56", #[], none⟩
def fnd4_o1 : Oper := ⟨some 20, .nilCheck (.tmp 19), 0, "ref.go:56", #[⟨0, .data⟩], none⟩
def fnd4_o2 : Oper := ⟨some 21, .fieldAddr 95 (.tmp 20) 0, 0, "ref.go:56", #[⟨1, .data⟩], none⟩
def fnd4_o3 : Oper := ⟨some 22, .load 92 (.tmp 21), 92, "ref.go:56", #[⟨2, .data⟩], none⟩
def fnd4_o4 : Oper := ⟨some 23, .move (.tmp 5), 3, "ref.go:56", #[], none⟩
def fnd4_o5 : Oper := ⟨some 24, .indexAddr 92 (.tmp 22) (.tmp 23), 0, "ref.go:56", #[⟨3, .data⟩, ⟨4, .data⟩], none⟩
def fnd4_o6 : Oper := ⟨some 25, .fieldAddr 174 (.tmp 24) 0, 0, "ref.go:56", #[⟨5, .data⟩], none⟩
def fnd4_o7 : Oper := ⟨some 26, .load 68 (.tmp 25), 68, "ref.go:56", #[⟨6, .data⟩], none⟩
def fnd4_o8 : Oper := ⟨some 27, .load 68 (.tmp 3), 68, "ref.go:56", #[], none⟩
def fnd4_o9 : Oper := ⟨some 28, .binOp BinOp.eql 68 (.tmp 26) (.tmp 27) 68, 4, "ref.go:56", #[⟨7, .data⟩, ⟨8, .data⟩], none⟩
def fnd4_ops : Array Oper := #[fnd4_o0, fnd4_o1, fnd4_o2, fnd4_o3, fnd4_o4, fnd4_o5, fnd4_o6, fnd4_o7, fnd4_o8, fnd4_o9]
theorem fnd4 {d g o n c i pb : Nat} {x p : PlK} (a : Act) (w : World) (Q : Exit → Act → World → Prop) (zz : a.tmps.size = 30)
    (t0 : a.tmps.getD 0 undef = .pointer (some ⟨d, 0, none⟩))
    (t3 : a.tmps.getD 3 undef = .pointer (some ⟨pb, 0, none⟩))
    (t5 : a.tmps.getD 5 undef = .int .i64 (i : Int))
    (hx : x.ok) (hp : p.ok) (hi : i < n) (hm : n ≤ 9223372036854775807) (L1 : ∀ W, W = w.drew → (Instr.loadAt 92 (.pointer (some ⟨d, 0 + 0, none⟩))).run Tryz.prog W = .ok (.slice (some ⟨g, o, none⟩) n c) W) (L2 : ∀ W, W = w.drew → (Instr.loadAt 68 (.pointer (some ⟨g, o + 68 * i + 0, none⟩))).run Tryz.prog W = .ok (x.v) W) (L3 : ∀ W, W = w.drew → (Instr.loadAt 68 (.pointer (some ⟨pb, 0, none⟩))).run Tryz.prog W = .ok (p.v) W)
    (h : ∀ (a' : Act) (w' : World), w' = w.drew → a' = ((((((((((a).put (some 19) (.pointer (some ⟨d, 0, none⟩))).put (some 20) (.pointer (some ⟨d, 0, none⟩))).put (some 21) (.pointer (some ⟨d, 0 + 0, none⟩))).put (some 22) (.slice (some ⟨g, o, none⟩) n c)).put (some 23) (.int .i64 (i : Int))).put (some 24) (.pointer (some ⟨g, o + 68 * i, none⟩))).put (some 25) (.pointer (some ⟨g, o + 68 * i + 0, none⟩))).put (some 26) (x.v)).put (some 27) (p.v)).put (some 28) (.bool (decide (x = p))) → Q .normal a' w') :
    (Code.region 4 fnd4_ops true).wp Tryz.prog Q a w := by
  refine y0 (fun w' => w' = w.drew) (rfl) (fun hHeld => ?_)
  refine yv 0 rfl rfl (fun w1 hw => exec_move rfl (zi t0 rfl)) hHeld ?_
  refine yv 1 rfl rfl (fun w1 hw => exec_nilCheck rfl (zg zz rfl)) hHeld ?_
  refine yv 2 rfl rfl (fun w1 hw => exec_fieldAt rfl (zg zz rfl) (fg_95_0 _ _ _)) hHeld ?_
  refine yv 3 rfl rfl (fun w1 hw => exec_load rfl (zg zz rfl) (L1 _ hw)) hHeld ?_
  refine yv 4 rfl rfl (fun w1 hw => exec_move rfl (zi t5 rfl)) hHeld ?_
  refine yv 5 rfl rfl (fun w1 hw => exec_indexAt rfl (zg zz rfl) (zg zz rfl) (ix_sl hi hm _)) hHeld ?_
  refine yv 6 rfl rfl (fun w1 hw => exec_fieldAt rfl (zg zz rfl) (fg_174_0 _ _ _)) hHeld ?_
  refine yv 7 rfl rfl (fun w1 hw => exec_load rfl (zg zz rfl) (L2 _ hw)) hHeld ?_
  refine yv 8 rfl rfl (fun w1 hw => exec_load rfl (zi t3 rfl) (L3 _ hw)) hHeld ?_
  refine yv (v := .bool (decide (x = p))) 9 rfl rfl (fun w1 hw => ex_eqlP hx hp rfl (zg zz rfl) (zg zz rfl)) hHeld ?_
  exact ye rfl (h _ _ (hHeld) rfl)
def cpy5_o0 : Oper := ⟨some 11, .move (.tmp 3), 92, "ref.go:27", #[], none⟩
def cpy5_o1 : Oper := ⟨some 12, .move (.tmp 0), 92, "ref.go:27", #[], none⟩
def cpy5_o2 : Oper := ⟨some 13, .move (.tmp 4), 3, "ref.go:27", #[], none⟩
def cpy5_o3 : Oper := ⟨some 14, .indexAddr 92 (.tmp 12) (.tmp 13), 0, "ref.go:27", #[⟨1, .data⟩, ⟨2, .data⟩], none⟩
def cpy5_o4 : Oper := ⟨some 15, .fieldAddr 174 (.tmp 14) 0, 0, "ref.go:27", #[⟨3, .data⟩], none⟩
def cpy5_o5 : Oper := ⟨some 16, .load 68 (.tmp 15), 68, "ref.go:27", #[⟨4, .data⟩], none⟩
def cpy5_o6 : Oper := ⟨some 17, .buildSlice 71 0 #[], 71, "ref.go:27", #[], none⟩
def cpy5_o7 : Oper := ⟨some 18, .move (.tmp 0), 92, "ref.go:27", #[], none⟩
def cpy5_o8 : Oper := ⟨some 19, .move (.tmp 4), 3, "ref.go:27", #[], none⟩
def cpy5_o9 : Oper := ⟨some 20, .indexAddr 92 (.tmp 18) (.tmp 19), 0, "ref.go:27", #[⟨7, .data⟩, ⟨8, .data⟩], none⟩
def cpy5_o10 : Oper := ⟨some 21, .fieldAddr 174 (.tmp 20) 1, 0, "ref.go:27", #[⟨9, .data⟩], none⟩
def cpy5_o11 : Oper := ⟨some 22, .load 71 (.tmp 21), 71, "ref.go:27", #[⟨10, .data⟩], none⟩
def cpy5_o12 : Oper := ⟨some 23, .call { callee := Callee.builtin Builtin.append, args := #[.tmp 17, .tmp 22], argTypes := #[71, 71] }, 71, "ref.go:27", #[⟨6, .data⟩, ⟨11, .data⟩], none⟩
def cpy5_o13 : Oper := ⟨some 24, .build 174 #[(0, .tmp 16), (1, .tmp 23)], 174, "ref.go:27", #[⟨5, .data⟩, ⟨12, .data⟩], none⟩
def cpy5_o14 : Oper := ⟨some 25, .buildSlice 92 1 #[(0, .tmp 24)], 92, "ref.go:27", #[⟨13, .data⟩], none⟩
def cpy5_o15 : Oper := ⟨some 26, .call { callee := Callee.builtin Builtin.append, args := #[.tmp 11, .tmp 25], argTypes := #[92, 92] }, 92, "ref.go:27", #[⟨0, .data⟩, ⟨14, .data⟩, ⟨12, .chain⟩], none⟩
def cpy5_o16 : Oper := ⟨some 3, .assign (.tmp 26), 92, "ref.go:27", #[⟨15, .data⟩, ⟨15, .chain⟩, ⟨0, .phase⟩, ⟨1, .phase⟩, ⟨2, .phase⟩, ⟨3, .phase⟩, ⟨4, .phase⟩, ⟨5, .phase⟩, ⟨6, .phase⟩, ⟨7, .phase⟩, ⟨8, .phase⟩, ⟨9, .phase⟩, ⟨10, .phase⟩, ⟨11, .phase⟩, ⟨12, .phase⟩, ⟨13, .phase⟩, ⟨14, .phase⟩, ⟨15, .phase⟩], none⟩
def cpy5_ops : Array Oper := #[cpy5_o0, cpy5_o1, cpy5_o2, cpy5_o3, cpy5_o4, cpy5_o5, cpy5_o6, cpy5_o7, cpy5_o8, cpy5_o9, cpy5_o10, cpy5_o11, cpy5_o12, cpy5_o13, cpy5_o14, cpy5_o15, cpy5_o16]
theorem cpy5 {g o n c i en ec : Nat} {ea : Option Addr} {p : PlK} {lv ov e0 bv ov2 : Value} {w1 w2 w3 w4 : World} (S : World → Prop) (a : Act) (w : World) (Q : Exit → Act → World → Prop) (zz : a.tmps.size = 28)
    (t0 : a.tmps.getD 0 undef = .slice (some ⟨g, o, none⟩) n c)
    (t3 : a.tmps.getD 3 undef = ov)
    (t4 : a.tmps.getD 4 undef = .int .i64 (i : Int))
    (hp : p.ok) (hi : i < n) (hm : n ≤ 9223372036854775807) (h0 : S w.drew) (L1 : ∀ W, S W → (Instr.loadAt 68 (.pointer (some ⟨g, o + 68 * i + 0, none⟩))).run Tryz.prog W = .ok (p.v) W) (L2 : ∀ W, S W → (Instr.loadAt 71 (.pointer (some ⟨g, o + 68 * i + 67, none⟩))).run Tryz.prog W = .ok (lv) W) (E1 : (Instr.buildSlice 71 0 #[]).run Tryz.prog w.drew = .ok e0 w1) (S1 : S w1) (E2 : (Builtin.append_ #[71, 71] 71 #[e0, lv]).run Tryz.prog w1 = .ok (.slice ea en ec) w2) (S2 : S w2) (E3 : (Instr.buildSlice 92 1 #[(0, .agg (p.c ++ [Value.slice ea en ec]).toArray)]).run Tryz.prog w2 = .ok bv w3) (S3 : S w3) (E4 : (Builtin.append_ #[92, 92] 92 #[ov, bv]).run Tryz.prog w3 = .ok ov2 w4) (S4 : S w4)
    (h : ∀ (a' : Act) (w' : World), w' = w4 → a' = (((((((((((((((((a).put (some 11) (ov)).put (some 12) (.slice (some ⟨g, o, none⟩) n c)).put (some 13) (.int .i64 (i : Int))).put (some 14) (.pointer (some ⟨g, o + 68 * i, none⟩))).put (some 15) (.pointer (some ⟨g, o + 68 * i + 0, none⟩))).put (some 16) (p.v)).put (some 18) (.slice (some ⟨g, o, none⟩) n c)).put (some 19) (.int .i64 (i : Int))).put (some 20) (.pointer (some ⟨g, o + 68 * i, none⟩))).put (some 21) (.pointer (some ⟨g, o + 68 * i + 67, none⟩))).put (some 22) (lv)).put (some 17) (e0)).put (some 23) (.slice ea en ec)).put (some 24) (.agg (p.c ++ [Value.slice ea en ec]).toArray)).put (some 25) (bv)).put (some 26) (ov2)).put (some 3) (ov2) → Q .normal a' w') :
    (Code.region 5 cpy5_ops true).wp Tryz.prog Q a w := by
  refine y0 (fun w' => S w') (h0) (fun hHeld => ?_)
  refine yv 0 rfl rfl (fun w1 hw => exec_move rfl (zi t3 rfl)) hHeld ?_
  refine yv 1 rfl rfl (fun w1 hw => exec_move rfl (zi t0 rfl)) hHeld ?_
  refine yv 2 rfl rfl (fun w1 hw => exec_move rfl (zi t4 rfl)) hHeld ?_
  refine yv 3 rfl rfl (fun w1 hw => exec_indexAt rfl (zg zz rfl) (zg zz rfl) (ix_sl hi hm _)) hHeld ?_
  refine yv 4 rfl rfl (fun w1 hw => exec_fieldAt rfl (zg zz rfl) (fg_174_0 _ _ _)) hHeld ?_
  refine yv 5 rfl rfl (fun w1 hw => exec_load rfl (zg zz rfl) (L1 _ hw)) hHeld ?_
  refine yv 7 rfl rfl (fun w1 hw => exec_move rfl (zi t0 rfl)) hHeld ?_
  refine yv 8 rfl rfl (fun w1 hw => exec_move rfl (zi t4 rfl)) hHeld ?_
  refine yv 9 rfl rfl (fun w1 hw => exec_indexAt rfl (zg zz rfl) (zg zz rfl) (ix_sl hi hm _)) hHeld ?_
  refine yv 10 rfl rfl (fun w1 hw => exec_fieldAt rfl (zg zz rfl) (fg_174_1 _ _ _)) hHeld ?_
  refine yv 11 rfl rfl (fun w1 hw => exec_load rfl (zg zz rfl) (L2 _ hw)) hHeld ?_
  refine yr (v := e0) 6 rfl rfl (exec_bs0 rfl E1) (S1) (fun hHeld => ?_)
  refine yr (v := .slice ea en ec) 12 rfl rfl (exec_append rfl (zg zz rfl) (zg zz rfl) E2) (S2) (fun hHeld => ?_)
  refine yv (v := .agg (p.c ++ [Value.slice ea en ec]).toArray) 13 rfl rfl (fun w1 hw => exec_bsl hp rfl (zg zz rfl) (zg zz rfl)) hHeld ?_
  refine yr (v := bv) 14 rfl rfl (exec_buildSlice rfl (zg zz rfl) E3) (S3) (fun hHeld => ?_)
  refine yr (v := ov2) 15 rfl rfl (exec_append rfl (zg zz rfl) (zg zz rfl) E4) (S4) (fun hHeld => ?_)
  refine yv 16 rfl rfl (fun w1 hw => exec_assign rfl (zg zz rfl)) hHeld ?_
  exact ye rfl (h _ _ (rfl) rfl)
theorem ex_neb {w : World} {a : Act} {o : Oper} {x y : Operand} {r : Bool} (ho : o.op = .binOp .neq 4 x y 4) (hx : a.eval x = .bool r) (hy : a.eval y = .bool r) : (execOp a.eval o).run Tryz.prog w = .ok (.value (.bool false)) w := by
  refine exec_binOp ho hx hy ?_ ?_
  · unfold eqGuard; simp
  · cases r <;> kernel_rfl
theorem fg_66_0 (b o : Nat) (w : World) : (Instr.fieldAt 66 (.pointer (some ⟨b, o, none⟩)) 0).run Tryz.prog w = .ok (.pointer (some ⟨b, o + 0, none⟩)) w := by go_simp
theorem fg_66_1 (b o : Nat) (w : World) : (Instr.fieldAt 66 (.pointer (some ⟨b, o, none⟩)) 1).run Tryz.prog w = .ok (.pointer (some ⟨b, o + 1, none⟩)) w := by go_simp
theorem fg_66_2 (b o : Nat) (w : World) : (Instr.fieldAt 66 (.pointer (some ⟨b, o, none⟩)) 2).run Tryz.prog w = .ok (.pointer (some ⟨b, o + 2, none⟩)) w := by go_simp
theorem fg_66_3 (b o : Nat) (w : World) : (Instr.fieldAt 66 (.pointer (some ⟨b, o, none⟩)) 3).run Tryz.prog w = .ok (.pointer (some ⟨b, o + 35, none⟩)) w := by go_simp
theorem fg_66_4 (b o : Nat) (w : World) : (Instr.fieldAt 66 (.pointer (some ⟨b, o, none⟩)) 4).run Tryz.prog w = .ok (.pointer (some ⟨b, o + 39, none⟩)) w := by go_simp
theorem fg_66_5 (b o : Nat) (w : World) : (Instr.fieldAt 66 (.pointer (some ⟨b, o, none⟩)) 5).run Tryz.prog w = .ok (.pointer (some ⟨b, o + 40, none⟩)) w := by go_simp
theorem fg_66_6 (b o : Nat) (w : World) : (Instr.fieldAt 66 (.pointer (some ⟨b, o, none⟩)) 6).run Tryz.prog w = .ok (.pointer (some ⟨b, o + 41, none⟩)) w := by go_simp
theorem ix_opR {b o m c i : Nat} (hi : i < m) (hm : m ≤ 9223372036854775807) (W : World) : (Instr.indexAt 23 (.slice (some ⟨b, o, none⟩) m c) (.int .i64 (i : Int))).run Tryz.prog W = .ok (.pointer (some ⟨b, o + 42 * i, none⟩)) W := by
  rw [Nat.mul_comm]
  go_simp
theorem fg_33_0 (b o : Nat) (w : World) : (Instr.fieldAt 33 (.pointer (some ⟨b, o, none⟩)) 0).run Tryz.prog w = .ok (.pointer (some ⟨b, o + 0, none⟩)) w := by go_simp
theorem fg_33_1 (b o : Nat) (w : World) : (Instr.fieldAt 33 (.pointer (some ⟨b, o, none⟩)) 1).run Tryz.prog w = .ok (.pointer (some ⟨b, o + 1, none⟩)) w := by go_simp
theorem fg_33_2 (b o : Nat) (w : World) : (Instr.fieldAt 33 (.pointer (some ⟨b, o, none⟩)) 2).run Tryz.prog w = .ok (.pointer (some ⟨b, o + 2, none⟩)) w := by go_simp
theorem fg_33_3 (b o : Nat) (w : World) : (Instr.fieldAt 33 (.pointer (some ⟨b, o, none⟩)) 3).run Tryz.prog w = .ok (.pointer (some ⟨b, o + 3, none⟩)) w := by go_simp
theorem ix_bkl {b o m c i : Nat} (hi : i < m) (hm : m ≤ 9223372036854775807) (W : World) : (Instr.indexAt 30 (.slice (some ⟨b, o, none⟩) m c) (.int .i64 (i : Int))).run Tryz.prog W = .ok (.pointer (some ⟨b, o + i, none⟩)) W := by go_simp
theorem ix_inl {b o m c i : Nat} (hi : i < m) (hm : m ≤ 9223372036854775807) (W : World) : (Instr.indexAt 31 (.slice (some ⟨b, o, none⟩) m c) (.int .i64 (i : Int))).run Tryz.prog W = .ok (.pointer (some ⟨b, o + i, none⟩)) W := by go_simp
theorem ex_gti {w : World} {a : Act} {o : Oper} {x y : Operand} {z : Int} {r : Bool} (hr : decide (z > 0) = r) (ho : o.op = .binOp .gtr 3 x y 3) (hx : a.eval x = .int .i64 z) (hy : a.eval y = .int .i64 0) : (execOp a.eval o).run Tryz.prog w = .ok (.value (.bool r)) w := by
  subst hr
  refine exec_binOp ho hx hy ?_ ?_
  · kernel_rfl
  · go_simp
theorem ex_eqi {w : World} {a : Act} {o : Oper} {x y : Operand} {z u : Int} {r : Bool} (hr : (z == u) = r) (ho : o.op = .binOp .eql 3 x y 3) (hx : a.eval x = .int .i64 z) (hy : a.eval y = .int .i64 u) : (execOp a.eval o).run Tryz.prog w = .ok (.value (.bool r)) w := by
  subst hr
  refine exec_binOp ho hx hy ?_ ?_
  · kernel_rfl
  · go_simp
def _root_.Go.Proofs.YtldlljobofnmmaaGreatDoor.OpR.a (o : OpR) : Value := .agg o.c.toArray
def alk6_o0 : Oper := ⟨some 24, .move (.tmp 2), 22, "law.go:115", #[], none⟩
def alk6_o1 : Oper := ⟨some 25, .move (.tmp 7), 3, "law.go:115", #[], none⟩
def alk6_o2 : Oper := ⟨some 26, .call { callee := Callee.value (Operand.func 8), args := #[.tmp 24, .tmp 25], argTypes := #[22, 3] }, 68, "law.go:115", #[⟨0, .data⟩, ⟨1, .data⟩], none⟩
def alk6_o3 : Oper := ⟨some 8, .alloc 68, 0, "law.go:115", #[], none⟩
def alk6_o4 : Oper := ⟨none, .store 68 (.tmp 8) (.tmp 26), 0, "law.go:115", #[⟨3, .data⟩, ⟨2, .data⟩, ⟨2, .chain⟩, ⟨0, .phase⟩, ⟨1, .phase⟩, ⟨2, .phase⟩, ⟨3, .phase⟩], none⟩
def alk6_ops : Array Oper := #[alk6_o0, alk6_o1, alk6_o2, alk6_o3, alk6_o4]
theorem alk6 {m pn pc : Nat} {pa : Option Addr} {p : PlK} (Fin : Nat → World → Prop) (a : Act) (w : World) (Q : Exit → Act → World → Prop) (zz : a.tmps.size = 77)
    (t2 : a.tmps.getD 2 undef = .slice pa pn pc)
    (t7 : a.tmps.getD 7 undef = .int .i64 (m : Int))
    (CA : Calls Tryz.prog 8 #[.slice pa pn pc, .int .i64 (m : Int)] w fun e w' => e = .returned p.v ∧ ∃ pb w1 w2, (Instr.alloc 68 true (.tuple #[])).run Tryz.prog w' = .ok (.pointer (some ⟨pb, 0, none⟩)) w1 ∧ (Instr.storeAt 68 (.pointer (some ⟨pb, 0, none⟩)) p.v).run Tryz.prog w1 = .ok () w2 ∧ Fin pb w2)
    (h : ∀ (pb : Nat) (a' : Act) (w' : World), Fin pb w' → a' = ((((a).put (some 24) (.slice pa pn pc)).put (some 25) (.int .i64 (m : Int))).put (some 26) (p.v)).put (some 8) (.pointer (some ⟨pb, 0, none⟩)) → Q .normal a' w') :
    (Code.region 6 alk6_ops false).wp Tryz.prog Q a w := by
  refine z0 rfl ?_
  refine zv rfl (exec_move rfl (zi t2 rfl)) ?_
  refine zv rfl (exec_move rfl (zi t7 rfl)) ?_
  refine zc rfl (exec_c2 rfl (zg zz rfl) (zg zz rfl)) (CA) (fun e x2 hx => ?_)
  obtain ⟨rfl, pb, w1, w2, EA, ES, HF⟩ := hx
  replace h := h pb
  refine ⟨_, rfl, ?_⟩
  refine zv (v := .pointer (some ⟨pb, 0, none⟩)) rfl (exec_alloc rfl EA) ?_
  refine zs rfl (exec_store rfl (zg zz rfl) (zg zz rfl) ES) ?_
  exact ze rfl (h _ _ (HF) rfl)
def alk7_o0 : Oper := ⟨some 27, .move (.tmp 0), 26, "law.go:116", #[], none⟩
def alk7_o1 : Oper := ⟨some 28, .load 68 (.tmp 8), 68, "law.go:116", #[], none⟩
def alk7_o2 : Oper := ⟨some 29, .call { callee := Callee.value (Operand.func 10), args := #[.tmp 27, .tmp 28], argTypes := #[26, 68] }, 71, "law.go:116", #[⟨0, .data⟩, ⟨1, .data⟩], none⟩
def alk7_o3 : Oper := ⟨some 30, .move (.tmp 1), 28, "law.go:116", #[], none⟩
def alk7_o4 : Oper := ⟨some 31, .load 68 (.tmp 8), 68, "law.go:116", #[], none⟩
def alk7_o5 : Oper := ⟨some 32, .call { callee := Callee.value (Operand.func 52), args := #[.tmp 30, .tmp 31], argTypes := #[28, 68] }, 71, "law.go:116", #[⟨3, .data⟩, ⟨4, .data⟩, ⟨2, .chain⟩], none⟩
def alk7_o6 : Oper := ⟨some 33, .call { callee := Callee.value (Operand.func 51), args := #[.tmp 29, .tmp 32], argTypes := #[71, 71] }, 4, "law.go:116", #[⟨2, .data⟩, ⟨5, .data⟩, ⟨5, .chain⟩], none⟩
def alk7_o7 : Oper := ⟨some 34, .unOp UnOp.not 4 (.tmp 33), 4, "law.go:116", #[⟨6, .data⟩], none⟩
def alk7_o8 : Oper := ⟨some 35, .move (.tmp 34), 4, "law.go:116", #[⟨7, .data⟩, ⟨6, .chain⟩], none⟩
def alk7_o9 : Oper := ⟨some 36, .move (.tmp 0), 26, "law.go:116", #[⟨8, .guard⟩], some (8, false)⟩
def alk7_o10 : Oper := ⟨some 37, .fieldAddr 68 (.tmp 8) 0, 0, "law.go:116", #[⟨8, .guard⟩], some (8, false)⟩
def alk7_o11 : Oper := ⟨some 38, .load 59 (.tmp 37), 59, "law.go:116", #[⟨10, .data⟩, ⟨8, .guard⟩], some (8, false)⟩
def alk7_o12 : Oper := ⟨some 39, .call { callee := Callee.value (Operand.func 12), args := #[.tmp 36, .tmp 38], argTypes := #[26, 59] }, 74, "law.go:116", #[⟨9, .data⟩, ⟨11, .data⟩, ⟨8, .chain⟩, ⟨8, .guard⟩], some (8, false)⟩
def alk7_o13 : Oper := ⟨some 40, .move (.tmp 1), 28, "law.go:116", #[⟨8, .guard⟩], some (8, false)⟩
def alk7_o14 : Oper := ⟨some 41, .fieldAddr 68 (.tmp 8) 0, 0, "law.go:116", #[⟨8, .guard⟩], some (8, false)⟩
def alk7_o15 : Oper := ⟨some 42, .load 59 (.tmp 41), 59, "law.go:116", #[⟨14, .data⟩, ⟨8, .guard⟩], some (8, false)⟩
def alk7_o16 : Oper := ⟨some 43, .call { callee := Callee.value (Operand.func 54), args := #[.tmp 40, .tmp 42], argTypes := #[28, 59] }, 74, "law.go:116", #[⟨13, .data⟩, ⟨15, .data⟩, ⟨12, .chain⟩, ⟨8, .guard⟩], some (8, false)⟩
def alk7_o17 : Oper := ⟨some 44, .call { callee := Callee.value (Operand.func 53), args := #[.tmp 39, .tmp 43], argTypes := #[74, 74] }, 4, "law.go:116", #[⟨12, .data⟩, ⟨16, .data⟩, ⟨16, .chain⟩, ⟨8, .guard⟩], some (8, false)⟩
def alk7_o18 : Oper := ⟨some 45, .unOp UnOp.not 4 (.tmp 44), 4, "law.go:116", #[⟨17, .data⟩, ⟨8, .guard⟩], some (8, false)⟩
def alk7_o19 : Oper := ⟨some 46, .pick (.tmp 35) (Operand.const (Value.bool true)) (.tmp 45), 4, "law.go:116", #[⟨8, .data⟩, ⟨18, .data⟩], none⟩
def alk7_ops : Array Oper := #[alk7_o0, alk7_o1, alk7_o2, alk7_o3, alk7_o4, alk7_o5, alk7_o6, alk7_o7, alk7_o8, alk7_o9, alk7_o10, alk7_o11, alk7_o12, alk7_o13, alk7_o14, alk7_o15, alk7_o16, alk7_o17, alk7_o18, alk7_o19]
theorem alk7 {rb d pb : Nat} {p : PlK} (S : World → Prop) (a : Act) (w : World) (Q : Exit → Act → World → Prop) (zz : a.tmps.size = 77)
    (t0 : a.tmps.getD 0 undef = .pointer (some ⟨rb, 0, none⟩))
    (t1 : a.tmps.getD 1 undef = .pointer (some ⟨d, 0, none⟩))
    (t8 : a.tmps.getD 8 undef = .pointer (some ⟨pb, 0, none⟩))
    (h0 : S w.drew) (LP : ∀ W, S W → (Instr.loadAt 68 (.pointer (some ⟨pb, 0, none⟩))).run Tryz.prog W = .ok (p.v) W) (LO : ∀ W, S W → (Instr.loadAt 59 (.pointer (some ⟨pb, 0 + 0, none⟩))).run Tryz.prog W = .ok (p.o.v) W) (C1 : Calls Tryz.prog 10 #[.pointer (some ⟨rb, 0, none⟩), p.v] w.drew fun e w1 => ∃ u1, e = .returned u1 ∧ S w1 ∧ Calls Tryz.prog 52 #[.pointer (some ⟨d, 0, none⟩), p.v] w1 fun e w2 => ∃ u2, e = .returned u2 ∧ S w2 ∧ Calls Tryz.prog 51 #[u1, u2] w2 fun e w3 => e = .returned (.bool true) ∧ S w3 ∧ Calls Tryz.prog 12 #[.pointer (some ⟨rb, 0, none⟩), p.o.v] w3 fun e w4 => ∃ u4, e = .returned u4 ∧ S w4 ∧ Calls Tryz.prog 54 #[.pointer (some ⟨d, 0, none⟩), p.o.v] w4 fun e w5 => ∃ u5, e = .returned u5 ∧ S w5 ∧ Calls Tryz.prog 53 #[u4, u5] w5 fun e w6 => e = .returned (.bool true) ∧ S w6)
    (h : ∀ (u1 u2 u4 u5 : Value) (a' : Act) (w' : World), S w' → a' = ((((((((((((((((((((a).put (some 27) (.pointer (some ⟨rb, 0, none⟩))).put (some 28) (p.v)).put (some 30) (.pointer (some ⟨d, 0, none⟩))).put (some 31) (p.v)).put (some 29) (u1)).put (some 32) (u2)).put (some 33) (.bool true)).put (some 34) (.bool false)).put (some 35) (.bool false)).put (some 36) (.pointer (some ⟨rb, 0, none⟩))).put (some 37) (.pointer (some ⟨pb, 0 + 0, none⟩))).put (some 38) (p.o.v)).put (some 40) (.pointer (some ⟨d, 0, none⟩))).put (some 41) (.pointer (some ⟨pb, 0 + 0, none⟩))).put (some 42) (p.o.v)).put (some 39) (u4)).put (some 43) (u5)).put (some 44) (.bool true)).put (some 45) (.bool false)).put (some 46) (.bool false) → Q .normal a' w') :
    (Code.region 7 alk7_ops true).wp Tryz.prog Q a w := by
  refine y0 (fun w' => S w') (h0) (fun hHeld => ?_)
  refine yv 0 rfl rfl (fun w1 hw => exec_move rfl (zi t0 rfl)) hHeld ?_
  refine yv 1 rfl rfl (fun w1 hw => exec_load rfl (zi t8 rfl) (LP _ hw)) hHeld ?_
  refine yv 3 rfl rfl (fun w1 hw => exec_move rfl (zi t1 rfl)) hHeld ?_
  refine yv 4 rfl rfl (fun w1 hw => exec_load rfl (zi t8 rfl) (LP _ hw)) hHeld ?_
  refine yc 2 rfl rfl (exec_c2 rfl (zg zz rfl) (zg zz rfl)) (C1) (fun e x2 hx => ?_)
  obtain ⟨u1, rfl, S1, C2⟩ := hx
  replace h := h u1
  refine ⟨_, rfl, S1, fun hHeld => ?_⟩
  refine yc 5 rfl rfl (exec_c2 rfl (zg zz rfl) (zg zz rfl)) (C2) (fun e x5 hx => ?_)
  obtain ⟨u2, rfl, S2, C3⟩ := hx
  replace h := h u2
  refine ⟨_, rfl, S2, fun hHeld => ?_⟩
  refine yc 6 rfl rfl (exec_c2 rfl (zg zz rfl) (zg zz rfl)) (C3) (fun e x6 hx => ?_)
  obtain ⟨rfl, S3, C4⟩ := hx
  refine ⟨_, rfl, S3, fun hHeld => ?_⟩
  refine yv 7 rfl rfl (fun w1 hw => exec_not rfl (zg zz rfl)) hHeld ?_
  refine yv 8 rfl rfl (fun w1 hw => exec_move rfl (zg zz rfl)) hHeld ?_
  refine yv 9 rfl (zw zz rfl rfl rfl (zg zz rfl)) (fun w1 hw => exec_move rfl (zi t0 rfl)) hHeld ?_
  refine yv 10 rfl (zw zz rfl rfl rfl (zg zz rfl)) (fun w1 hw => exec_fieldAt rfl (zi t8 rfl) (fg_68_0 _ _ _)) hHeld ?_
  refine yv 11 rfl (zw zz rfl rfl rfl (zg zz rfl)) (fun w1 hw => exec_load rfl (zg zz rfl) (LO _ hw)) hHeld ?_
  refine yv 13 rfl (zw zz rfl rfl rfl (zg zz rfl)) (fun w1 hw => exec_move rfl (zi t1 rfl)) hHeld ?_
  refine yv 14 rfl (zw zz rfl rfl rfl (zg zz rfl)) (fun w1 hw => exec_fieldAt rfl (zi t8 rfl) (fg_68_0 _ _ _)) hHeld ?_
  refine yv 15 rfl (zw zz rfl rfl rfl (zg zz rfl)) (fun w1 hw => exec_load rfl (zg zz rfl) (LO _ hw)) hHeld ?_
  refine yc 12 rfl (zw zz rfl rfl rfl (zg zz rfl)) (exec_c2 rfl (zg zz rfl) (zg zz rfl)) (C4) (fun e x12 hx => ?_)
  obtain ⟨u4, rfl, S4, C5⟩ := hx
  replace h := h u4
  refine ⟨_, rfl, S4, fun hHeld => ?_⟩
  refine yc 16 rfl (zw zz rfl rfl rfl (zg zz rfl)) (exec_c2 rfl (zg zz rfl) (zg zz rfl)) (C5) (fun e x16 hx => ?_)
  obtain ⟨u5, rfl, S5, C6⟩ := hx
  replace h := h u5
  refine ⟨_, rfl, S5, fun hHeld => ?_⟩
  refine yc 17 rfl (zw zz rfl rfl rfl (zg zz rfl)) (exec_c2 rfl (zg zz rfl) (zg zz rfl)) (C6) (fun e x17 hx => ?_)
  obtain ⟨rfl, S6⟩ := hx
  refine ⟨_, rfl, S6, fun hHeld => ?_⟩
  refine yv 18 rfl (zw zz rfl rfl rfl (zg zz rfl)) (fun w1 hw => exec_not rfl (zg zz rfl)) hHeld ?_
  refine yv 19 rfl rfl (fun w1 hw => exec_pickF rfl (zg zz rfl) (zg zz rfl)) hHeld ?_
  exact ye rfl (h _ _ (S6) rfl)
def alk9_o0 : Oper := ⟨some 48, .move (.tmp 0), 26, "law.go:119", #[], none⟩
def alk9_o1 : Oper := ⟨some 49, .load 68 (.tmp 8), 68, "law.go:119", #[], none⟩
def alk9_o2 : Oper := ⟨some 50, .call { callee := Callee.value (Operand.func 55), args := #[.tmp 48, .tmp 49], argTypes := #[26, 68] }, 110, "law.go:119", #[⟨0, .data⟩, ⟨1, .data⟩], none⟩
def alk9_o3 : Oper := ⟨some 47, .move (.tmp 50), 110, "law.go:119", #[⟨2, .data⟩], none⟩
def alk9_o4 : Oper := ⟨some 51, .extract (.tmp 47) 0, 85, "law.go:119", #[⟨3, .data⟩], none⟩
def alk9_o5 : Oper := ⟨some 52, .extract (.tmp 47) 1, 4, "law.go:119", #[⟨3, .data⟩, { on := 7, ground := Ground.gcOnly Departure.lateStores }], none⟩
def alk9_o6 : Oper := ⟨some 9, .alloc 85, 0, "law.go:119", #[], none⟩
def alk9_o7 : Oper := ⟨none, .store 85 (.tmp 9) (.tmp 51), 0, "law.go:119", #[⟨6, .data⟩, ⟨4, .data⟩, ⟨2, .chain⟩, ⟨0, .phase⟩, ⟨1, .phase⟩, ⟨2, .phase⟩, ⟨3, .phase⟩, ⟨4, .phase⟩, { on := 5, ground := Ground.textOnly Departure.lateStores }, ⟨6, .phase⟩], none⟩
def alk9_o8 : Oper := ⟨some 10, .assign (.tmp 52), 4, "law.go:119", #[⟨5, .data⟩, ⟨7, .chain⟩, ⟨0, .phase⟩, ⟨1, .phase⟩, ⟨2, .phase⟩, ⟨3, .phase⟩, ⟨4, .phase⟩, ⟨5, .phase⟩, ⟨6, .phase⟩, ⟨7, .phase⟩], none⟩
def alk9_ops : Array Oper := #[alk9_o0, alk9_o1, alk9_o2, alk9_o3, alk9_o4, alk9_o5, alk9_o6, alk9_o7, alk9_o8]
theorem alk9 {rb pb : Nat} {p : PlK} {x : EnV} {r : Bool} (Fin : Nat → World → Prop) (a : Act) (w : World) (Q : Exit → Act → World → Prop) (zz : a.tmps.size = 77)
    (t0 : a.tmps.getD 0 undef = .pointer (some ⟨rb, 0, none⟩))
    (t8 : a.tmps.getD 8 undef = .pointer (some ⟨pb, 0, none⟩))
    (LP : ∀ W, W = w → (Instr.loadAt 68 (.pointer (some ⟨pb, 0, none⟩))).run Tryz.prog W = .ok (p.v) W) (CT : Calls Tryz.prog 55 #[.pointer (some ⟨rb, 0, none⟩), p.v] w fun e w' => e = .returned (.tuple #[x.a, .bool r]) ∧ ∃ eb w1 w2, (Instr.alloc 85 true (.tuple #[])).run Tryz.prog w' = .ok (.pointer (some ⟨eb, 0, none⟩)) w1 ∧ (Instr.storeAt 85 (.pointer (some ⟨eb, 0, none⟩)) x.a).run Tryz.prog w1 = .ok () w2 ∧ Fin eb w2)
    (h : ∀ (eb : Nat) (a' : Act) (w' : World), Fin eb w' → a' = ((((((((a).put (some 48) (.pointer (some ⟨rb, 0, none⟩))).put (some 49) (p.v)).put (some 50) (.tuple #[x.a, .bool r])).put (some 47) (.tuple #[x.a, .bool r])).put (some 51) (x.a)).put (some 52) (.bool r)).put (some 9) (.pointer (some ⟨eb, 0, none⟩))).put (some 10) (.bool r) → Q .normal a' w') :
    (Code.region 9 alk9_ops false).wp Tryz.prog Q a w := by
  refine z0 rfl ?_
  refine zv rfl (exec_move rfl (zi t0 rfl)) ?_
  refine zv rfl (exec_load rfl (zi t8 rfl) (LP _ rfl)) ?_
  refine zc rfl (exec_c2 rfl (zg zz rfl) (zg zz rfl)) (CT) (fun e x2 hx => ?_)
  obtain ⟨rfl, eb, w1, w2, EA, ES, HF⟩ := hx
  replace h := h eb
  refine ⟨_, rfl, ?_⟩
  refine zv rfl (exec_move rfl (zg zz rfl)) ?_
  refine zv rfl (exec_extract rfl (zg zz rfl) rfl) ?_
  refine zv rfl (exec_extract rfl (zg zz rfl) rfl) ?_
  refine zv (v := .pointer (some ⟨eb, 0, none⟩)) rfl (exec_alloc rfl EA) ?_
  refine zs rfl (exec_store rfl (zg zz rfl) (zg zz rfl) ES) ?_
  refine zv rfl (exec_assign rfl (zg zz rfl)) ?_
  exact ze rfl (h _ _ (HF) rfl)
def alk10_o0 : Oper := ⟨some 54, .move (.tmp 1), 28, "law.go:120", #[], none⟩
def alk10_o1 : Oper := ⟨some 55, .load 68 (.tmp 8), 68, "law.go:120", #[], none⟩
def alk10_o2 : Oper := ⟨some 56, .call { callee := Callee.value (Operand.func 56), args := #[.tmp 54, .tmp 55], argTypes := #[28, 68] }, 110, "law.go:120", #[⟨0, .data⟩, ⟨1, .data⟩], none⟩
def alk10_o3 : Oper := ⟨some 53, .move (.tmp 56), 110, "law.go:120", #[⟨2, .data⟩], none⟩
def alk10_o4 : Oper := ⟨some 57, .extract (.tmp 53) 0, 85, "law.go:120", #[⟨3, .data⟩], none⟩
def alk10_o5 : Oper := ⟨some 58, .extract (.tmp 53) 1, 4, "law.go:120", #[⟨3, .data⟩, { on := 7, ground := Ground.gcOnly Departure.lateStores }], none⟩
def alk10_o6 : Oper := ⟨some 11, .alloc 85, 0, "law.go:120", #[], none⟩
def alk10_o7 : Oper := ⟨none, .store 85 (.tmp 11) (.tmp 57), 0, "law.go:120", #[⟨6, .data⟩, ⟨4, .data⟩, ⟨2, .chain⟩, ⟨0, .phase⟩, ⟨1, .phase⟩, ⟨2, .phase⟩, ⟨3, .phase⟩, ⟨4, .phase⟩, { on := 5, ground := Ground.textOnly Departure.lateStores }, ⟨6, .phase⟩], none⟩
def alk10_o8 : Oper := ⟨some 12, .assign (.tmp 58), 4, "law.go:120", #[⟨5, .data⟩, ⟨7, .chain⟩, ⟨0, .phase⟩, ⟨1, .phase⟩, ⟨2, .phase⟩, ⟨3, .phase⟩, ⟨4, .phase⟩, ⟨5, .phase⟩, ⟨6, .phase⟩, ⟨7, .phase⟩], none⟩
def alk10_ops : Array Oper := #[alk10_o0, alk10_o1, alk10_o2, alk10_o3, alk10_o4, alk10_o5, alk10_o6, alk10_o7, alk10_o8]
theorem alk10 {rb pb : Nat} {p : PlK} {x : EnV} {r : Bool} (Fin : Nat → World → Prop) (a : Act) (w : World) (Q : Exit → Act → World → Prop) (zz : a.tmps.size = 77)
    (t1 : a.tmps.getD 1 undef = .pointer (some ⟨rb, 0, none⟩))
    (t8 : a.tmps.getD 8 undef = .pointer (some ⟨pb, 0, none⟩))
    (LP : ∀ W, W = w → (Instr.loadAt 68 (.pointer (some ⟨pb, 0, none⟩))).run Tryz.prog W = .ok (p.v) W) (CT : Calls Tryz.prog 56 #[.pointer (some ⟨rb, 0, none⟩), p.v] w fun e w' => e = .returned (.tuple #[x.a, .bool r]) ∧ ∃ eb w1 w2, (Instr.alloc 85 true (.tuple #[])).run Tryz.prog w' = .ok (.pointer (some ⟨eb, 0, none⟩)) w1 ∧ (Instr.storeAt 85 (.pointer (some ⟨eb, 0, none⟩)) x.a).run Tryz.prog w1 = .ok () w2 ∧ Fin eb w2)
    (h : ∀ (eb : Nat) (a' : Act) (w' : World), Fin eb w' → a' = ((((((((a).put (some 54) (.pointer (some ⟨rb, 0, none⟩))).put (some 55) (p.v)).put (some 56) (.tuple #[x.a, .bool r])).put (some 53) (.tuple #[x.a, .bool r])).put (some 57) (x.a)).put (some 58) (.bool r)).put (some 11) (.pointer (some ⟨eb, 0, none⟩))).put (some 12) (.bool r) → Q .normal a' w') :
    (Code.region 10 alk10_ops false).wp Tryz.prog Q a w := by
  refine z0 rfl ?_
  refine zv rfl (exec_move rfl (zi t1 rfl)) ?_
  refine zv rfl (exec_load rfl (zi t8 rfl) (LP _ rfl)) ?_
  refine zc rfl (exec_c2 rfl (zg zz rfl) (zg zz rfl)) (CT) (fun e x2 hx => ?_)
  obtain ⟨rfl, eb, w1, w2, EA, ES, HF⟩ := hx
  replace h := h eb
  refine ⟨_, rfl, ?_⟩
  refine zv rfl (exec_move rfl (zg zz rfl)) ?_
  refine zv rfl (exec_extract rfl (zg zz rfl) rfl) ?_
  refine zv rfl (exec_extract rfl (zg zz rfl) rfl) ?_
  refine zv (v := .pointer (some ⟨eb, 0, none⟩)) rfl (exec_alloc rfl EA) ?_
  refine zs rfl (exec_store rfl (zg zz rfl) (zg zz rfl) ES) ?_
  refine zv rfl (exec_assign rfl (zg zz rfl)) ?_
  exact ze rfl (h _ _ (HF) rfl)
def alk11_o0 : Oper := ⟨some 59, .move (.tmp 10), 4, "law.go:121", #[], none⟩
def alk11_o1 : Oper := ⟨some 60, .move (.tmp 12), 4, "law.go:121", #[], none⟩
def alk11_o2 : Oper := ⟨some 61, .binOp BinOp.neq 4 (.tmp 59) (.tmp 60) 4, 4, "law.go:121", #[⟨0, .data⟩, ⟨1, .data⟩], none⟩
def alk11_o3 : Oper := ⟨some 62, .move (.tmp 61), 4, "law.go:121", #[⟨2, .data⟩], none⟩
def alk11_o4 : Oper := ⟨some 63, .fieldAddr 85 (.tmp 9) 0, 0, "law.go:121", #[⟨3, .guard⟩], some (3, false)⟩
def alk11_o5 : Oper := ⟨some 64, .load 59 (.tmp 63), 59, "law.go:121", #[⟨4, .data⟩, ⟨3, .guard⟩], some (3, false)⟩
def alk11_o6 : Oper := ⟨some 65, .fieldAddr 85 (.tmp 11) 0, 0, "law.go:121", #[⟨3, .guard⟩], some (3, false)⟩
def alk11_o7 : Oper := ⟨some 66, .load 59 (.tmp 65), 59, "law.go:121", #[⟨6, .data⟩, ⟨3, .guard⟩], some (3, false)⟩
def alk11_o8 : Oper := ⟨some 67, .binOp BinOp.neq 59 (.tmp 64) (.tmp 66) 59, 4, "law.go:121", #[⟨5, .data⟩, ⟨7, .data⟩, ⟨3, .guard⟩], some (3, false)⟩
def alk11_o9 : Oper := ⟨some 68, .pick (.tmp 62) (Operand.const (Value.bool true)) (.tmp 67), 4, "law.go:121", #[⟨3, .data⟩, ⟨8, .data⟩], none⟩
def alk11_o10 : Oper := ⟨some 69, .move (.tmp 68), 4, "law.go:121", #[⟨9, .data⟩, ⟨3, .chain⟩], none⟩
def alk11_o11 : Oper := ⟨some 70, .fieldAddr 85 (.tmp 9) 1, 0, "law.go:121", #[⟨10, .guard⟩], some (10, false)⟩
def alk11_o12 : Oper := ⟨some 71, .load 63 (.tmp 70), 63, "law.go:121", #[⟨11, .data⟩, ⟨10, .guard⟩], some (10, false)⟩
def alk11_o13 : Oper := ⟨some 72, .fieldAddr 85 (.tmp 11) 1, 0, "law.go:121", #[⟨10, .guard⟩], some (10, false)⟩
def alk11_o14 : Oper := ⟨some 73, .load 63 (.tmp 72), 63, "law.go:121", #[⟨13, .data⟩, ⟨10, .guard⟩], some (10, false)⟩
def alk11_o15 : Oper := ⟨some 74, .call { callee := Callee.value (Operand.func 57), args := #[.tmp 71, .tmp 73], argTypes := #[63, 63] }, 4, "law.go:121", #[⟨12, .data⟩, ⟨14, .data⟩, ⟨10, .chain⟩, ⟨10, .guard⟩], some (10, false)⟩
def alk11_o16 : Oper := ⟨some 75, .unOp UnOp.not 4 (.tmp 74), 4, "law.go:121", #[⟨15, .data⟩, ⟨10, .guard⟩], some (10, false)⟩
def alk11_o17 : Oper := ⟨some 76, .pick (.tmp 69) (Operand.const (Value.bool true)) (.tmp 75), 4, "law.go:121", #[⟨10, .data⟩, ⟨16, .data⟩], none⟩
def alk11_ops : Array Oper := #[alk11_o0, alk11_o1, alk11_o2, alk11_o3, alk11_o4, alk11_o5, alk11_o6, alk11_o7, alk11_o8, alk11_o9, alk11_o10, alk11_o11, alk11_o12, alk11_o13, alk11_o14, alk11_o15, alk11_o16, alk11_o17]
theorem alk11 {eb fb : Nat} {r : Bool} {x : EnV} (Fin : World → Prop) (a : Act) (w : World) (Q : Exit → Act → World → Prop) (zz : a.tmps.size = 77)
    (t9 : a.tmps.getD 9 undef = .pointer (some ⟨eb, 0, none⟩))
    (t10 : a.tmps.getD 10 undef = .bool r)
    (t11 : a.tmps.getD 11 undef = .pointer (some ⟨fb, 0, none⟩))
    (t12 : a.tmps.getD 12 undef = .bool r)
    (hx : x.id.ok) (L1 : ∀ W, W = w → (Instr.loadAt 59 (.pointer (some ⟨eb, 0 + 0, none⟩))).run Tryz.prog W = .ok (x.id.v) W) (L2 : ∀ W, W = w → (Instr.loadAt 59 (.pointer (some ⟨fb, 0 + 0, none⟩))).run Tryz.prog W = .ok (x.id.v) W) (L3 : ∀ W, W = w → (Instr.loadAt 63 (.pointer (some ⟨eb, 0 + 33, none⟩))).run Tryz.prog W = .ok (x.v.v) W) (L4 : ∀ W, W = w → (Instr.loadAt 63 (.pointer (some ⟨fb, 0 + 33, none⟩))).run Tryz.prog W = .ok (x.v.v) W) (CS : Calls Tryz.prog 57 #[x.v.v, x.v.v] w fun e w' => e = .returned (.bool true) ∧ Fin w')
    (h : ∀ (a' : Act) (w' : World), Fin w' → a' = ((((((((((((((((((a).put (some 59) (.bool r)).put (some 60) (.bool r)).put (some 61) (.bool false)).put (some 62) (.bool false)).put (some 63) (.pointer (some ⟨eb, 0 + 0, none⟩))).put (some 64) (x.id.v)).put (some 65) (.pointer (some ⟨fb, 0 + 0, none⟩))).put (some 66) (x.id.v)).put (some 67) (.bool false)).put (some 68) (.bool false)).put (some 69) (.bool false)).put (some 70) (.pointer (some ⟨eb, 0 + 33, none⟩))).put (some 71) (x.v.v)).put (some 72) (.pointer (some ⟨fb, 0 + 33, none⟩))).put (some 73) (x.v.v)).put (some 74) (.bool true)).put (some 75) (.bool false)).put (some 76) (.bool false) → Q .normal a' w') :
    (Code.region 11 alk11_ops false).wp Tryz.prog Q a w := by
  refine z0 rfl ?_
  refine zv rfl (exec_move rfl (zi t10 rfl)) ?_
  refine zv rfl (exec_move rfl (zi t12 rfl)) ?_
  refine zv (v := .bool false) rfl (ex_neb rfl (zg zz rfl) (zg zz rfl)) ?_
  refine zv rfl (exec_move rfl (zg zz rfl)) ?_
  refine zv (zw zz rfl rfl rfl (zg zz rfl)) (exec_fieldAt rfl (zi t9 rfl) (fg_85_0 _ _ _)) ?_
  refine zv (zw zz rfl rfl rfl (zg zz rfl)) (exec_load rfl (zg zz rfl) (L1 _ rfl)) ?_
  refine zv (zw zz rfl rfl rfl (zg zz rfl)) (exec_fieldAt rfl (zi t11 rfl) (fg_85_0 _ _ _)) ?_
  refine zv (zw zz rfl rfl rfl (zg zz rfl)) (exec_load rfl (zg zz rfl) (L2 _ rfl)) ?_
  refine zv (v := .bool false) (zw zz rfl rfl rfl (zg zz rfl)) (ex_neqX hx rfl (zg zz rfl) (zg zz rfl)) ?_
  refine zv rfl (exec_pickF rfl (zg zz rfl) (zg zz rfl)) ?_
  refine zv rfl (exec_move rfl (zg zz rfl)) ?_
  refine zv (zw zz rfl rfl rfl (zg zz rfl)) (exec_fieldAt rfl (zi t9 rfl) (fg_85_1 _ _ _)) ?_
  refine zv (zw zz rfl rfl rfl (zg zz rfl)) (exec_load rfl (zg zz rfl) (L3 _ rfl)) ?_
  refine zv (zw zz rfl rfl rfl (zg zz rfl)) (exec_fieldAt rfl (zi t11 rfl) (fg_85_1 _ _ _)) ?_
  refine zv (zw zz rfl rfl rfl (zg zz rfl)) (exec_load rfl (zg zz rfl) (L4 _ rfl)) ?_
  refine zc (zw zz rfl rfl rfl (zg zz rfl)) (exec_c2 rfl (zg zz rfl) (zg zz rfl)) (CS) (fun e x15 hx => ?_)
  obtain ⟨rfl, HF⟩ := hx
  refine ⟨_, rfl, ?_⟩
  refine zv (zw zz rfl rfl rfl (zg zz rfl)) (exec_not rfl (zg zz rfl)) ?_
  refine zv rfl (exec_pickF rfl (zg zz rfl) (zg zz rfl)) ?_
  exact ze rfl (h _ _ (HF) rfl)
def stp1_o0 : Oper := ⟨some 11, .move (.tmp 2), 22, "law.go:56", #[], none⟩
def stp1_o1 : Oper := ⟨some 12, .fieldAddr 66 (.tmp 4) 1, 0, "law.go:56", #[], none⟩
def stp1_o2 : Oper := ⟨some 13, .load 3 (.tmp 12), 3, "law.go:56", #[⟨1, .data⟩], none⟩
def stp1_o3 : Oper := ⟨some 14, .call { callee := Callee.value (Operand.func 8), args := #[.tmp 11, .tmp 13], argTypes := #[22, 3] }, 68, "law.go:56", #[⟨0, .data⟩, ⟨2, .data⟩], none⟩
def stp1_o4 : Oper := ⟨some 7, .alloc 68, 0, "law.go:56", #[], none⟩
def stp1_o5 : Oper := ⟨none, .store 68 (.tmp 7) (.tmp 14), 0, "law.go:56", #[⟨4, .data⟩, ⟨3, .data⟩, ⟨3, .chain⟩, ⟨0, .phase⟩, ⟨1, .phase⟩, ⟨2, .phase⟩, ⟨3, .phase⟩, ⟨4, .phase⟩], none⟩
def stp1_ops : Array Oper := #[stp1_o0, stp1_o1, stp1_o2, stp1_o3, stp1_o4, stp1_o5]
theorem stp1 {ob pn pc : Nat} {pa : Option Addr} {o : OpR} {p : PlK} (Fin : Nat → World → Prop) (a : Act) (w : World) (Q : Exit → Act → World → Prop) (zz : a.tmps.size = 117)
    (t2 : a.tmps.getD 2 undef = .slice pa pn pc)
    (t4 : a.tmps.getD 4 undef = .pointer (some ⟨ob, 0, none⟩))
    (LQ : ∀ W, W = w → (Instr.loadAt 3 (.pointer (some ⟨ob, 0 + 1, none⟩))).run Tryz.prog W = .ok (.int .i64 o.pl) W) (CA : Calls Tryz.prog 8 #[.slice pa pn pc, .int .i64 o.pl] w fun e w' => e = .returned p.v ∧ ∃ pb w1 w2, (Instr.alloc 68 true (.tuple #[])).run Tryz.prog w' = .ok (.pointer (some ⟨pb, 0, none⟩)) w1 ∧ (Instr.storeAt 68 (.pointer (some ⟨pb, 0, none⟩)) p.v).run Tryz.prog w1 = .ok () w2 ∧ Fin pb w2)
    (h : ∀ (pb : Nat) (a' : Act) (w' : World), Fin pb w' → a' = (((((a).put (some 11) (.slice pa pn pc)).put (some 12) (.pointer (some ⟨ob, 0 + 1, none⟩))).put (some 13) (.int .i64 o.pl)).put (some 14) (p.v)).put (some 7) (.pointer (some ⟨pb, 0, none⟩)) → Q .normal a' w') :
    (Code.region 1 stp1_ops false).wp Tryz.prog Q a w := by
  refine z0 rfl ?_
  refine zv rfl (exec_move rfl (zi t2 rfl)) ?_
  refine zv rfl (exec_fieldAt rfl (zi t4 rfl) (fg_66_1 _ _ _)) ?_
  refine zv rfl (exec_load rfl (zg zz rfl) (LQ _ rfl)) ?_
  refine zc rfl (exec_c2 rfl (zg zz rfl) (zg zz rfl)) (CA) (fun e x3 hx => ?_)
  obtain ⟨rfl, pb, w1, w2, EA, ES, HF⟩ := hx
  replace h := h pb
  refine ⟨_, rfl, ?_⟩
  refine zv (v := .pointer (some ⟨pb, 0, none⟩)) rfl (exec_alloc rfl EA) ?_
  refine zs rfl (exec_store rfl (zg zz rfl) (zg zz rfl) ES) ?_
  exact ze rfl (h _ _ (HF) rfl)
def stp2_o0 : Oper := ⟨some 15, .buildSlice 64 0 #[], 64, "law.go:57", #[], none⟩
def stp2_o1 : Oper := ⟨some 16, .fieldAddr 66 (.tmp 4) 5, 0, "law.go:57", #[], none⟩
def stp2_o2 : Oper := ⟨some 17, .load 64 (.tmp 16), 64, "law.go:57", #[⟨1, .data⟩], none⟩
def stp2_o3 : Oper := ⟨some 18, .call { callee := Callee.builtin Builtin.append, args := #[.tmp 15, .tmp 17], argTypes := #[64, 64] }, 64, "law.go:57", #[⟨0, .data⟩, ⟨2, .data⟩], none⟩
def stp2_o4 : Oper := ⟨some 8, .alloc 64, 0, "law.go:57", #[], none⟩
def stp2_o5 : Oper := ⟨none, .store 64 (.tmp 8) (.tmp 18), 0, "law.go:57", #[⟨4, .data⟩, ⟨3, .data⟩, ⟨3, .chain⟩, ⟨0, .phase⟩, ⟨1, .phase⟩, ⟨2, .phase⟩, ⟨3, .phase⟩, ⟨4, .phase⟩], none⟩
def stp2_ops : Array Oper := #[stp2_o0, stp2_o1, stp2_o2, stp2_o3, stp2_o4, stp2_o5]
theorem stp2 {ob ib : Nat} {o : OpR} {e0 u : Value} {w1 w2 w3 w4 : World} (a : Act) (w : World) (Q : Exit → Act → World → Prop) (zz : a.tmps.size = 117)
    (t4 : a.tmps.getD 4 undef = .pointer (some ⟨ob, 0, none⟩))
    (LS : ∀ W, W = w1 → (Instr.loadAt 64 (.pointer (some ⟨ob, 0 + 40, none⟩))).run Tryz.prog W = .ok (o.seen) W) (E0 : (Instr.buildSlice 64 0 #[]).run Tryz.prog w = .ok e0 w1) (E1 : (Builtin.append_ #[64, 64] 64 #[e0, o.seen]).run Tryz.prog w1 = .ok u w2) (EA : (Instr.alloc 64 true (.tuple #[])).run Tryz.prog w2 = .ok (.pointer (some ⟨ib, 0, none⟩)) w3) (ES : (Instr.storeAt 64 (.pointer (some ⟨ib, 0, none⟩)) u).run Tryz.prog w3 = .ok () w4)
    (h : ∀ (a' : Act) (w' : World), w' = w4 → a' = (((((a).put (some 15) (e0)).put (some 16) (.pointer (some ⟨ob, 0 + 40, none⟩))).put (some 17) (o.seen)).put (some 18) (u)).put (some 8) (.pointer (some ⟨ib, 0, none⟩)) → Q .normal a' w') :
    (Code.region 2 stp2_ops false).wp Tryz.prog Q a w := by
  refine z0 rfl ?_
  refine zv (v := e0) rfl (exec_bs0 rfl E0) ?_
  refine zv rfl (exec_fieldAt rfl (zi t4 rfl) (fg_66_5 _ _ _)) ?_
  refine zv rfl (exec_load rfl (zg zz rfl) (LS _ rfl)) ?_
  refine zv (v := u) rfl (exec_append rfl (zg zz rfl) (zg zz rfl) E1) ?_
  refine zv (v := .pointer (some ⟨ib, 0, none⟩)) rfl (exec_alloc rfl EA) ?_
  refine zs rfl (exec_store rfl (zg zz rfl) (zg zz rfl) ES) ?_
  exact ze rfl (h _ _ (rfl) rfl)
def stp5_o0 : Oper := ⟨some 20, .fieldAddr 66 (.tmp 4) 0, 0, "law.go:60", #[], none⟩
def stp5_o1 : Oper := ⟨some 21, .load 3 (.tmp 20), 3, "law.go:60", #[⟨0, .data⟩], none⟩
def stp5_ops : Array Oper := #[stp5_o0, stp5_o1]
theorem stp5 {ob : Nat} {o : OpR} (a : Act) (w : World) (Q : Exit → Act → World → Prop) (zz : a.tmps.size = 117)
    (t4 : a.tmps.getD 4 undef = .pointer (some ⟨ob, 0, none⟩))
    (LQ : ∀ W, W = w → (Instr.loadAt 3 (.pointer (some ⟨ob, 0 + 0, none⟩))).run Tryz.prog W = .ok (.int .i64 o.kind) W)
    (h : ∀ (a' : Act) (w' : World), w' = w → a' = ((a).put (some 20) (.pointer (some ⟨ob, 0 + 0, none⟩))).put (some 21) (.int .i64 o.kind) → Q .normal a' w') :
    (Code.region 5 stp5_ops false).wp Tryz.prog Q a w := by
  refine z0 rfl ?_
  refine zv rfl (exec_fieldAt rfl (zi t4 rfl) (fg_66_0 _ _ _)) ?_
  refine zv rfl (exec_load rfl (zg zz rfl) (LQ _ rfl)) ?_
  exact ze rfl (h _ _ (rfl) rfl)
def stp8_o0 : Oper := ⟨some 24, .move (.tmp 0), 25, "law.go:62", #[], none⟩
def stp8_o1 : Oper := ⟨some 25, .nilCheck (.tmp 24), 0, "law.go:62", #[⟨0, .data⟩], none⟩
def stp8_o2 : Oper := ⟨some 26, .fieldAddr 33 (.tmp 25) 0, 0, "law.go:62", #[⟨1, .data⟩], none⟩
def stp8_o3 : Oper := ⟨some 27, .load 26 (.tmp 26), 26, "law.go:62", #[⟨2, .data⟩], none⟩
def stp8_o4 : Oper := ⟨some 28, .load 68 (.tmp 7), 68, "law.go:62", #[], none⟩
def stp8_o5 : Oper := ⟨some 29, .fieldAddr 66 (.tmp 4) 2, 0, "law.go:62", #[], none⟩
def stp8_o6 : Oper := ⟨some 30, .load 59 (.tmp 29), 59, "law.go:62", #[⟨5, .data⟩], none⟩
def stp8_o7 : Oper := ⟨some 31, .fieldAddr 66 (.tmp 4) 3, 0, "law.go:62", #[], none⟩
def stp8_o8 : Oper := ⟨some 32, .load 63 (.tmp 31), 63, "law.go:62", #[⟨7, .data⟩], none⟩
def stp8_o9 : Oper := ⟨some 33, .move (.tmp 9), 83, "law.go:62", #[], none⟩
def stp8_o10 : Oper := ⟨some 34, .call { callee := Callee.value (Operand.func 18), args := #[.tmp 27, .tmp 28, .tmp 30, .tmp 32, .tmp 33], argTypes := #[26, 68, 59, 63, 83] }, 80, "law.go:62", #[⟨3, .data⟩, ⟨4, .data⟩, ⟨6, .data⟩, ⟨8, .data⟩, ⟨9, .data⟩], none⟩
def stp8_o11 : Oper := ⟨some 10, .assign (.tmp 34), 80, "law.go:62", #[⟨10, .data⟩, ⟨10, .chain⟩, ⟨0, .phase⟩, ⟨1, .phase⟩, ⟨2, .phase⟩, ⟨3, .phase⟩, ⟨4, .phase⟩, ⟨5, .phase⟩, ⟨6, .phase⟩, ⟨7, .phase⟩, ⟨8, .phase⟩, ⟨9, .phase⟩, ⟨10, .phase⟩], none⟩
def stp8_ops : Array Oper := #[stp8_o0, stp8_o1, stp8_o2, stp8_o3, stp8_o4, stp8_o5, stp8_o6, stp8_o7, stp8_o8, stp8_o9, stp8_o10, stp8_o11]
theorem stp8 {x rb ob pb : Nat} {o : OpR} {p : PlK} {fv : Value} (S : World → Prop) (Fin : Nat → World → Prop) (a : Act) (w : World) (Q : Exit → Act → World → Prop) (zz : a.tmps.size = 117)
    (t0 : a.tmps.getD 0 undef = .pointer (some ⟨x, 0, none⟩))
    (t4 : a.tmps.getD 4 undef = .pointer (some ⟨ob, 0, none⟩))
    (t7 : a.tmps.getD 7 undef = .pointer (some ⟨pb, 0, none⟩))
    (t9 : a.tmps.getD 9 undef = fv)
    (h0 : S w.drew) (LR : ∀ W, S W → (Instr.loadAt 26 (.pointer (some ⟨x, 0 + 0, none⟩))).run Tryz.prog W = .ok (.pointer (some ⟨rb, 0, none⟩)) W) (LP : ∀ W, S W → (Instr.loadAt 68 (.pointer (some ⟨pb, 0, none⟩))).run Tryz.prog W = .ok (p.v) W) (LI : ∀ W, S W → (Instr.loadAt 59 (.pointer (some ⟨ob, 0 + 2, none⟩))).run Tryz.prog W = .ok (o.id.v) W) (LV : ∀ W, S W → (Instr.loadAt 63 (.pointer (some ⟨ob, 0 + 35, none⟩))).run Tryz.prog W = .ok (o.v.v) W) (CC : Calls Tryz.prog 18 #[.pointer (some ⟨rb, 0, none⟩), p.v, o.id.v, o.v.v, fv] w.drew fun e w' => ∃ bk, e = .returned (.pointer (some ⟨bk, 0, none⟩)) ∧ S w' ∧ Fin bk w')
    (h : ∀ (bk : Nat) (a' : Act) (w' : World), Fin bk w' → a' = ((((((((((((a).put (some 24) (.pointer (some ⟨x, 0, none⟩))).put (some 25) (.pointer (some ⟨x, 0, none⟩))).put (some 26) (.pointer (some ⟨x, 0 + 0, none⟩))).put (some 27) (.pointer (some ⟨rb, 0, none⟩))).put (some 28) (p.v)).put (some 29) (.pointer (some ⟨ob, 0 + 2, none⟩))).put (some 30) (o.id.v)).put (some 31) (.pointer (some ⟨ob, 0 + 35, none⟩))).put (some 32) (o.v.v)).put (some 33) (fv)).put (some 34) (.pointer (some ⟨bk, 0, none⟩))).put (some 10) (.pointer (some ⟨bk, 0, none⟩)) → Q .normal a' w') :
    (Code.region 8 stp8_ops true).wp Tryz.prog Q a w := by
  refine y0 (fun w' => S w') (h0) (fun hHeld => ?_)
  refine yv 0 rfl rfl (fun w1 hw => exec_move rfl (zi t0 rfl)) hHeld ?_
  refine yv 1 rfl rfl (fun w1 hw => exec_nilCheck rfl (zg zz rfl)) hHeld ?_
  refine yv 2 rfl rfl (fun w1 hw => exec_fieldAt rfl (zg zz rfl) (fg_33_0 _ _ _)) hHeld ?_
  refine yv 3 rfl rfl (fun w1 hw => exec_load rfl (zg zz rfl) (LR _ hw)) hHeld ?_
  refine yv 4 rfl rfl (fun w1 hw => exec_load rfl (zi t7 rfl) (LP _ hw)) hHeld ?_
  refine yv 5 rfl rfl (fun w1 hw => exec_fieldAt rfl (zi t4 rfl) (fg_66_2 _ _ _)) hHeld ?_
  refine yv 6 rfl rfl (fun w1 hw => exec_load rfl (zg zz rfl) (LI _ hw)) hHeld ?_
  refine yv 7 rfl rfl (fun w1 hw => exec_fieldAt rfl (zi t4 rfl) (fg_66_3 _ _ _)) hHeld ?_
  refine yv 8 rfl rfl (fun w1 hw => exec_load rfl (zg zz rfl) (LV _ hw)) hHeld ?_
  refine yv 9 rfl rfl (fun w1 hw => exec_move rfl (zi t9 rfl)) hHeld ?_
  refine yc 10 rfl rfl (exec_c5 rfl (zg zz rfl) (zg zz rfl) (zg zz rfl) (zg zz rfl) (zg zz rfl)) (CC) (fun e x10 hx => ?_)
  obtain ⟨bk, rfl, S1, HF⟩ := hx
  replace h := h bk
  refine ⟨_, rfl, S1, fun hHeld => ?_⟩
  refine yv 11 rfl rfl (fun w1 hw => exec_assign rfl (zg zz rfl)) hHeld ?_
  exact ye rfl (h _ _ (HF) rfl)
def stp9_o0 : Oper := ⟨some 35, .move (.tmp 0), 25, "law.go:63", #[], none⟩
def stp9_o1 : Oper := ⟨some 36, .nilCheck (.tmp 35), 0, "law.go:63", #[⟨0, .data⟩], none⟩
def stp9_o2 : Oper := ⟨some 37, .fieldAddr 33 (.tmp 36) 1, 0, "law.go:63", #[⟨1, .data⟩], none⟩
def stp9_o3 : Oper := ⟨some 38, .load 28 (.tmp 37), 28, "law.go:63", #[⟨2, .data⟩], none⟩
def stp9_o4 : Oper := ⟨some 39, .load 68 (.tmp 7), 68, "law.go:63", #[], none⟩
def stp9_o5 : Oper := ⟨some 40, .fieldAddr 66 (.tmp 4) 2, 0, "law.go:63", #[], none⟩
def stp9_o6 : Oper := ⟨some 41, .load 59 (.tmp 40), 59, "law.go:63", #[⟨5, .data⟩], none⟩
def stp9_o7 : Oper := ⟨some 42, .fieldAddr 66 (.tmp 4) 3, 0, "law.go:63", #[], none⟩
def stp9_o8 : Oper := ⟨some 43, .load 63 (.tmp 42), 63, "law.go:63", #[⟨7, .data⟩], none⟩
def stp9_o9 : Oper := ⟨some 44, .fieldAddr 66 (.tmp 4) 5, 0, "law.go:63", #[], none⟩
def stp9_o10 : Oper := ⟨some 45, .load 64 (.tmp 44), 64, "law.go:63", #[⟨9, .data⟩], none⟩
def stp9_o11 : Oper := ⟨some 46, .call { callee := Callee.value (Operand.func 24), args := #[.tmp 38, .tmp 39, .tmp 41, .tmp 43, .tmp 45], argTypes := #[28, 68, 59, 63, 64] }, 0, "law.go:63", #[⟨3, .data⟩, ⟨4, .data⟩, ⟨6, .data⟩, ⟨8, .data⟩, ⟨10, .data⟩], none⟩
def stp9_ops : Array Oper := #[stp9_o0, stp9_o1, stp9_o2, stp9_o3, stp9_o4, stp9_o5, stp9_o6, stp9_o7, stp9_o8, stp9_o9, stp9_o10, stp9_o11]
theorem stp9 {x d ob pb : Nat} {o : OpR} {p : PlK} (S : World → Prop) (Fin : World → Prop) (a : Act) (w : World) (Q : Exit → Act → World → Prop) (zz : a.tmps.size = 117)
    (t0 : a.tmps.getD 0 undef = .pointer (some ⟨x, 0, none⟩))
    (t4 : a.tmps.getD 4 undef = .pointer (some ⟨ob, 0, none⟩))
    (t7 : a.tmps.getD 7 undef = .pointer (some ⟨pb, 0, none⟩))
    (h0 : S w.drew) (LD : ∀ W, S W → (Instr.loadAt 28 (.pointer (some ⟨x, 0 + 1, none⟩))).run Tryz.prog W = .ok (.pointer (some ⟨d, 0, none⟩)) W) (LP : ∀ W, S W → (Instr.loadAt 68 (.pointer (some ⟨pb, 0, none⟩))).run Tryz.prog W = .ok (p.v) W) (LI : ∀ W, S W → (Instr.loadAt 59 (.pointer (some ⟨ob, 0 + 2, none⟩))).run Tryz.prog W = .ok (o.id.v) W) (LV : ∀ W, S W → (Instr.loadAt 63 (.pointer (some ⟨ob, 0 + 35, none⟩))).run Tryz.prog W = .ok (o.v.v) W) (LS : ∀ W, S W → (Instr.loadAt 64 (.pointer (some ⟨ob, 0 + 40, none⟩))).run Tryz.prog W = .ok (o.seen) W) (CC : Calls Tryz.prog 24 #[.pointer (some ⟨d, 0, none⟩), p.v, o.id.v, o.v.v, o.seen] w.drew fun e w' => e = .returned (.tuple #[]) ∧ S w' ∧ Fin w')
    (h : ∀ (a' : Act) (w' : World), Fin w' → a' = ((((((((((((a).put (some 35) (.pointer (some ⟨x, 0, none⟩))).put (some 36) (.pointer (some ⟨x, 0, none⟩))).put (some 37) (.pointer (some ⟨x, 0 + 1, none⟩))).put (some 38) (.pointer (some ⟨d, 0, none⟩))).put (some 39) (p.v)).put (some 40) (.pointer (some ⟨ob, 0 + 2, none⟩))).put (some 41) (o.id.v)).put (some 42) (.pointer (some ⟨ob, 0 + 35, none⟩))).put (some 43) (o.v.v)).put (some 44) (.pointer (some ⟨ob, 0 + 40, none⟩))).put (some 45) (o.seen)).put (some 46) (.tuple #[]) → Q .normal a' w') :
    (Code.region 9 stp9_ops true).wp Tryz.prog Q a w := by
  refine y0 (fun w' => S w') (h0) (fun hHeld => ?_)
  refine yv 0 rfl rfl (fun w1 hw => exec_move rfl (zi t0 rfl)) hHeld ?_
  refine yv 1 rfl rfl (fun w1 hw => exec_nilCheck rfl (zg zz rfl)) hHeld ?_
  refine yv 2 rfl rfl (fun w1 hw => exec_fieldAt rfl (zg zz rfl) (fg_33_1 _ _ _)) hHeld ?_
  refine yv 3 rfl rfl (fun w1 hw => exec_load rfl (zg zz rfl) (LD _ hw)) hHeld ?_
  refine yv 4 rfl rfl (fun w1 hw => exec_load rfl (zi t7 rfl) (LP _ hw)) hHeld ?_
  refine yv 5 rfl rfl (fun w1 hw => exec_fieldAt rfl (zi t4 rfl) (fg_66_2 _ _ _)) hHeld ?_
  refine yv 6 rfl rfl (fun w1 hw => exec_load rfl (zg zz rfl) (LI _ hw)) hHeld ?_
  refine yv 7 rfl rfl (fun w1 hw => exec_fieldAt rfl (zi t4 rfl) (fg_66_3 _ _ _)) hHeld ?_
  refine yv 8 rfl rfl (fun w1 hw => exec_load rfl (zg zz rfl) (LV _ hw)) hHeld ?_
  refine yv 9 rfl rfl (fun w1 hw => exec_fieldAt rfl (zi t4 rfl) (fg_66_5 _ _ _)) hHeld ?_
  refine yv 10 rfl rfl (fun w1 hw => exec_load rfl (zg zz rfl) (LS _ hw)) hHeld ?_
  refine yc 11 rfl rfl (exec_c5 rfl (zg zz rfl) (zg zz rfl) (zg zz rfl) (zg zz rfl) (zg zz rfl)) (CC) (fun e x11 hx => ?_)
  obtain ⟨rfl, S1, HF⟩ := hx
  refine ⟨_, rfl, S1, fun hHeld => ?_⟩
  exact ye rfl (h _ _ (HF) rfl)
def stp11_o0 : Oper := ⟨some 49, .move (.tmp 0), 25, "law.go:65", #[], none⟩
def stp11_o1 : Oper := ⟨some 50, .nilCheck (.tmp 49), 0, "law.go:65", #[⟨0, .data⟩], none⟩
def stp11_o2 : Oper := ⟨some 51, .fieldAddr 33 (.tmp 50) 0, 0, "law.go:65", #[⟨1, .data⟩], none⟩
def stp11_o3 : Oper := ⟨some 52, .load 26 (.tmp 51), 26, "law.go:65", #[⟨2, .data⟩], none⟩
def stp11_o4 : Oper := ⟨some 53, .load 68 (.tmp 7), 68, "law.go:65", #[], none⟩
def stp11_o5 : Oper := ⟨some 54, .move (.tmp 9), 83, "law.go:65", #[], none⟩
def stp11_o6 : Oper := ⟨some 55, .call { callee := Callee.value (Operand.func 25), args := #[.tmp 52, .tmp 53, .tmp 54], argTypes := #[26, 68, 83] }, 80, "law.go:65", #[⟨3, .data⟩, ⟨4, .data⟩, ⟨5, .data⟩], none⟩
def stp11_o7 : Oper := ⟨some 10, .assign (.tmp 55), 80, "law.go:65", #[⟨6, .data⟩, ⟨6, .chain⟩, ⟨0, .phase⟩, ⟨1, .phase⟩, ⟨2, .phase⟩, ⟨3, .phase⟩, ⟨4, .phase⟩, ⟨5, .phase⟩, ⟨6, .phase⟩], none⟩
def stp11_ops : Array Oper := #[stp11_o0, stp11_o1, stp11_o2, stp11_o3, stp11_o4, stp11_o5, stp11_o6, stp11_o7]
theorem stp11 {x rb ob pb : Nat} {o : OpR} {p : PlK} {fv : Value} (S : World → Prop) (Fin : Nat → World → Prop) (a : Act) (w : World) (Q : Exit → Act → World → Prop) (zz : a.tmps.size = 117)
    (t0 : a.tmps.getD 0 undef = .pointer (some ⟨x, 0, none⟩))
    (t4 : a.tmps.getD 4 undef = .pointer (some ⟨ob, 0, none⟩))
    (t7 : a.tmps.getD 7 undef = .pointer (some ⟨pb, 0, none⟩))
    (t9 : a.tmps.getD 9 undef = fv)
    (h0 : S w.drew) (LR : ∀ W, S W → (Instr.loadAt 26 (.pointer (some ⟨x, 0 + 0, none⟩))).run Tryz.prog W = .ok (.pointer (some ⟨rb, 0, none⟩)) W) (LP : ∀ W, S W → (Instr.loadAt 68 (.pointer (some ⟨pb, 0, none⟩))).run Tryz.prog W = .ok (p.v) W) (CC : Calls Tryz.prog 25 #[.pointer (some ⟨rb, 0, none⟩), p.v, fv] w.drew fun e w' => ∃ bk, e = .returned (.pointer (some ⟨bk, 0, none⟩)) ∧ S w' ∧ Fin bk w')
    (h : ∀ (bk : Nat) (a' : Act) (w' : World), Fin bk w' → a' = ((((((((a).put (some 49) (.pointer (some ⟨x, 0, none⟩))).put (some 50) (.pointer (some ⟨x, 0, none⟩))).put (some 51) (.pointer (some ⟨x, 0 + 0, none⟩))).put (some 52) (.pointer (some ⟨rb, 0, none⟩))).put (some 53) (p.v)).put (some 54) (fv)).put (some 55) (.pointer (some ⟨bk, 0, none⟩))).put (some 10) (.pointer (some ⟨bk, 0, none⟩)) → Q .normal a' w') :
    (Code.region 11 stp11_ops true).wp Tryz.prog Q a w := by
  refine y0 (fun w' => S w') (h0) (fun hHeld => ?_)
  refine yv 0 rfl rfl (fun w1 hw => exec_move rfl (zi t0 rfl)) hHeld ?_
  refine yv 1 rfl rfl (fun w1 hw => exec_nilCheck rfl (zg zz rfl)) hHeld ?_
  refine yv 2 rfl rfl (fun w1 hw => exec_fieldAt rfl (zg zz rfl) (fg_33_0 _ _ _)) hHeld ?_
  refine yv 3 rfl rfl (fun w1 hw => exec_load rfl (zg zz rfl) (LR _ hw)) hHeld ?_
  refine yv 4 rfl rfl (fun w1 hw => exec_load rfl (zi t7 rfl) (LP _ hw)) hHeld ?_
  refine yv 5 rfl rfl (fun w1 hw => exec_move rfl (zi t9 rfl)) hHeld ?_
  refine yc 6 rfl rfl (exec_c3 rfl (zg zz rfl) (zg zz rfl) (zg zz rfl)) (CC) (fun e x6 hx => ?_)
  obtain ⟨bk, rfl, S1, HF⟩ := hx
  replace h := h bk
  refine ⟨_, rfl, S1, fun hHeld => ?_⟩
  refine yv 7 rfl rfl (fun w1 hw => exec_assign rfl (zg zz rfl)) hHeld ?_
  exact ye rfl (h _ _ (HF) rfl)
def stp12_o0 : Oper := ⟨some 56, .move (.tmp 0), 25, "law.go:66", #[], none⟩
def stp12_o1 : Oper := ⟨some 57, .nilCheck (.tmp 56), 0, "law.go:66", #[⟨0, .data⟩], none⟩
def stp12_o2 : Oper := ⟨some 58, .fieldAddr 33 (.tmp 57) 1, 0, "law.go:66", #[⟨1, .data⟩], none⟩
def stp12_o3 : Oper := ⟨some 59, .load 28 (.tmp 58), 28, "law.go:66", #[⟨2, .data⟩], none⟩
def stp12_o4 : Oper := ⟨some 60, .load 68 (.tmp 7), 68, "law.go:66", #[], none⟩
def stp12_o5 : Oper := ⟨some 61, .fieldAddr 66 (.tmp 4) 5, 0, "law.go:66", #[], none⟩
def stp12_o6 : Oper := ⟨some 62, .load 64 (.tmp 61), 64, "law.go:66", #[⟨5, .data⟩], none⟩
def stp12_o7 : Oper := ⟨some 63, .call { callee := Callee.value (Operand.func 26), args := #[.tmp 59, .tmp 60, .tmp 62], argTypes := #[28, 68, 64] }, 0, "law.go:66", #[⟨3, .data⟩, ⟨4, .data⟩, ⟨6, .data⟩], none⟩
def stp12_ops : Array Oper := #[stp12_o0, stp12_o1, stp12_o2, stp12_o3, stp12_o4, stp12_o5, stp12_o6, stp12_o7]
theorem stp12 {x d ob pb : Nat} {o : OpR} {p : PlK} (S : World → Prop) (Fin : World → Prop) (a : Act) (w : World) (Q : Exit → Act → World → Prop) (zz : a.tmps.size = 117)
    (t0 : a.tmps.getD 0 undef = .pointer (some ⟨x, 0, none⟩))
    (t4 : a.tmps.getD 4 undef = .pointer (some ⟨ob, 0, none⟩))
    (t7 : a.tmps.getD 7 undef = .pointer (some ⟨pb, 0, none⟩))
    (h0 : S w.drew) (LD : ∀ W, S W → (Instr.loadAt 28 (.pointer (some ⟨x, 0 + 1, none⟩))).run Tryz.prog W = .ok (.pointer (some ⟨d, 0, none⟩)) W) (LP : ∀ W, S W → (Instr.loadAt 68 (.pointer (some ⟨pb, 0, none⟩))).run Tryz.prog W = .ok (p.v) W) (LS : ∀ W, S W → (Instr.loadAt 64 (.pointer (some ⟨ob, 0 + 40, none⟩))).run Tryz.prog W = .ok (o.seen) W) (CC : Calls Tryz.prog 26 #[.pointer (some ⟨d, 0, none⟩), p.v, o.seen] w.drew fun e w' => e = .returned (.tuple #[]) ∧ S w' ∧ Fin w')
    (h : ∀ (a' : Act) (w' : World), Fin w' → a' = ((((((((a).put (some 56) (.pointer (some ⟨x, 0, none⟩))).put (some 57) (.pointer (some ⟨x, 0, none⟩))).put (some 58) (.pointer (some ⟨x, 0 + 1, none⟩))).put (some 59) (.pointer (some ⟨d, 0, none⟩))).put (some 60) (p.v)).put (some 61) (.pointer (some ⟨ob, 0 + 40, none⟩))).put (some 62) (o.seen)).put (some 63) (.tuple #[]) → Q .normal a' w') :
    (Code.region 12 stp12_ops true).wp Tryz.prog Q a w := by
  refine y0 (fun w' => S w') (h0) (fun hHeld => ?_)
  refine yv 0 rfl rfl (fun w1 hw => exec_move rfl (zi t0 rfl)) hHeld ?_
  refine yv 1 rfl rfl (fun w1 hw => exec_nilCheck rfl (zg zz rfl)) hHeld ?_
  refine yv 2 rfl rfl (fun w1 hw => exec_fieldAt rfl (zg zz rfl) (fg_33_1 _ _ _)) hHeld ?_
  refine yv 3 rfl rfl (fun w1 hw => exec_load rfl (zg zz rfl) (LD _ hw)) hHeld ?_
  refine yv 4 rfl rfl (fun w1 hw => exec_load rfl (zi t7 rfl) (LP _ hw)) hHeld ?_
  refine yv 5 rfl rfl (fun w1 hw => exec_fieldAt rfl (zi t4 rfl) (fg_66_5 _ _ _)) hHeld ?_
  refine yv 6 rfl rfl (fun w1 hw => exec_load rfl (zg zz rfl) (LS _ hw)) hHeld ?_
  refine yc 7 rfl rfl (exec_c3 rfl (zg zz rfl) (zg zz rfl) (zg zz rfl)) (CC) (fun e x7 hx => ?_)
  obtain ⟨rfl, S1, HF⟩ := hx
  refine ⟨_, rfl, S1, fun hHeld => ?_⟩
  exact ye rfl (h _ _ (HF) rfl)
def stp14_o0 : Oper := ⟨some 66, .move (.tmp 0), 25, "law.go:68", #[], none⟩
def stp14_o1 : Oper := ⟨some 67, .nilCheck (.tmp 66), 0, "law.go:68", #[⟨0, .data⟩], none⟩
def stp14_o2 : Oper := ⟨some 68, .fieldAddr 33 (.tmp 67) 0, 0, "law.go:68", #[⟨1, .data⟩], none⟩
def stp14_o3 : Oper := ⟨some 69, .load 26 (.tmp 68), 26, "law.go:68", #[⟨2, .data⟩], none⟩
def stp14_o4 : Oper := ⟨some 70, .load 68 (.tmp 7), 68, "law.go:68", #[], none⟩
def stp14_o5 : Oper := ⟨some 71, .fieldAddr 66 (.tmp 4) 4, 0, "law.go:68", #[], none⟩
def stp14_o6 : Oper := ⟨some 72, .load 2 (.tmp 71), 2, "law.go:68", #[⟨5, .data⟩], none⟩
def stp14_o7 : Oper := ⟨some 73, .move (.tmp 9), 83, "law.go:68", #[], none⟩
def stp14_o8 : Oper := ⟨some 74, .call { callee := Callee.value (Operand.func 19), args := #[.tmp 69, .tmp 70, .tmp 72, .tmp 73], argTypes := #[26, 68, 2, 83] }, 80, "law.go:68", #[⟨3, .data⟩, ⟨4, .data⟩, ⟨6, .data⟩, ⟨7, .data⟩], none⟩
def stp14_o9 : Oper := ⟨some 10, .assign (.tmp 74), 80, "law.go:68", #[⟨8, .data⟩, ⟨8, .chain⟩, ⟨0, .phase⟩, ⟨1, .phase⟩, ⟨2, .phase⟩, ⟨3, .phase⟩, ⟨4, .phase⟩, ⟨5, .phase⟩, ⟨6, .phase⟩, ⟨7, .phase⟩, ⟨8, .phase⟩], none⟩
def stp14_ops : Array Oper := #[stp14_o0, stp14_o1, stp14_o2, stp14_o3, stp14_o4, stp14_o5, stp14_o6, stp14_o7, stp14_o8, stp14_o9]
theorem stp14 {x rb ob pb : Nat} {o : OpR} {p : PlK} {fv : Value} (S : World → Prop) (Fin : Nat → World → Prop) (a : Act) (w : World) (Q : Exit → Act → World → Prop) (zz : a.tmps.size = 117)
    (t0 : a.tmps.getD 0 undef = .pointer (some ⟨x, 0, none⟩))
    (t4 : a.tmps.getD 4 undef = .pointer (some ⟨ob, 0, none⟩))
    (t7 : a.tmps.getD 7 undef = .pointer (some ⟨pb, 0, none⟩))
    (t9 : a.tmps.getD 9 undef = fv)
    (h0 : S w.drew) (LR : ∀ W, S W → (Instr.loadAt 26 (.pointer (some ⟨x, 0 + 0, none⟩))).run Tryz.prog W = .ok (.pointer (some ⟨rb, 0, none⟩)) W) (LP : ∀ W, S W → (Instr.loadAt 68 (.pointer (some ⟨pb, 0, none⟩))).run Tryz.prog W = .ok (p.v) W) (LN : ∀ W, S W → (Instr.loadAt 2 (.pointer (some ⟨ob, 0 + 39, none⟩))).run Tryz.prog W = .ok (.int .i64 o.n) W) (CC : Calls Tryz.prog 19 #[.pointer (some ⟨rb, 0, none⟩), p.v, .int .i64 o.n, fv] w.drew fun e w' => ∃ bk, e = .returned (.pointer (some ⟨bk, 0, none⟩)) ∧ S w' ∧ Fin bk w')
    (h : ∀ (bk : Nat) (a' : Act) (w' : World), Fin bk w' → a' = ((((((((((a).put (some 66) (.pointer (some ⟨x, 0, none⟩))).put (some 67) (.pointer (some ⟨x, 0, none⟩))).put (some 68) (.pointer (some ⟨x, 0 + 0, none⟩))).put (some 69) (.pointer (some ⟨rb, 0, none⟩))).put (some 70) (p.v)).put (some 71) (.pointer (some ⟨ob, 0 + 39, none⟩))).put (some 72) (.int .i64 o.n)).put (some 73) (fv)).put (some 74) (.pointer (some ⟨bk, 0, none⟩))).put (some 10) (.pointer (some ⟨bk, 0, none⟩)) → Q .normal a' w') :
    (Code.region 14 stp14_ops true).wp Tryz.prog Q a w := by
  refine y0 (fun w' => S w') (h0) (fun hHeld => ?_)
  refine yv 0 rfl rfl (fun w1 hw => exec_move rfl (zi t0 rfl)) hHeld ?_
  refine yv 1 rfl rfl (fun w1 hw => exec_nilCheck rfl (zg zz rfl)) hHeld ?_
  refine yv 2 rfl rfl (fun w1 hw => exec_fieldAt rfl (zg zz rfl) (fg_33_0 _ _ _)) hHeld ?_
  refine yv 3 rfl rfl (fun w1 hw => exec_load rfl (zg zz rfl) (LR _ hw)) hHeld ?_
  refine yv 4 rfl rfl (fun w1 hw => exec_load rfl (zi t7 rfl) (LP _ hw)) hHeld ?_
  refine yv 5 rfl rfl (fun w1 hw => exec_fieldAt rfl (zi t4 rfl) (fg_66_4 _ _ _)) hHeld ?_
  refine yv 6 rfl rfl (fun w1 hw => exec_load rfl (zg zz rfl) (LN _ hw)) hHeld ?_
  refine yv 7 rfl rfl (fun w1 hw => exec_move rfl (zi t9 rfl)) hHeld ?_
  refine yc 8 rfl rfl (exec_c4 rfl (zg zz rfl) (zg zz rfl) (zg zz rfl) (zg zz rfl)) (CC) (fun e x8 hx => ?_)
  obtain ⟨bk, rfl, S1, HF⟩ := hx
  replace h := h bk
  refine ⟨_, rfl, S1, fun hHeld => ?_⟩
  refine yv 9 rfl rfl (fun w1 hw => exec_assign rfl (zg zz rfl)) hHeld ?_
  exact ye rfl (h _ _ (HF) rfl)
def stp15_o0 : Oper := ⟨some 75, .move (.tmp 0), 25, "law.go:69", #[], none⟩
def stp15_o1 : Oper := ⟨some 76, .nilCheck (.tmp 75), 0, "law.go:69", #[⟨0, .data⟩], none⟩
def stp15_o2 : Oper := ⟨some 77, .fieldAddr 33 (.tmp 76) 1, 0, "law.go:69", #[⟨1, .data⟩], none⟩
def stp15_o3 : Oper := ⟨some 78, .load 28 (.tmp 77), 28, "law.go:69", #[⟨2, .data⟩], none⟩
def stp15_o4 : Oper := ⟨some 79, .load 68 (.tmp 7), 68, "law.go:69", #[], none⟩
def stp15_o5 : Oper := ⟨some 80, .fieldAddr 66 (.tmp 4) 4, 0, "law.go:69", #[], none⟩
def stp15_o6 : Oper := ⟨some 81, .load 2 (.tmp 80), 2, "law.go:69", #[⟨5, .data⟩], none⟩
def stp15_o7 : Oper := ⟨some 82, .fieldAddr 66 (.tmp 4) 5, 0, "law.go:69", #[], none⟩
def stp15_o8 : Oper := ⟨some 83, .load 64 (.tmp 82), 64, "law.go:69", #[⟨7, .data⟩], none⟩
def stp15_o9 : Oper := ⟨some 84, .call { callee := Callee.value (Operand.func 27), args := #[.tmp 78, .tmp 79, .tmp 81, .tmp 83], argTypes := #[28, 68, 2, 64] }, 0, "law.go:69", #[⟨3, .data⟩, ⟨4, .data⟩, ⟨6, .data⟩, ⟨8, .data⟩], none⟩
def stp15_ops : Array Oper := #[stp15_o0, stp15_o1, stp15_o2, stp15_o3, stp15_o4, stp15_o5, stp15_o6, stp15_o7, stp15_o8, stp15_o9]
theorem stp15 {x d ob pb : Nat} {o : OpR} {p : PlK} (S : World → Prop) (Fin : World → Prop) (a : Act) (w : World) (Q : Exit → Act → World → Prop) (zz : a.tmps.size = 117)
    (t0 : a.tmps.getD 0 undef = .pointer (some ⟨x, 0, none⟩))
    (t4 : a.tmps.getD 4 undef = .pointer (some ⟨ob, 0, none⟩))
    (t7 : a.tmps.getD 7 undef = .pointer (some ⟨pb, 0, none⟩))
    (h0 : S w.drew) (LD : ∀ W, S W → (Instr.loadAt 28 (.pointer (some ⟨x, 0 + 1, none⟩))).run Tryz.prog W = .ok (.pointer (some ⟨d, 0, none⟩)) W) (LP : ∀ W, S W → (Instr.loadAt 68 (.pointer (some ⟨pb, 0, none⟩))).run Tryz.prog W = .ok (p.v) W) (LN : ∀ W, S W → (Instr.loadAt 2 (.pointer (some ⟨ob, 0 + 39, none⟩))).run Tryz.prog W = .ok (.int .i64 o.n) W) (LS : ∀ W, S W → (Instr.loadAt 64 (.pointer (some ⟨ob, 0 + 40, none⟩))).run Tryz.prog W = .ok (o.seen) W) (CC : Calls Tryz.prog 27 #[.pointer (some ⟨d, 0, none⟩), p.v, .int .i64 o.n, o.seen] w.drew fun e w' => e = .returned (.tuple #[]) ∧ S w' ∧ Fin w')
    (h : ∀ (a' : Act) (w' : World), Fin w' → a' = ((((((((((a).put (some 75) (.pointer (some ⟨x, 0, none⟩))).put (some 76) (.pointer (some ⟨x, 0, none⟩))).put (some 77) (.pointer (some ⟨x, 0 + 1, none⟩))).put (some 78) (.pointer (some ⟨d, 0, none⟩))).put (some 79) (p.v)).put (some 80) (.pointer (some ⟨ob, 0 + 39, none⟩))).put (some 81) (.int .i64 o.n)).put (some 82) (.pointer (some ⟨ob, 0 + 40, none⟩))).put (some 83) (o.seen)).put (some 84) (.tuple #[]) → Q .normal a' w') :
    (Code.region 15 stp15_ops true).wp Tryz.prog Q a w := by
  refine y0 (fun w' => S w') (h0) (fun hHeld => ?_)
  refine yv 0 rfl rfl (fun w1 hw => exec_move rfl (zi t0 rfl)) hHeld ?_
  refine yv 1 rfl rfl (fun w1 hw => exec_nilCheck rfl (zg zz rfl)) hHeld ?_
  refine yv 2 rfl rfl (fun w1 hw => exec_fieldAt rfl (zg zz rfl) (fg_33_1 _ _ _)) hHeld ?_
  refine yv 3 rfl rfl (fun w1 hw => exec_load rfl (zg zz rfl) (LD _ hw)) hHeld ?_
  refine yv 4 rfl rfl (fun w1 hw => exec_load rfl (zi t7 rfl) (LP _ hw)) hHeld ?_
  refine yv 5 rfl rfl (fun w1 hw => exec_fieldAt rfl (zi t4 rfl) (fg_66_4 _ _ _)) hHeld ?_
  refine yv 6 rfl rfl (fun w1 hw => exec_load rfl (zg zz rfl) (LN _ hw)) hHeld ?_
  refine yv 7 rfl rfl (fun w1 hw => exec_fieldAt rfl (zi t4 rfl) (fg_66_5 _ _ _)) hHeld ?_
  refine yv 8 rfl rfl (fun w1 hw => exec_load rfl (zg zz rfl) (LS _ hw)) hHeld ?_
  refine yc 9 rfl rfl (exec_c4 rfl (zg zz rfl) (zg zz rfl) (zg zz rfl) (zg zz rfl)) (CC) (fun e x9 hx => ?_)
  obtain ⟨rfl, S1, HF⟩ := hx
  refine ⟨_, rfl, S1, fun hHeld => ?_⟩
  exact ye rfl (h _ _ (HF) rfl)
def stp17_o0 : Oper := ⟨some 87, .move (.tmp 0), 25, "law.go:71", #[], none⟩
def stp17_o1 : Oper := ⟨some 88, .fieldAddr 66 (.tmp 4) 6, 0, "law.go:71", #[], none⟩
def stp17_o2 : Oper := ⟨some 89, .load 3 (.tmp 88), 3, "law.go:71", #[⟨1, .data⟩], none⟩
def stp17_o3 : Oper := ⟨some 90, .call { callee := Callee.value (Operand.func 16), args := #[.tmp 87, .tmp 89], argTypes := #[25, 3] }, 4, "law.go:71", #[⟨0, .data⟩, ⟨2, .data⟩], none⟩
def stp17_o4 : Oper := ⟨some 6, .assign (.tmp 90), 4, "law.go:71", #[⟨3, .data⟩, ⟨3, .chain⟩, ⟨0, .phase⟩, ⟨1, .phase⟩, ⟨2, .phase⟩, ⟨3, .phase⟩], none⟩
def stp17_ops : Array Oper := #[stp17_o0, stp17_o1, stp17_o2, stp17_o3, stp17_o4]
theorem stp17 {x ob : Nat} {o : OpR} (Fin : World → Prop) (a : Act) (w : World) (Q : Exit → Act → World → Prop) (zz : a.tmps.size = 117)
    (t0 : a.tmps.getD 0 undef = .pointer (some ⟨x, 0, none⟩))
    (t4 : a.tmps.getD 4 undef = .pointer (some ⟨ob, 0, none⟩))
    (LB : ∀ W, W = w → (Instr.loadAt 3 (.pointer (some ⟨ob, 0 + 41, none⟩))).run Tryz.prog W = .ok (.int .i64 o.back) W) (CU : Calls Tryz.prog 16 #[.pointer (some ⟨x, 0, none⟩), .int .i64 o.back] w fun e w' => e = .returned (.bool true) ∧ Fin w')
    (h : ∀ (a' : Act) (w' : World), Fin w' → a' = (((((a).put (some 87) (.pointer (some ⟨x, 0, none⟩))).put (some 88) (.pointer (some ⟨ob, 0 + 41, none⟩))).put (some 89) (.int .i64 o.back)).put (some 90) (.bool true)).put (some 6) (.bool true) → Q .normal a' w') :
    (Code.region 17 stp17_ops false).wp Tryz.prog Q a w := by
  refine z0 rfl ?_
  refine zv rfl (exec_move rfl (zi t0 rfl)) ?_
  refine zv rfl (exec_fieldAt rfl (zi t4 rfl) (fg_66_6 _ _ _)) ?_
  refine zv rfl (exec_load rfl (zg zz rfl) (LB _ rfl)) ?_
  refine zc rfl (exec_c2 rfl (zg zz rfl) (zg zz rfl)) (CU) (fun e x3 hx => ?_)
  obtain ⟨rfl, HF⟩ := hx
  refine ⟨_, rfl, ?_⟩
  refine zv rfl (exec_assign rfl (zg zz rfl)) ?_
  exact ze rfl (h _ _ (HF) rfl)
def stp18_o0 : Oper := ⟨some 91, .move (.tmp 0), 25, "law.go:75", #[], none⟩
def stp18_o1 : Oper := ⟨some 92, .move (.tmp 0), 25, "law.go:75", #[], none⟩
def stp18_o2 : Oper := ⟨some 93, .nilCheck (.tmp 92), 0, "law.go:75", #[⟨1, .data⟩], none⟩
def stp18_o3 : Oper := ⟨some 94, .fieldAddr 33 (.tmp 93) 2, 0, "law.go:75", #[⟨2, .data⟩], none⟩
def stp18_o4 : Oper := ⟨some 95, .load 30 (.tmp 94), 30, "law.go:75", #[⟨3, .data⟩], none⟩
def stp18_o5 : Oper := ⟨some 96, .move (.tmp 10), 80, "law.go:75", #[], none⟩
def stp18_o6 : Oper := ⟨some 97, .buildSlice 30 1 #[(0, .tmp 96)], 30, "law.go:75", #[⟨5, .data⟩], none⟩
def stp18_o7 : Oper := ⟨some 98, .call { callee := Callee.builtin Builtin.append, args := #[.tmp 95, .tmp 97], argTypes := #[30, 30] }, 30, "law.go:75", #[⟨4, .data⟩, ⟨6, .data⟩], none⟩
def stp18_o8 : Oper := ⟨some 99, .nilCheck (.tmp 91), 0, "law.go:75", #[⟨0, .data⟩, ⟨0, .phase⟩, ⟨1, .phase⟩, ⟨2, .phase⟩, ⟨3, .phase⟩, ⟨4, .phase⟩, ⟨5, .phase⟩, ⟨6, .phase⟩, ⟨7, .phase⟩], none⟩
def stp18_o9 : Oper := ⟨some 100, .fieldAddr 33 (.tmp 99) 2, 0, "law.go:75", #[⟨8, .data⟩, ⟨0, .phase⟩, ⟨1, .phase⟩, ⟨2, .phase⟩, ⟨3, .phase⟩, ⟨4, .phase⟩, ⟨5, .phase⟩, ⟨6, .phase⟩, ⟨7, .phase⟩], none⟩
def stp18_o10 : Oper := ⟨none, .store 30 (.tmp 100) (.tmp 98), 0, "law.go:75", #[⟨9, .data⟩, ⟨7, .data⟩, ⟨7, .chain⟩, ⟨0, .phase⟩, ⟨1, .phase⟩, ⟨2, .phase⟩, ⟨3, .phase⟩, ⟨4, .phase⟩, ⟨5, .phase⟩, ⟨6, .phase⟩, ⟨7, .phase⟩], none⟩
def stp18_ops : Array Oper := #[stp18_o0, stp18_o1, stp18_o2, stp18_o3, stp18_o4, stp18_o5, stp18_o6, stp18_o7, stp18_o8, stp18_o9, stp18_o10]
theorem stp18 {x bk : Nat} {bv sv bv2 : Value} {w1 w2 w3 : World} (a : Act) (w : World) (Q : Exit → Act → World → Prop) (zz : a.tmps.size = 117)
    (t0 : a.tmps.getD 0 undef = .pointer (some ⟨x, 0, none⟩))
    (t10 : a.tmps.getD 10 undef = .pointer (some ⟨bk, 0, none⟩))
    (L2 : ∀ W, W = w → (Instr.loadAt 30 (.pointer (some ⟨x, 0 + 2, none⟩))).run Tryz.prog W = .ok (bv) W) (E1 : (Instr.buildSlice 30 1 #[(0, .pointer (some ⟨bk, 0, none⟩))]).run Tryz.prog w = .ok sv w1) (E2 : (Builtin.append_ #[30, 30] 30 #[bv, sv]).run Tryz.prog w1 = .ok bv2 w2) (E3 : (Instr.storeAt 30 (.pointer (some ⟨x, 0 + 2, none⟩)) bv2).run Tryz.prog w2 = .ok () w3)
    (h : ∀ (a' : Act) (w' : World), w' = w3 → a' = ((((((((((a).put (some 91) (.pointer (some ⟨x, 0, none⟩))).put (some 92) (.pointer (some ⟨x, 0, none⟩))).put (some 93) (.pointer (some ⟨x, 0, none⟩))).put (some 94) (.pointer (some ⟨x, 0 + 2, none⟩))).put (some 95) (bv)).put (some 96) (.pointer (some ⟨bk, 0, none⟩))).put (some 97) (sv)).put (some 98) (bv2)).put (some 99) (.pointer (some ⟨x, 0, none⟩))).put (some 100) (.pointer (some ⟨x, 0 + 2, none⟩)) → Q .normal a' w') :
    (Code.region 18 stp18_ops false).wp Tryz.prog Q a w := by
  refine z0 rfl ?_
  refine zv rfl (exec_move rfl (zi t0 rfl)) ?_
  refine zv rfl (exec_move rfl (zi t0 rfl)) ?_
  refine zv rfl (exec_nilCheck rfl (zg zz rfl)) ?_
  refine zv rfl (exec_fieldAt rfl (zg zz rfl) (fg_33_2 _ _ _)) ?_
  refine zv rfl (exec_load rfl (zg zz rfl) (L2 _ rfl)) ?_
  refine zv rfl (exec_move rfl (zi t10 rfl)) ?_
  refine zv (v := sv) rfl (exec_buildSlice rfl (zg zz rfl) E1) ?_
  refine zv (v := bv2) rfl (exec_append rfl (zg zz rfl) (zg zz rfl) E2) ?_
  refine zv rfl (exec_nilCheck rfl (zg zz rfl)) ?_
  refine zv rfl (exec_fieldAt rfl (zg zz rfl) (fg_33_2 _ _ _)) ?_
  refine zs rfl (exec_store rfl (zg zz rfl) (zg zz rfl) E3) ?_
  exact ze rfl (h _ _ (rfl) rfl)
def stp19_o0 : Oper := ⟨some 101, .move (.tmp 0), 25, "law.go:76", #[], none⟩
def stp19_o1 : Oper := ⟨some 102, .move (.tmp 0), 25, "law.go:76", #[], none⟩
def stp19_o2 : Oper := ⟨some 103, .nilCheck (.tmp 102), 0, "law.go:76", #[⟨1, .data⟩], none⟩
def stp19_o3 : Oper := ⟨some 104, .fieldAddr 33 (.tmp 103) 3, 0, "law.go:76", #[⟨2, .data⟩], none⟩
def stp19_o4 : Oper := ⟨some 105, .load 31 (.tmp 104), 31, "law.go:76", #[⟨3, .data⟩], none⟩
def stp19_o5 : Oper := ⟨some 106, .move (.tmp 0), 25, "law.go:76", #[], none⟩
def stp19_o6 : Oper := ⟨some 107, .nilCheck (.tmp 106), 0, "law.go:76", #[⟨5, .data⟩], none⟩
def stp19_o7 : Oper := ⟨some 108, .fieldAddr 33 (.tmp 107) 1, 0, "law.go:76", #[⟨6, .data⟩], none⟩
def stp19_o8 : Oper := ⟨some 109, .load 28 (.tmp 108), 28, "law.go:76", #[⟨7, .data⟩], none⟩
def stp19_o9 : Oper := ⟨some 110, .call { callee := Callee.value (Operand.func 28), args := #[.tmp 109], argTypes := #[28] }, 3, "law.go:76", #[⟨8, .data⟩], none⟩
def stp19_o10 : Oper := ⟨some 111, .buildSlice 31 1 #[(0, .tmp 110)], 31, "law.go:76", #[⟨9, .data⟩], none⟩
def stp19_o11 : Oper := ⟨some 112, .call { callee := Callee.builtin Builtin.append, args := #[.tmp 105, .tmp 111], argTypes := #[31, 31] }, 31, "law.go:76", #[⟨4, .data⟩, ⟨10, .data⟩, ⟨9, .chain⟩], none⟩
def stp19_o12 : Oper := ⟨some 113, .nilCheck (.tmp 101), 0, "law.go:76", #[⟨0, .data⟩, ⟨0, .phase⟩, ⟨1, .phase⟩, ⟨2, .phase⟩, ⟨3, .phase⟩, ⟨4, .phase⟩, ⟨5, .phase⟩, ⟨6, .phase⟩, ⟨7, .phase⟩, ⟨8, .phase⟩, ⟨9, .phase⟩, ⟨10, .phase⟩, ⟨11, .phase⟩], none⟩
def stp19_o13 : Oper := ⟨some 114, .fieldAddr 33 (.tmp 113) 3, 0, "law.go:76", #[⟨12, .data⟩, ⟨0, .phase⟩, ⟨1, .phase⟩, ⟨2, .phase⟩, ⟨3, .phase⟩, ⟨4, .phase⟩, ⟨5, .phase⟩, ⟨6, .phase⟩, ⟨7, .phase⟩, ⟨8, .phase⟩, ⟨9, .phase⟩, ⟨10, .phase⟩, ⟨11, .phase⟩], none⟩
def stp19_o14 : Oper := ⟨none, .store 31 (.tmp 114) (.tmp 112), 0, "law.go:76", #[⟨13, .data⟩, ⟨11, .data⟩, ⟨11, .chain⟩, ⟨0, .phase⟩, ⟨1, .phase⟩, ⟨2, .phase⟩, ⟨3, .phase⟩, ⟨4, .phase⟩, ⟨5, .phase⟩, ⟨6, .phase⟩, ⟨7, .phase⟩, ⟨8, .phase⟩, ⟨9, .phase⟩, ⟨10, .phase⟩, ⟨11, .phase⟩], none⟩
def stp19_ops : Array Oper := #[stp19_o0, stp19_o1, stp19_o2, stp19_o3, stp19_o4, stp19_o5, stp19_o6, stp19_o7, stp19_o8, stp19_o9, stp19_o10, stp19_o11, stp19_o12, stp19_o13, stp19_o14]
theorem stp19 {x d : Nat} {z : Int} {iv sv iv2 : Value} {w1 w2 w3 : World} (S : World → Prop) (a : Act) (w : World) (Q : Exit → Act → World → Prop) (zz : a.tmps.size = 117)
    (t0 : a.tmps.getD 0 undef = .pointer (some ⟨x, 0, none⟩))
    (h0 : S w.drew) (L3 : ∀ W, S W → (Instr.loadAt 31 (.pointer (some ⟨x, 0 + 3, none⟩))).run Tryz.prog W = .ok (iv) W) (LD : ∀ W, S W → (Instr.loadAt 28 (.pointer (some ⟨x, 0 + 1, none⟩))).run Tryz.prog W = .ok (.pointer (some ⟨d, 0, none⟩)) W) (CS : Calls Tryz.prog 28 #[.pointer (some ⟨d, 0, none⟩)] w.drew fun e w' => e = .returned (.int .i64 z) ∧ w' = w.drew) (S1 : S w.drew) (E1 : (Instr.buildSlice 31 1 #[(0, .int .i64 z)]).run Tryz.prog w.drew = .ok sv w1) (S2 : S w1) (E2 : (Builtin.append_ #[31, 31] 31 #[iv, sv]).run Tryz.prog w1 = .ok iv2 w2) (S3 : S w2) (E3 : (Instr.storeAt 31 (.pointer (some ⟨x, 0 + 3, none⟩)) iv2).run Tryz.prog w2 = .ok () w3)
    (h : ∀ (a' : Act) (w' : World), w' = w3 → a' = ((((((((((((((a).put (some 101) (.pointer (some ⟨x, 0, none⟩))).put (some 102) (.pointer (some ⟨x, 0, none⟩))).put (some 103) (.pointer (some ⟨x, 0, none⟩))).put (some 104) (.pointer (some ⟨x, 0 + 3, none⟩))).put (some 105) (iv)).put (some 106) (.pointer (some ⟨x, 0, none⟩))).put (some 107) (.pointer (some ⟨x, 0, none⟩))).put (some 108) (.pointer (some ⟨x, 0 + 1, none⟩))).put (some 109) (.pointer (some ⟨d, 0, none⟩))).put (some 110) (.int .i64 z)).put (some 111) (sv)).put (some 112) (iv2)).put (some 113) (.pointer (some ⟨x, 0, none⟩))).put (some 114) (.pointer (some ⟨x, 0 + 3, none⟩)) → Q .normal a' w') :
    (Code.region 19 stp19_ops true).wp Tryz.prog Q a w := by
  refine x0 14 (fun w' => S w') (h0) (fun hHeld => ?_)
  refine xv 0 rfl rfl (fun w1 hw => exec_move rfl (zi t0 rfl)) hHeld ?_
  refine xv 1 rfl rfl (fun w1 hw => exec_move rfl (zi t0 rfl)) hHeld ?_
  refine xv 2 rfl rfl (fun w1 hw => exec_nilCheck rfl (zg zz rfl)) hHeld ?_
  refine xv 3 rfl rfl (fun w1 hw => exec_fieldAt rfl (zg zz rfl) (fg_33_3 _ _ _)) hHeld ?_
  refine xv 4 rfl rfl (fun w1 hw => exec_load rfl (zg zz rfl) (L3 _ hw)) hHeld ?_
  refine xv 5 rfl rfl (fun w1 hw => exec_move rfl (zi t0 rfl)) hHeld ?_
  refine xv 6 rfl rfl (fun w1 hw => exec_nilCheck rfl (zg zz rfl)) hHeld ?_
  refine xv 7 rfl rfl (fun w1 hw => exec_fieldAt rfl (zg zz rfl) (fg_33_1 _ _ _)) hHeld ?_
  refine xv 8 rfl rfl (fun w1 hw => exec_load rfl (zg zz rfl) (LD _ hw)) hHeld ?_
  refine xc 9 rfl rfl (exec_c1 rfl (zg zz rfl)) (CS) (fun e x9 hx => ?_)
  obtain ⟨rfl, rfl⟩ := hx
  refine ⟨_, rfl, fun _ => S1, fun hHeld => ?_⟩
  replace hHeld := hHeld (by decide)
  refine xr (v := sv) 10 rfl rfl (exec_buildSlice rfl (zg zz rfl) E1) (fun _ => S2) (fun hHeld => ?_)
  replace hHeld := hHeld (by decide)
  refine xr (v := iv2) 11 rfl rfl (exec_append rfl (zg zz rfl) (zg zz rfl) E2) (fun _ => S3) (fun hHeld => ?_)
  replace hHeld := hHeld (by decide)
  refine xv 12 rfl rfl (fun w1 hw => exec_nilCheck rfl (zg zz rfl)) hHeld ?_
  refine xv 13 rfl rfl (fun w1 hw => exec_fieldAt rfl (zg zz rfl) (fg_33_3 _ _ _)) hHeld ?_
  refine xs 14 rfl rfl (exec_store rfl (zg zz rfl) (zg zz rfl) E3) (fun hne => absurd rfl hne) (fun _ => ?_)
  exact xe rfl (h _ _ (rfl) rfl)
def dun5_o0 : Oper := ⟨some 28, .move (.tmp 0), 25, "law.go:88", #[], none⟩
def dun5_o1 : Oper := ⟨some 29, .nilCheck (.tmp 28), 0, "law.go:88", #[⟨0, .data⟩], none⟩
def dun5_o2 : Oper := ⟨some 30, .fieldAddr 33 (.tmp 29) 0, 0, "law.go:88", #[⟨1, .data⟩], none⟩
def dun5_o3 : Oper := ⟨some 31, .load 26 (.tmp 30), 26, "law.go:88", #[⟨2, .data⟩], none⟩
def dun5_o4 : Oper := ⟨some 32, .move (.tmp 0), 25, "law.go:88", #[], none⟩
def dun5_o5 : Oper := ⟨some 33, .nilCheck (.tmp 32), 0, "law.go:88", #[⟨4, .data⟩], none⟩
def dun5_o6 : Oper := ⟨some 34, .fieldAddr 33 (.tmp 33) 2, 0, "law.go:88", #[⟨5, .data⟩], none⟩
def dun5_o7 : Oper := ⟨some 35, .load 30 (.tmp 34), 30, "law.go:88", #[⟨6, .data⟩], none⟩
def dun5_o8 : Oper := ⟨some 36, .move (.tmp 1), 3, "law.go:88", #[], none⟩
def dun5_o9 : Oper := ⟨some 37, .indexAddr 30 (.tmp 35) (.tmp 36), 0, "law.go:88", #[⟨7, .data⟩, ⟨8, .data⟩], none⟩
def dun5_o10 : Oper := ⟨some 38, .load 80 (.tmp 37), 80, "law.go:88", #[⟨9, .data⟩], none⟩
def dun5_o11 : Oper := ⟨some 39, .call { callee := Callee.value (Operand.func 21), args := #[.tmp 31, .tmp 38], argTypes := #[26, 80] }, 86, "law.go:88", #[⟨3, .data⟩, ⟨10, .data⟩], none⟩
def dun5_o12 : Oper := ⟨some 5, .assign (.tmp 39), 86, "law.go:88", #[⟨11, .data⟩, ⟨11, .chain⟩, ⟨0, .phase⟩, ⟨1, .phase⟩, ⟨2, .phase⟩, ⟨3, .phase⟩, ⟨4, .phase⟩, ⟨5, .phase⟩, ⟨6, .phase⟩, ⟨7, .phase⟩, ⟨8, .phase⟩, ⟨9, .phase⟩, ⟨10, .phase⟩, ⟨11, .phase⟩], none⟩
def dun5_ops : Array Oper := #[dun5_o0, dun5_o1, dun5_o2, dun5_o3, dun5_o4, dun5_o5, dun5_o6, dun5_o7, dun5_o8, dun5_o9, dun5_o10, dun5_o11, dun5_o12]
theorem dun5 {x rb g o n c i bk : Nat} {z : Int} (S Fin : World → Prop) (a : Act) (w : World) (Q : Exit → Act → World → Prop) (zz : a.tmps.size = 63)
    (t0 : a.tmps.getD 0 undef = .pointer (some ⟨x, 0, none⟩))
    (t1 : a.tmps.getD 1 undef = .int .i64 (i : Int))
    (hi : i < n) (hm : n ≤ 9223372036854775807) (h0 : S w.drew) (L1 : ∀ W, S W → (Instr.loadAt 26 (.pointer (some ⟨x, 0 + 0, none⟩))).run Tryz.prog W = .ok (.pointer (some ⟨rb, 0, none⟩)) W) (L2 : ∀ W, S W → (Instr.loadAt 30 (.pointer (some ⟨x, 0 + 2, none⟩))).run Tryz.prog W = .ok (.slice (some ⟨g, o, none⟩) n c) W) (L3 : ∀ W, S W → (Instr.loadAt 80 (.pointer (some ⟨g, o + i, none⟩))).run Tryz.prog W = .ok (.pointer (some ⟨bk, 0, none⟩)) W) (CU : Calls Tryz.prog 21 #[.pointer (some ⟨rb, 0, none⟩), .pointer (some ⟨bk, 0, none⟩)] w.drew fun e w' => e = .returned (.int .i64 z) ∧ S w' ∧ Fin w')
    (h : ∀ (a' : Act) (w' : World), Fin w' → a' = (((((((((((((a).put (some 28) (.pointer (some ⟨x, 0, none⟩))).put (some 29) (.pointer (some ⟨x, 0, none⟩))).put (some 30) (.pointer (some ⟨x, 0 + 0, none⟩))).put (some 31) (.pointer (some ⟨rb, 0, none⟩))).put (some 32) (.pointer (some ⟨x, 0, none⟩))).put (some 33) (.pointer (some ⟨x, 0, none⟩))).put (some 34) (.pointer (some ⟨x, 0 + 2, none⟩))).put (some 35) (.slice (some ⟨g, o, none⟩) n c)).put (some 36) (.int .i64 (i : Int))).put (some 37) (.pointer (some ⟨g, o + i, none⟩))).put (some 38) (.pointer (some ⟨bk, 0, none⟩))).put (some 39) (.int .i64 z)).put (some 5) (.int .i64 z) → Q .normal a' w') :
    (Code.region 5 dun5_ops true).wp Tryz.prog Q a w := by
  refine y0 (fun w' => S w') (h0) (fun hHeld => ?_)
  refine yv 0 rfl rfl (fun w1 hw => exec_move rfl (zi t0 rfl)) hHeld ?_
  refine yv 1 rfl rfl (fun w1 hw => exec_nilCheck rfl (zg zz rfl)) hHeld ?_
  refine yv 2 rfl rfl (fun w1 hw => exec_fieldAt rfl (zg zz rfl) (fg_33_0 _ _ _)) hHeld ?_
  refine yv 3 rfl rfl (fun w1 hw => exec_load rfl (zg zz rfl) (L1 _ hw)) hHeld ?_
  refine yv 4 rfl rfl (fun w1 hw => exec_move rfl (zi t0 rfl)) hHeld ?_
  refine yv 5 rfl rfl (fun w1 hw => exec_nilCheck rfl (zg zz rfl)) hHeld ?_
  refine yv 6 rfl rfl (fun w1 hw => exec_fieldAt rfl (zg zz rfl) (fg_33_2 _ _ _)) hHeld ?_
  refine yv 7 rfl rfl (fun w1 hw => exec_load rfl (zg zz rfl) (L2 _ hw)) hHeld ?_
  refine yv 8 rfl rfl (fun w1 hw => exec_move rfl (zi t1 rfl)) hHeld ?_
  refine yv 9 rfl rfl (fun w1 hw => exec_indexAt rfl (zg zz rfl) (zg zz rfl) (ix_bkl hi hm _)) hHeld ?_
  refine yv 10 rfl rfl (fun w1 hw => exec_load rfl (zg zz rfl) (L3 _ hw)) hHeld ?_
  refine yc 11 rfl rfl (exec_c2 rfl (zg zz rfl) (zg zz rfl)) (CU) (fun e x11 hx => ?_)
  obtain ⟨rfl, S1, HF⟩ := hx
  refine ⟨_, rfl, S1, fun hHeld => ?_⟩
  refine yv 12 rfl rfl (fun w1 hw => exec_assign rfl (zg zz rfl)) hHeld ?_
  exact ye rfl (h _ _ (HF) rfl)
def dun6_o0 : Oper := ⟨some 40, .move (.tmp 0), 25, "law.go:89", #[], none⟩
def dun6_o1 : Oper := ⟨some 41, .nilCheck (.tmp 40), 0, "law.go:89", #[⟨0, .data⟩], none⟩
def dun6_o2 : Oper := ⟨some 42, .fieldAddr 33 (.tmp 41) 1, 0, "law.go:89", #[⟨1, .data⟩], none⟩
def dun6_o3 : Oper := ⟨some 43, .load 28 (.tmp 42), 28, "law.go:89", #[⟨2, .data⟩], none⟩
def dun6_o4 : Oper := ⟨some 44, .move (.tmp 0), 25, "law.go:89", #[], none⟩
def dun6_o5 : Oper := ⟨some 45, .nilCheck (.tmp 44), 0, "law.go:89", #[⟨4, .data⟩], none⟩
def dun6_o6 : Oper := ⟨some 46, .fieldAddr 33 (.tmp 45) 3, 0, "law.go:89", #[⟨5, .data⟩], none⟩
def dun6_o7 : Oper := ⟨some 47, .load 31 (.tmp 46), 31, "law.go:89", #[⟨6, .data⟩], none⟩
def dun6_o8 : Oper := ⟨some 48, .move (.tmp 1), 3, "law.go:89", #[], none⟩
def dun6_o9 : Oper := ⟨some 49, .indexAddr 31 (.tmp 47) (.tmp 48), 0, "law.go:89", #[⟨7, .data⟩, ⟨8, .data⟩], none⟩
def dun6_o10 : Oper := ⟨some 50, .load 3 (.tmp 49), 3, "law.go:89", #[⟨9, .data⟩], none⟩
def dun6_o11 : Oper := ⟨some 51, .call { callee := Callee.value (Operand.func 58), args := #[.tmp 43, .tmp 50], argTypes := #[28, 3] }, 86, "law.go:89", #[⟨3, .data⟩, ⟨10, .data⟩], none⟩
def dun6_o12 : Oper := ⟨some 6, .assign (.tmp 51), 86, "law.go:89", #[⟨11, .data⟩, ⟨11, .chain⟩, ⟨0, .phase⟩, ⟨1, .phase⟩, ⟨2, .phase⟩, ⟨3, .phase⟩, ⟨4, .phase⟩, ⟨5, .phase⟩, ⟨6, .phase⟩, ⟨7, .phase⟩, ⟨8, .phase⟩, ⟨9, .phase⟩, ⟨10, .phase⟩, ⟨11, .phase⟩], none⟩
def dun6_ops : Array Oper := #[dun6_o0, dun6_o1, dun6_o2, dun6_o3, dun6_o4, dun6_o5, dun6_o6, dun6_o7, dun6_o8, dun6_o9, dun6_o10, dun6_o11, dun6_o12]
theorem dun6 {x d g o n c i : Nat} {z s : Int} (S Fin : World → Prop) (a : Act) (w : World) (Q : Exit → Act → World → Prop) (zz : a.tmps.size = 63)
    (t0 : a.tmps.getD 0 undef = .pointer (some ⟨x, 0, none⟩))
    (t1 : a.tmps.getD 1 undef = .int .i64 (i : Int))
    (hi : i < n) (hm : n ≤ 9223372036854775807) (h0 : S w.drew) (L1 : ∀ W, S W → (Instr.loadAt 28 (.pointer (some ⟨x, 0 + 1, none⟩))).run Tryz.prog W = .ok (.pointer (some ⟨d, 0, none⟩)) W) (L2 : ∀ W, S W → (Instr.loadAt 31 (.pointer (some ⟨x, 0 + 3, none⟩))).run Tryz.prog W = .ok (.slice (some ⟨g, o, none⟩) n c) W) (L3 : ∀ W, S W → (Instr.loadAt 3 (.pointer (some ⟨g, o + i, none⟩))).run Tryz.prog W = .ok (.int .i64 s) W) (CU : Calls Tryz.prog 58 #[.pointer (some ⟨d, 0, none⟩), .int .i64 s] w.drew fun e w' => e = .returned (.int .i64 z) ∧ S w' ∧ Fin w')
    (h : ∀ (a' : Act) (w' : World), Fin w' → a' = (((((((((((((a).put (some 40) (.pointer (some ⟨x, 0, none⟩))).put (some 41) (.pointer (some ⟨x, 0, none⟩))).put (some 42) (.pointer (some ⟨x, 0 + 1, none⟩))).put (some 43) (.pointer (some ⟨d, 0, none⟩))).put (some 44) (.pointer (some ⟨x, 0, none⟩))).put (some 45) (.pointer (some ⟨x, 0, none⟩))).put (some 46) (.pointer (some ⟨x, 0 + 3, none⟩))).put (some 47) (.slice (some ⟨g, o, none⟩) n c)).put (some 48) (.int .i64 (i : Int))).put (some 49) (.pointer (some ⟨g, o + i, none⟩))).put (some 50) (.int .i64 s)).put (some 51) (.int .i64 z)).put (some 6) (.int .i64 z) → Q .normal a' w') :
    (Code.region 6 dun6_ops true).wp Tryz.prog Q a w := by
  refine y0 (fun w' => S w') (h0) (fun hHeld => ?_)
  refine yv 0 rfl rfl (fun w1 hw => exec_move rfl (zi t0 rfl)) hHeld ?_
  refine yv 1 rfl rfl (fun w1 hw => exec_nilCheck rfl (zg zz rfl)) hHeld ?_
  refine yv 2 rfl rfl (fun w1 hw => exec_fieldAt rfl (zg zz rfl) (fg_33_1 _ _ _)) hHeld ?_
  refine yv 3 rfl rfl (fun w1 hw => exec_load rfl (zg zz rfl) (L1 _ hw)) hHeld ?_
  refine yv 4 rfl rfl (fun w1 hw => exec_move rfl (zi t0 rfl)) hHeld ?_
  refine yv 5 rfl rfl (fun w1 hw => exec_nilCheck rfl (zg zz rfl)) hHeld ?_
  refine yv 6 rfl rfl (fun w1 hw => exec_fieldAt rfl (zg zz rfl) (fg_33_3 _ _ _)) hHeld ?_
  refine yv 7 rfl rfl (fun w1 hw => exec_load rfl (zg zz rfl) (L2 _ hw)) hHeld ?_
  refine yv 8 rfl rfl (fun w1 hw => exec_move rfl (zi t1 rfl)) hHeld ?_
  refine yv 9 rfl rfl (fun w1 hw => exec_indexAt rfl (zg zz rfl) (zg zz rfl) (ix_inl hi hm _)) hHeld ?_
  refine yv 10 rfl rfl (fun w1 hw => exec_load rfl (zg zz rfl) (L3 _ hw)) hHeld ?_
  refine yc 11 rfl rfl (exec_c2 rfl (zg zz rfl) (zg zz rfl)) (CU) (fun e x11 hx => ?_)
  obtain ⟨rfl, S1, HF⟩ := hx
  refine ⟨_, rfl, S1, fun hHeld => ?_⟩
  refine yv 12 rfl rfl (fun w1 hw => exec_assign rfl (zg zz rfl)) hHeld ?_
  exact ye rfl (h _ _ (HF) rfl)
def dun10_o0 : Oper := ⟨some 57, .move (.tmp 0), 25, "law.go:94", #[], none⟩
def dun10_o1 : Oper := ⟨some 58, .nilCheck (.tmp 57), 0, "law.go:94", #[⟨0, .data⟩], none⟩
def dun10_o2 : Oper := ⟨some 59, .fieldAddr 33 (.tmp 58) 3, 0, "law.go:94", #[⟨1, .data⟩], none⟩
def dun10_o3 : Oper := ⟨some 60, .load 31 (.tmp 59), 31, "law.go:94", #[⟨2, .data⟩], none⟩
def dun10_o4 : Oper := ⟨some 61, .move (.tmp 1), 3, "law.go:94", #[], none⟩
def dun10_o5 : Oper := ⟨some 62, .indexAddr 31 (.tmp 60) (.tmp 61), 0, "law.go:94", #[⟨3, .data⟩, ⟨4, .data⟩, ⟨0, .phase⟩, ⟨1, .phase⟩, ⟨2, .phase⟩, ⟨3, .phase⟩, ⟨4, .phase⟩], none⟩
def dun10_o6 : Oper := ⟨none, .store 3 (.tmp 62) (Operand.const (Value.int IntKind.i64 0)), 0, "law.go:94", #[⟨5, .data⟩, ⟨0, .phase⟩, ⟨1, .phase⟩, ⟨2, .phase⟩, ⟨3, .phase⟩, ⟨4, .phase⟩], none⟩
def dun10_ops : Array Oper := #[dun10_o0, dun10_o1, dun10_o2, dun10_o3, dun10_o4, dun10_o5, dun10_o6]
theorem dun10 {x g o n c i : Nat} {w1 : World} (a : Act) (w : World) (Q : Exit → Act → World → Prop) (zz : a.tmps.size = 63)
    (t0 : a.tmps.getD 0 undef = .pointer (some ⟨x, 0, none⟩))
    (t1 : a.tmps.getD 1 undef = .int .i64 (i : Int))
    (hi : i < n) (hm : n ≤ 9223372036854775807) (L2 : ∀ W, W = w → (Instr.loadAt 31 (.pointer (some ⟨x, 0 + 3, none⟩))).run Tryz.prog W = .ok (.slice (some ⟨g, o, none⟩) n c) W) (E1 : (Instr.storeAt 3 (.pointer (some ⟨g, o + i, none⟩)) (.int .i64 0)).run Tryz.prog w = .ok () w1)
    (h : ∀ (a' : Act) (w' : World), w' = w1 → a' = ((((((a).put (some 57) (.pointer (some ⟨x, 0, none⟩))).put (some 58) (.pointer (some ⟨x, 0, none⟩))).put (some 59) (.pointer (some ⟨x, 0 + 3, none⟩))).put (some 60) (.slice (some ⟨g, o, none⟩) n c)).put (some 61) (.int .i64 (i : Int))).put (some 62) (.pointer (some ⟨g, o + i, none⟩)) → Q .normal a' w') :
    (Code.region 10 dun10_ops false).wp Tryz.prog Q a w := by
  refine z0 rfl ?_
  refine zv rfl (exec_move rfl (zi t0 rfl)) ?_
  refine zv rfl (exec_nilCheck rfl (zg zz rfl)) ?_
  refine zv rfl (exec_fieldAt rfl (zg zz rfl) (fg_33_3 _ _ _)) ?_
  refine zv rfl (exec_load rfl (zg zz rfl) (L2 _ rfl)) ?_
  refine zv rfl (exec_move rfl (zi t1 rfl)) ?_
  refine zv rfl (exec_indexAt rfl (zg zz rfl) (zg zz rfl) (ix_inl hi hm _)) ?_
  refine zs rfl (exec_store rfl (zg zz rfl) rfl E1) ?_
  exact ze rfl (h _ _ (rfl) rfl)
def las4f_o0 : Oper := ⟨some 13, .move (.tmp 0), 25, "law.go:102", #[], none⟩
def las4f_o1 : Oper := ⟨some 14, .nilCheck (.tmp 13), 0, "law.go:102", #[⟨0, .data⟩], none⟩
def las4f_o2 : Oper := ⟨some 15, .fieldAddr 33 (.tmp 14) 3, 0, "law.go:102", #[⟨1, .data⟩], none⟩
def las4f_o3 : Oper := ⟨some 16, .load 31 (.tmp 15), 31, "law.go:102", #[⟨2, .data⟩], none⟩
def las4f_o4 : Oper := ⟨some 17, .move (.tmp 3), 3, "law.go:102", #[], none⟩
def las4f_o5 : Oper := ⟨some 18, .indexAddr 31 (.tmp 16) (.tmp 17), 0, "law.go:102", #[⟨3, .data⟩, ⟨4, .data⟩], none⟩
def las4f_o6 : Oper := ⟨some 19, .load 3 (.tmp 18), 3, "law.go:102", #[⟨5, .data⟩], none⟩
def las4f_o7 : Oper := ⟨some 20, .binOp BinOp.gtr 3 (.tmp 19) (Operand.const (Value.int IntKind.i64 0)) 3, 4, "law.go:102", #[⟨6, .data⟩], none⟩
def las4f_o8 : Oper := ⟨some 21, .move (.tmp 20), 4, "law.go:102", #[⟨7, .data⟩], none⟩
def las4f_o9 : Oper := ⟨some 22, .move (.tmp 0), 25, "law.go:102", #[⟨8, .guard⟩], some (8, true)⟩
def las4f_o10 : Oper := ⟨some 23, .nilCheck (.tmp 22), 0, "law.go:102", #[⟨9, .data⟩, ⟨8, .guard⟩], some (8, true)⟩
def las4f_o11 : Oper := ⟨some 24, .fieldAddr 33 (.tmp 23) 3, 0, "law.go:102", #[⟨10, .data⟩, ⟨8, .guard⟩], some (8, true)⟩
def las4f_o12 : Oper := ⟨some 25, .load 31 (.tmp 24), 31, "law.go:102", #[⟨11, .data⟩, ⟨8, .guard⟩], some (8, true)⟩
def las4f_o13 : Oper := ⟨some 26, .move (.tmp 3), 3, "law.go:102", #[⟨8, .guard⟩], some (8, true)⟩
def las4f_o14 : Oper := ⟨some 27, .indexAddr 31 (.tmp 25) (.tmp 26), 0, "law.go:102", #[⟨12, .data⟩, ⟨13, .data⟩, ⟨8, .guard⟩], some (8, true)⟩
def las4f_o15 : Oper := ⟨some 28, .load 3 (.tmp 27), 3, "law.go:102", #[⟨14, .data⟩, ⟨8, .guard⟩], some (8, true)⟩
def las4f_o16 : Oper := ⟨some 29, .move (.tmp 0), 25, "law.go:102", #[⟨8, .guard⟩], some (8, true)⟩
def las4f_o17 : Oper := ⟨some 30, .nilCheck (.tmp 29), 0, "law.go:102", #[⟨16, .data⟩, ⟨8, .guard⟩], some (8, true)⟩
def las4f_o18 : Oper := ⟨some 31, .fieldAddr 33 (.tmp 30) 1, 0, "law.go:102", #[⟨17, .data⟩, ⟨8, .guard⟩], some (8, true)⟩
def las4f_o19 : Oper := ⟨some 32, .load 28 (.tmp 31), 28, "law.go:102", #[⟨18, .data⟩, ⟨8, .guard⟩], some (8, true)⟩
def las4f_o20 : Oper := ⟨some 33, .call { callee := Callee.value (Operand.func 28), args := #[.tmp 32], argTypes := #[28] }, 3, "law.go:102", #[⟨19, .data⟩, ⟨8, .chain⟩, ⟨8, .guard⟩], some (8, true)⟩
def las4f_o21 : Oper := ⟨some 34, .binOp BinOp.eql 3 (.tmp 28) (.tmp 33) 3, 4, "law.go:102", #[⟨15, .data⟩, ⟨20, .data⟩, ⟨8, .guard⟩], some (8, true)⟩
def las4f_o22 : Oper := ⟨some 35, .pick (.tmp 21) (.tmp 34) (Operand.const (Value.bool false)), 4, "law.go:102", #[⟨8, .data⟩, ⟨21, .data⟩], none⟩
def las4f_ops : Array Oper := #[las4f_o0, las4f_o1, las4f_o2, las4f_o3, las4f_o4, las4f_o5, las4f_o6, las4f_o7, las4f_o8, las4f_o9, las4f_o10, las4f_o11, las4f_o12, las4f_o13, las4f_o14, las4f_o15, las4f_o16, las4f_o17, las4f_o18, las4f_o19, las4f_o20, las4f_o21, las4f_o22]
theorem las4f {x g o n c i : Nat} {s : Int} (S : World → Prop) (a : Act) (w : World) (Q : Exit → Act → World → Prop) (zz : a.tmps.size = 37)
    (t0 : a.tmps.getD 0 undef = .pointer (some ⟨x, 0, none⟩))
    (t3 : a.tmps.getD 3 undef = .int .i64 (i : Int))
    (hi : i < n) (hm : n ≤ 9223372036854775807) (hs : ¬ s > 0) (h0 : S w.drew) (L2 : ∀ W, S W → (Instr.loadAt 31 (.pointer (some ⟨x, 0 + 3, none⟩))).run Tryz.prog W = .ok (.slice (some ⟨g, o, none⟩) n c) W) (L3 : ∀ W, S W → (Instr.loadAt 3 (.pointer (some ⟨g, o + i, none⟩))).run Tryz.prog W = .ok (.int .i64 s) W)
    (h : ∀ (a' : Act) (w' : World), S w' → a' = (((((((((((((((((((((((a).put (some 13) (.pointer (some ⟨x, 0, none⟩))).put (some 14) (.pointer (some ⟨x, 0, none⟩))).put (some 15) (.pointer (some ⟨x, 0 + 3, none⟩))).put (some 16) (.slice (some ⟨g, o, none⟩) n c)).put (some 17) (.int .i64 (i : Int))).put (some 18) (.pointer (some ⟨g, o + i, none⟩))).put (some 19) (.int .i64 s)).put (some 20) (.bool false)).put (some 21) (.bool false)).put (some 22) (undef)).put (some 23) (undef)).put (some 24) (undef)).put (some 25) (undef)).put (some 26) (undef)).put (some 27) (undef)).put (some 28) (undef)).put (some 29) (undef)).put (some 30) (undef)).put (some 31) (undef)).put (some 32) (undef)).put (some 33) (undef)).put (some 34) (undef)).put (some 35) (.bool false) → Q .normal a' w') :
    (Code.region 4 las4f_ops true).wp Tryz.prog Q a w := by
  refine y0 (fun w' => S w') (h0) (fun hHeld => ?_)
  refine yv 0 rfl rfl (fun w1 hw => exec_move rfl (zi t0 rfl)) hHeld ?_
  refine yv 1 rfl rfl (fun w1 hw => exec_nilCheck rfl (zg zz rfl)) hHeld ?_
  refine yv 2 rfl rfl (fun w1 hw => exec_fieldAt rfl (zg zz rfl) (fg_33_3 _ _ _)) hHeld ?_
  refine yv 3 rfl rfl (fun w1 hw => exec_load rfl (zg zz rfl) (L2 _ hw)) hHeld ?_
  refine yv 4 rfl rfl (fun w1 hw => exec_move rfl (zi t3 rfl)) hHeld ?_
  refine yv 5 rfl rfl (fun w1 hw => exec_indexAt rfl (zg zz rfl) (zg zz rfl) (ix_inl hi hm _)) hHeld ?_
  refine yv 6 rfl rfl (fun w1 hw => exec_load rfl (zg zz rfl) (L3 _ hw)) hHeld ?_
  refine yv (v := .bool false) 7 rfl rfl (fun w1 hw => ex_gti (decide_eq_false hs) rfl (zg zz rfl) rfl) hHeld ?_
  refine yv 8 rfl rfl (fun w1 hw => exec_move rfl (zg zz rfl)) hHeld ?_
  refine yn 9 rfl (zx zz rfl rfl rfl (zg zz rfl)) hHeld ?_
  refine yn 10 rfl (zx zz rfl rfl rfl (zg zz rfl)) hHeld ?_
  refine yn 11 rfl (zx zz rfl rfl rfl (zg zz rfl)) hHeld ?_
  refine yn 12 rfl (zx zz rfl rfl rfl (zg zz rfl)) hHeld ?_
  refine yn 13 rfl (zx zz rfl rfl rfl (zg zz rfl)) hHeld ?_
  refine yn 14 rfl (zx zz rfl rfl rfl (zg zz rfl)) hHeld ?_
  refine yn 15 rfl (zx zz rfl rfl rfl (zg zz rfl)) hHeld ?_
  refine yn 16 rfl (zx zz rfl rfl rfl (zg zz rfl)) hHeld ?_
  refine yn 17 rfl (zx zz rfl rfl rfl (zg zz rfl)) hHeld ?_
  refine yn 18 rfl (zx zz rfl rfl rfl (zg zz rfl)) hHeld ?_
  refine yn 19 rfl (zx zz rfl rfl rfl (zg zz rfl)) hHeld ?_
  refine yn 20 rfl (zx zz rfl rfl rfl (zg zz rfl)) hHeld ?_
  refine yn 21 rfl (zx zz rfl rfl rfl (zg zz rfl)) hHeld ?_
  refine yv 22 rfl rfl (fun w1 hw => exec_pickF rfl (zg zz rfl) rfl) hHeld ?_
  exact ye rfl (h _ _ (hHeld) rfl)
def las4t_o0 : Oper := ⟨some 13, .move (.tmp 0), 25, "law.go:102", #[], none⟩
def las4t_o1 : Oper := ⟨some 14, .nilCheck (.tmp 13), 0, "law.go:102", #[⟨0, .data⟩], none⟩
def las4t_o2 : Oper := ⟨some 15, .fieldAddr 33 (.tmp 14) 3, 0, "law.go:102", #[⟨1, .data⟩], none⟩
def las4t_o3 : Oper := ⟨some 16, .load 31 (.tmp 15), 31, "law.go:102", #[⟨2, .data⟩], none⟩
def las4t_o4 : Oper := ⟨some 17, .move (.tmp 3), 3, "law.go:102", #[], none⟩
def las4t_o5 : Oper := ⟨some 18, .indexAddr 31 (.tmp 16) (.tmp 17), 0, "law.go:102", #[⟨3, .data⟩, ⟨4, .data⟩], none⟩
def las4t_o6 : Oper := ⟨some 19, .load 3 (.tmp 18), 3, "law.go:102", #[⟨5, .data⟩], none⟩
def las4t_o7 : Oper := ⟨some 20, .binOp BinOp.gtr 3 (.tmp 19) (Operand.const (Value.int IntKind.i64 0)) 3, 4, "law.go:102", #[⟨6, .data⟩], none⟩
def las4t_o8 : Oper := ⟨some 21, .move (.tmp 20), 4, "law.go:102", #[⟨7, .data⟩], none⟩
def las4t_o9 : Oper := ⟨some 22, .move (.tmp 0), 25, "law.go:102", #[⟨8, .guard⟩], some (8, true)⟩
def las4t_o10 : Oper := ⟨some 23, .nilCheck (.tmp 22), 0, "law.go:102", #[⟨9, .data⟩, ⟨8, .guard⟩], some (8, true)⟩
def las4t_o11 : Oper := ⟨some 24, .fieldAddr 33 (.tmp 23) 3, 0, "law.go:102", #[⟨10, .data⟩, ⟨8, .guard⟩], some (8, true)⟩
def las4t_o12 : Oper := ⟨some 25, .load 31 (.tmp 24), 31, "law.go:102", #[⟨11, .data⟩, ⟨8, .guard⟩], some (8, true)⟩
def las4t_o13 : Oper := ⟨some 26, .move (.tmp 3), 3, "law.go:102", #[⟨8, .guard⟩], some (8, true)⟩
def las4t_o14 : Oper := ⟨some 27, .indexAddr 31 (.tmp 25) (.tmp 26), 0, "law.go:102", #[⟨12, .data⟩, ⟨13, .data⟩, ⟨8, .guard⟩], some (8, true)⟩
def las4t_o15 : Oper := ⟨some 28, .load 3 (.tmp 27), 3, "law.go:102", #[⟨14, .data⟩, ⟨8, .guard⟩], some (8, true)⟩
def las4t_o16 : Oper := ⟨some 29, .move (.tmp 0), 25, "law.go:102", #[⟨8, .guard⟩], some (8, true)⟩
def las4t_o17 : Oper := ⟨some 30, .nilCheck (.tmp 29), 0, "law.go:102", #[⟨16, .data⟩, ⟨8, .guard⟩], some (8, true)⟩
def las4t_o18 : Oper := ⟨some 31, .fieldAddr 33 (.tmp 30) 1, 0, "law.go:102", #[⟨17, .data⟩, ⟨8, .guard⟩], some (8, true)⟩
def las4t_o19 : Oper := ⟨some 32, .load 28 (.tmp 31), 28, "law.go:102", #[⟨18, .data⟩, ⟨8, .guard⟩], some (8, true)⟩
def las4t_o20 : Oper := ⟨some 33, .call { callee := Callee.value (Operand.func 28), args := #[.tmp 32], argTypes := #[28] }, 3, "law.go:102", #[⟨19, .data⟩, ⟨8, .chain⟩, ⟨8, .guard⟩], some (8, true)⟩
def las4t_o21 : Oper := ⟨some 34, .binOp BinOp.eql 3 (.tmp 28) (.tmp 33) 3, 4, "law.go:102", #[⟨15, .data⟩, ⟨20, .data⟩, ⟨8, .guard⟩], some (8, true)⟩
def las4t_o22 : Oper := ⟨some 35, .pick (.tmp 21) (.tmp 34) (Operand.const (Value.bool false)), 4, "law.go:102", #[⟨8, .data⟩, ⟨21, .data⟩], none⟩
def las4t_ops : Array Oper := #[las4t_o0, las4t_o1, las4t_o2, las4t_o3, las4t_o4, las4t_o5, las4t_o6, las4t_o7, las4t_o8, las4t_o9, las4t_o10, las4t_o11, las4t_o12, las4t_o13, las4t_o14, las4t_o15, las4t_o16, las4t_o17, las4t_o18, las4t_o19, las4t_o20, las4t_o21, las4t_o22]
theorem las4t {x d g o n c i : Nat} {s z : Int} {r : Bool} (S : World → Prop) (a : Act) (w : World) (Q : Exit → Act → World → Prop) (zz : a.tmps.size = 37)
    (t0 : a.tmps.getD 0 undef = .pointer (some ⟨x, 0, none⟩))
    (t3 : a.tmps.getD 3 undef = .int .i64 (i : Int))
    (hi : i < n) (hm : n ≤ 9223372036854775807) (hs : s > 0) (hr : (s == z) = r) (h0 : S w.drew) (L2 : ∀ W, S W → (Instr.loadAt 31 (.pointer (some ⟨x, 0 + 3, none⟩))).run Tryz.prog W = .ok (.slice (some ⟨g, o, none⟩) n c) W) (L3 : ∀ W, S W → (Instr.loadAt 3 (.pointer (some ⟨g, o + i, none⟩))).run Tryz.prog W = .ok (.int .i64 s) W) (L1 : ∀ W, S W → (Instr.loadAt 28 (.pointer (some ⟨x, 0 + 1, none⟩))).run Tryz.prog W = .ok (.pointer (some ⟨d, 0, none⟩)) W) (CS : Calls Tryz.prog 28 #[.pointer (some ⟨d, 0, none⟩)] w.drew fun e w' => e = .returned (.int .i64 z) ∧ S w')
    (h : ∀ (a' : Act) (w' : World), S w' → a' = (((((((((((((((((((((((a).put (some 13) (.pointer (some ⟨x, 0, none⟩))).put (some 14) (.pointer (some ⟨x, 0, none⟩))).put (some 15) (.pointer (some ⟨x, 0 + 3, none⟩))).put (some 16) (.slice (some ⟨g, o, none⟩) n c)).put (some 17) (.int .i64 (i : Int))).put (some 18) (.pointer (some ⟨g, o + i, none⟩))).put (some 19) (.int .i64 s)).put (some 20) (.bool true)).put (some 21) (.bool true)).put (some 22) (.pointer (some ⟨x, 0, none⟩))).put (some 23) (.pointer (some ⟨x, 0, none⟩))).put (some 24) (.pointer (some ⟨x, 0 + 3, none⟩))).put (some 25) (.slice (some ⟨g, o, none⟩) n c)).put (some 26) (.int .i64 (i : Int))).put (some 27) (.pointer (some ⟨g, o + i, none⟩))).put (some 28) (.int .i64 s)).put (some 29) (.pointer (some ⟨x, 0, none⟩))).put (some 30) (.pointer (some ⟨x, 0, none⟩))).put (some 31) (.pointer (some ⟨x, 0 + 1, none⟩))).put (some 32) (.pointer (some ⟨d, 0, none⟩))).put (some 33) (.int .i64 z)).put (some 34) (.bool r)).put (some 35) (.bool r) → Q .normal a' w') :
    (Code.region 4 las4t_ops true).wp Tryz.prog Q a w := by
  refine y0 (fun w' => S w') (h0) (fun hHeld => ?_)
  refine yv 0 rfl rfl (fun w1 hw => exec_move rfl (zi t0 rfl)) hHeld ?_
  refine yv 1 rfl rfl (fun w1 hw => exec_nilCheck rfl (zg zz rfl)) hHeld ?_
  refine yv 2 rfl rfl (fun w1 hw => exec_fieldAt rfl (zg zz rfl) (fg_33_3 _ _ _)) hHeld ?_
  refine yv 3 rfl rfl (fun w1 hw => exec_load rfl (zg zz rfl) (L2 _ hw)) hHeld ?_
  refine yv 4 rfl rfl (fun w1 hw => exec_move rfl (zi t3 rfl)) hHeld ?_
  refine yv 5 rfl rfl (fun w1 hw => exec_indexAt rfl (zg zz rfl) (zg zz rfl) (ix_inl hi hm _)) hHeld ?_
  refine yv 6 rfl rfl (fun w1 hw => exec_load rfl (zg zz rfl) (L3 _ hw)) hHeld ?_
  refine yv (v := .bool true) 7 rfl rfl (fun w1 hw => ex_gti (decide_eq_true hs) rfl (zg zz rfl) rfl) hHeld ?_
  refine yv 8 rfl rfl (fun w1 hw => exec_move rfl (zg zz rfl)) hHeld ?_
  refine yv 9 rfl (zw zz rfl rfl rfl (zg zz rfl)) (fun w1 hw => exec_move rfl (zi t0 rfl)) hHeld ?_
  refine yv 10 rfl (zw zz rfl rfl rfl (zg zz rfl)) (fun w1 hw => exec_nilCheck rfl (zg zz rfl)) hHeld ?_
  refine yv 11 rfl (zw zz rfl rfl rfl (zg zz rfl)) (fun w1 hw => exec_fieldAt rfl (zg zz rfl) (fg_33_3 _ _ _)) hHeld ?_
  refine yv 12 rfl (zw zz rfl rfl rfl (zg zz rfl)) (fun w1 hw => exec_load rfl (zg zz rfl) (L2 _ hw)) hHeld ?_
  refine yv 13 rfl (zw zz rfl rfl rfl (zg zz rfl)) (fun w1 hw => exec_move rfl (zi t3 rfl)) hHeld ?_
  refine yv 14 rfl (zw zz rfl rfl rfl (zg zz rfl)) (fun w1 hw => exec_indexAt rfl (zg zz rfl) (zg zz rfl) (ix_inl hi hm _)) hHeld ?_
  refine yv 15 rfl (zw zz rfl rfl rfl (zg zz rfl)) (fun w1 hw => exec_load rfl (zg zz rfl) (L3 _ hw)) hHeld ?_
  refine yv 16 rfl (zw zz rfl rfl rfl (zg zz rfl)) (fun w1 hw => exec_move rfl (zi t0 rfl)) hHeld ?_
  refine yv 17 rfl (zw zz rfl rfl rfl (zg zz rfl)) (fun w1 hw => exec_nilCheck rfl (zg zz rfl)) hHeld ?_
  refine yv 18 rfl (zw zz rfl rfl rfl (zg zz rfl)) (fun w1 hw => exec_fieldAt rfl (zg zz rfl) (fg_33_1 _ _ _)) hHeld ?_
  refine yv 19 rfl (zw zz rfl rfl rfl (zg zz rfl)) (fun w1 hw => exec_load rfl (zg zz rfl) (L1 _ hw)) hHeld ?_
  refine yc 20 rfl (zw zz rfl rfl rfl (zg zz rfl)) (exec_c1 rfl (zg zz rfl)) (CS) (fun e x20 hx => ?_)
  obtain ⟨rfl, S1⟩ := hx
  refine ⟨_, rfl, S1, fun hHeld => ?_⟩
  refine yv (v := .bool r) 21 rfl (zw zz rfl rfl rfl (zg zz rfl)) (fun w1 hw => ex_eqi hr rfl (zg zz rfl) (zg zz rfl)) hHeld ?_
  refine yv 22 rfl rfl (fun w1 hw => exec_pickT rfl (zg zz rfl) (zg zz rfl)) hHeld ?_
  exact ye rfl (h _ _ (S1) rfl)
end Go.Proofs.YtldlljobofnmmaaGreatDoor
