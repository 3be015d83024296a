import Derived.Test.YtldlljobofnmmaaDoorP4
import Derived.Test.YtldlljobofnmmaaDoorP0
import Derived.Test.YtldlljobofnmmaaDoorP3
import Derived.Great.BuildSlice
import Derived.Laws.FloatArith
import Derived.Shelf.SlIter.Nil
import Derived.Shelf.SortM.Plain
import Derived.Shelf.SortM.SortNone
import Derived.Ground.GgzProg
import Derived.Ground.SlgmProg
import Derived.Shelf.SlGeneric
import Derived.Test.YtldlljobofnmmaaDoorRows
import Derived.Test.YtldlljobofnmmaaDoorP1
import Derived.StringKeys
set_option maxRecDepth 100000
set_option maxHeartbeats 4000000
namespace Go.Proofs.YtldlljobofnmmaaDoor
open Go.RowKit
set_option linter.unusedVariables false
set_option linter.unusedSimpArgs false
theorem SetE.from {B : Nat} {w w1 w' : World} {d : Nat} {X : Sls} {v : SlV} {pv : Value} {H : List (SlV × Sls)} {p : PlK} {L : List EnV} {lo : Value} (b : Below w.heap.size w w1) (h : SetE B w1 d X v pv H p L lo w') : SetE B w d X v pv H p L lo w' := by
  obtain ⟨X', v', h1, h2, h3, h4, h5, h6⟩ := h
  exact ⟨X', v', h1, h2, h3, (tch_of b _).trans' h4 (fun j _ q => q), h5.imp id (fun q j hj => Nat.le_trans b.size (q j hj)), h6⟩
theorem rf_set {B : Nat} {w : World} {d : Nat} {X : Sls} {v : SlV} {pv : Value} {H : List (SlV × Sls)} (h : RfP B w d X v pv H) (hB : B ≤ w.heap.size) (hn : X.length + 1 ≤ 1500000000000) {p : PlK} (hp : p.ok) {la : Option Addr} {lc : Nat} {L : List EnV} (hl : RN.Lo w B (.slice la L.length lc) L) (okL : ∀ x ∈ L, x.ok) (hln : L.length ≤ 2500000000000) :
    Calls Tryd.prog 65 #[.pointer (some ⟨d, 0, none⟩), p.v, .slice la L.length lc] w fun e w' => e = .returned (.tuple #[]) ∧ SetE B w d X v pv H p L (.slice la L.length lc) w' := by
  obtain ⟨a, c, e, hat⟩ := h.rfS
  obtain ⟨ps, hps⟩ := h.pastS
  obtain ⟨w1, E1, n1, b1⟩ := box_pl w p
  have h1 := h.below b1
  have hS : RfS w1 d a c X.row ps := ⟨by rw [show X.row.length = X.length by simp [Sls.row], ← e, ← hps]; exact h1.cell, hat.below b1, fun x hx => Sls.row_ok h.en x hx⟩
  have CF := hidMk (find_any hS (by simp [Sls.row]; omega) hp)
  have LP := hidMk (ld_pl hp (rng_cells n1))
  have H1 := hidMk E1
  have N1 := hidMk n1
  have HH := hidMk (And.intro h (And.intro b1 (And.intro hl (And.intro okL (And.intro hln hB)))))
  obtain ⟨n, hnn⟩ : ∃ n, L.length = n := ⟨_, rfl⟩
  have HN := hidMk hnn
  rw [hnn]
  have EV := hidMk e
  have hn' : n ≤ 2500000000000 := by omega
  have ST : Hid (∀ w2, Below w1.heap.size w1 w2 → RfP B w2 d X v pv H ∧ RN.Lo w2 B (SlV.v ⟨la, n, lc⟩) L ∧ B ≤ w2.heap.size ∧ Below w.heap.size w w2 ∧ w2.heap[w.heap.size]? = some (.cells p.c.toArray 52 (0, 0))) := by
    intro w2 b2
    have b := b1.trans (b2.mono b1.size)
    refine ⟨h.below b, ?_, Nat.le_trans hB b.size, b, (b2.block _ (Array.getElem?_eq_some_iff.1 n1).1).trans n1⟩
    show RN.Lo w2 B (.slice la n lc) L
    rw [← hnn]
    exact hl.below b
  clear h1 hS e hat hps E1 n1 b1 h hl okL hln hB hnn
  rcases fnd_ent X p with ⟨ef, en⟩ | ⟨i, q, ef, hq, hqp, en⟩
  · rw [ef] at CF
    have HNO : Hid (∀ z ∈ X, z.1.1 ≠ p) := fun z hz e2 => by
      have h2 := ent_of_mem HH.out.1.ok hz
      rw [e2, en] at h2
      exact HH.out.1.ok.ne z hz h2.symm
    have HE := hidMk en
    clear ef en
    by_cases h0 : n = 0
    · subst h0
      have hL0 : Hid (L = []) := List.eq_nil_of_length_eq_zero HN.out
      go_enter Tryd.func65, Tryd.ntmps65
      go_wp2_with (first
        | (refine wpList_run rfl (exec_boxE (t := 52) (v := p.v) (u := .pointer (some ⟨w.heap.size, 0, none⟩)) (w2 := w1) rfl rfl H1.out) ?_)
        | (refine wpList_val rfl (exec_load (t := 52) (v := p.v) rfl rfl LP.out) ?_)
        | (go_at_call 69; refine CF.out.mono ?_; rintro e w2 ⟨rfl, b2⟩; have B2 := hidMk b2; clear b2 CF)
        | fail)
      go_end0
      obtain ⟨r2, l2, hB2, bw, np⟩ := ST.out w2 B2.out
      refine ⟨rfl, X, v, r2, fun r => ?_, by omega, tch_of bw _, .inl rfl, fun z hz => .inl hz⟩
      by_cases e : r = p
      · rw [if_pos e, e, HE.out, hL0.out]
      · rw [if_neg e]
    · have hpos : 0 < n := by omega
      have hLne : Hid (L ≠ []) := fun e => h0 (by rw [← HN.out, e]; rfl)
      clear h0
      go_enter Tryd.func65, Tryd.ntmps65
      go_upto_region 7 with (first
        | (refine wpList_run rfl (exec_boxE (t := 52) (v := p.v) (u := .pointer (some ⟨w.heap.size, 0, none⟩)) (w2 := w1) rfl rfl H1.out) ?_)
        | (refine wpList_val rfl (exec_load (t := 52) (v := p.v) rfl rfl LP.out) ?_)
        | (go_at_call 69; refine CF.out.mono ?_; rintro e w2 ⟨rfl, b2⟩; have B2 := hidMk b2; clear b2 CF)
        | fail)
      have bd : Below w1.heap.size w1 w2.drew := B2.out.drew
      obtain ⟨r2, l2, hB2, bw, np⟩ := ST.out w2.drew bd
      obtain ⟨bv, x1, sv2, x2, x3, e1, c1, e2, t2, hd2, e3, st⟩ := set_new r2 hB2 hp HNO.out l2 HH.out.2.2.2.1 HH.out.2.2.2.2.1 hLne.out hn
      have SS : Hid (∀ W, (W.heap[d]? = some (.cells #[v.v, pv] 88 (0, 0)) ∧ W.heap[w.heap.size]? = some (.cells p.c.toArray 52 (0, 0))) → (Instr.loadAt 85 (.pointer (some ⟨d, 0 + 0, none⟩))).run Tryd.prog W = .ok v.v W ∧ (Instr.loadAt 52 (.pointer (some ⟨w.heap.size, 0, none⟩))).run Tryd.prog W = .ok p.v W) := fun W hW => ⟨by
        have hc : W.cell? ⟨d, 0, none⟩ = some (.slice v.a v.n v.c) := (cell_of_row W d 0 _ _ _ hW.1).trans rfl
        unfold SlV.v
        go_simp, ld_pl hp (rng_cells hW.2)⟩
      have nP : ¬ (w.heap.size = d ∨ v.v.ownBlock = some w.heap.size) := fun e => by
        rcases e with e | e
        · have := (Array.getElem?_eq_some_iff.1 HH.out.1.cell).1
          omega
        · have := HH.out.1.sl.lt e
          omega
      have HS := hidMk (And.intro (And.intro r2.cell np) (And.intro (And.intro ((c1.block d (Array.getElem?_eq_some_iff.1 r2.cell).1).trans r2.cell) ((c1.block _ (Array.getElem?_eq_some_iff.1 np).1).trans np)) (And.intro hd2 ((t2.block _ (Array.getElem?_eq_some_iff.1 np).1 nP).trans np))))
      have HR := hidMk (SetE.from bw st)
      have HX := hidMk (And.intro e1 (And.intro e2 e3))
      clear e1 c1 e2 t2 hd2 e3 st nP r2 l2 np bw bd
      refine set7 (d := d) (pb := w.heap.size) (en := n) (ec := lc) (ea := la) (p := p) (sv := v.v) (bv := bv) (sv2 := sv2) (w1 := x1) (w2 := x2) (w3 := x3) (fun W => W.heap[d]? = some (.cells #[v.v, pv] 88 (0, 0)) ∧ W.heap[w.heap.size]? = some (.cells p.c.toArray 52 (0, 0))) _ w2 _ rfl rfl rfl rfl hp HS.out.1 (fun W hW => (SS.out W hW).1) (fun W hW => (SS.out W hW).2) HX.out.1 HS.out.2.1 HX.out.2.1 HS.out.2.2 HX.out.2.2 ?_
      intro a' w3 hf ha
      subst ha
      subst hf
      simp only [Act.put, List.setIfInBounds_toArray, List.set_cons_zero, List.set_cons_succ]
      clear HX HS SS
      go_wp2
      go_end0
      exact ⟨rfl, HR.out⟩
  · rw [ef] at CF
    have HQ := hidMk (And.intro hq hqp)
    have hi : i < X.length := (List.getElem?_eq_some_iff.1 hq).1
    clear ef en hq hqp
    by_cases h0 : n = 0
    · subst h0
      have hL0 : Hid (L = []) := List.eq_nil_of_length_eq_zero HN.out
      go_enter Tryd.func65, Tryd.ntmps65
      go_upto_region 5 with (first
        | (refine wpList_run rfl (exec_boxE (t := 52) (v := p.v) (u := .pointer (some ⟨w.heap.size, 0, none⟩)) (w2 := w1) rfl rfl H1.out) ?_)
        | (refine wpList_val rfl (exec_load (t := 52) (v := p.v) rfl rfl LP.out) ?_)
        | (go_at_call 69; refine CF.out.mono ?_; rintro e w2 ⟨rfl, b2⟩; have B2 := hidMk b2; clear b2 CF)
        | fail)
      have bd : Below w1.heap.size w1 w2.drew := B2.out.drew
      obtain ⟨r2, l2, hB2, bw, np⟩ := ST.out w2.drew bd
      obtain ⟨av, zv, e0, x0, u1, x1, sv2, x2, x3, sa, sz, e1, c0, e2, c1, e3, c2, e4, st⟩ := set_del r2 hB2 HQ.out.1 hn (.slice la 0 lc)
      have SS : Hid (∀ W, W.heap[d]? = some (.cells #[v.v, pv] 88 (0, 0)) → (Instr.loadAt 85 (.pointer (some ⟨d, 0 + 0, none⟩))).run Tryd.prog W = .ok v.v W) := fun W hW => by
        have hc : W.cell? ⟨d, 0, none⟩ = some (.slice v.a v.n v.c) := (cell_of_row W d 0 _ _ _ hW).trans rfl
        have : (Instr.loadAt 85 (.pointer (some ⟨d, 0 + 0, none⟩))).run Tryd.prog W = .ok (.slice v.a v.n v.c) W := by go_simp
        exact this
      have ld := (Array.getElem?_eq_some_iff.1 r2.cell).1
      have HS := hidMk (And.intro r2.cell (And.intro ((c0.block d ld).trans r2.cell) (And.intro ((c1.block d ld).trans r2.cell) ((c2.block d ld).trans r2.cell))))
      have HR := hidMk (SetE.from bw st)
      have HX := hidMk (And.intro sa (And.intro sz (And.intro e1 (And.intro e2 (And.intro e3 e4)))))
      clear sa sz e1 e2 e3 e4 c0 c1 c2 st r2 l2 np bw bd ld
      refine set5 (d := d) (i := i) (j := i + 1) (sv := v.v) (av := av) (zv := zv) (e0 := e0) (u1 := u1) (sv2 := sv2) (w0 := x0) (w1 := x1) (w2 := x2) (w3 := x3) (fun W => W.heap[d]? = some (.cells #[v.v, pv] 88 (0, 0))) _ w2 _ rfl rfl rfl rfl (by omega) HS.out.1 SS.out HX.out.1 HX.out.2.1 HX.out.2.2.1 HS.out.2.1 HX.out.2.2.2.1 HS.out.2.2.1 HX.out.2.2.2.2.1 HS.out.2.2.2 HX.out.2.2.2.2.2 ?_
      intro a' w3 hf ha
      subst ha
      subst hf
      simp only [Act.put, List.setIfInBounds_toArray, List.set_cons_zero, List.set_cons_succ]
      clear HX HS SS
      go_wp2
      go_end0
      have := HR.out
      rw [HQ.out.2] at this
      rw [hL0.out]
      exact ⟨rfl, this⟩
    · have hpos : 0 < n := by omega
      have hLne : Hid (L ≠ []) := fun e => h0 (by rw [← HN.out, e]; rfl)
      clear h0
      go_enter Tryd.func65, Tryd.ntmps65
      go_upto_region 3 with (first
        | (refine wpList_run rfl (exec_boxE (t := 52) (v := p.v) (u := .pointer (some ⟨w.heap.size, 0, none⟩)) (w2 := w1) rfl rfl H1.out) ?_)
        | (refine wpList_val rfl (exec_load (t := 52) (v := p.v) rfl rfl LP.out) ?_)
        | (go_at_call 69; refine CF.out.mono ?_; rintro e w2 ⟨rfl, b2⟩; have B2 := hidMk b2; clear b2 CF)
        | fail)
      obtain ⟨r2, l2, hB2, bw, np⟩ := ST.out w2 B2.out
      obtain ⟨g, gc, x1, ev, e1, st⟩ := set_in r2 HQ.out.1 l2 HH.out.2.2.2.1 HH.out.2.2.2.2.1 hLne.out
      have L1 : Hid ((Instr.loadAt 85 (.pointer (some ⟨d, 0 + 0, none⟩))).run Tryd.prog w2 = .ok (.slice (some ⟨g, 0, none⟩) X.length gc) w2) := by
        have hc : w2.cell? ⟨d, 0, none⟩ = some (.slice (some ⟨g, 0, none⟩) X.length gc) := by rw [← ev]; exact (cell_of_row w2 d 0 _ _ _ r2.cell).trans rfl
        have : (Instr.loadAt 85 (.pointer (some ⟨d, 0 + 0, none⟩))).run Tryd.prog w2 = .ok (.slice (some ⟨g, 0, none⟩) X.length gc) w2 := by go_simp
        exact this
      have HR := hidMk (SetE.from bw st)
      have HX := hidMk e1
      clear e1 st r2 l2 np bw ev
      refine set3 (d := d) (g := g) (o := 0) (n := X.length) (c := gc) (i := i) (lv := .slice la n lc) (w1 := x1) _ w2 _ rfl rfl rfl rfl hi (by omega) (fun W e => by rw [e]; exact L1.out) HX.out ?_
      intro a' w3 hf ha
      subst ha
      subst hf
      simp only [Act.put, List.setIfInBounds_toArray, List.set_cons_zero, List.set_cons_succ]
      clear HX L1
      go_wp2
      go_end0
      have := HR.out
      rw [HQ.out.2] at this
      exact ⟨rfl, this⟩
theorem rf_undo_not {B : Nat} {w : World} {d : Nat} {X : Sls} {v : SlV} {pv : Value} {H : List (SlV × Sls)} (h : RfP B w d X v pv H) {m : Int} (hm : m < 1 ∨ m ≠ (H.length : Int)) : Calls Tryd.prog 68 #[.pointer (some ⟨d, 0, none⟩), .int .i64 m] w fun e w' => e = .returned (.int .i64 2) ∧ w' = w := by
  obtain ⟨a, c, e, _⟩ := h.past.open
  rw [List.length_map] at e
  have c1 : w.cell? ⟨d, 1, none⟩ = some (.slice a H.length c) := by rw [← e]; exact (cell_of_row w d 1 _ _ _ h.cell).trans rfl
  clear h e
  by_cases h1 : m < 1
  · clear hm
    go_enter Tryd.func68, Tryd.ntmps68
    go_wp2
    go_ret
    exact ⟨rfl, rfl⟩
  · have h2 : m ≠ (H.length : Int) := by
      rcases hm with h | h
      · exact absurd h h1
      · exact h
    have h3 : (m != (H.length : Int)) = true := by simpa using h2
    clear hm
    go_enter Tryd.func68, Tryd.ntmps68
    go_wp2
    go_ret
    exact ⟨rfl, rfl⟩
theorem ix_tx {b o m c i : Nat} (hi : i < m) (hm : m ≤ 9223372036854775807) (W : World) : (Instr.indexAt 67 (.slice (some ⟨b, o, none⟩) m c) (.int .i64 (i : Int))).run Tryd.prog W = .ok (.pointer (some ⟨b, o + i, none⟩)) W := by
  go_simp
theorem ix_ps {b o m c i : Nat} (hi : i < m) (hm : m ≤ 9223372036854775807) (W : World) : (Instr.indexAt 86 (.slice (some ⟨b, o, none⟩) m c) (.int .i64 (i : Int))).run Tryd.prog W = .ok (.pointer (some ⟨b, o + i, none⟩)) W := by
  go_simp
theorem exec_slu {w : World} {a : Act} {o : Oper} {t : TypeId} {x hi : Operand} {xv hv v : Value} (ho : o.op = .slice t x none (some hi) none) (hx : a.eval x = xv) (h2 : a.eval hi = hv) (hl : (Instr.sliceAt t xv none (some hv) none).run Tryd.prog w = .ok v w) : (execOp a.eval o).run Tryd.prog w = .ok (.value v) w := exec_slice ho hx rfl (by rw [Option.map_some, h2]) rfl hl
theorem ex_ltx {w : World} {a : Act} {o : Oper} {x y : Operand} {s t : ByteArray} {r : Bool} (ho : o.op = .binOp .lss 9 x y 9) (hx : a.eval x = .string s) (hy : a.eval y = .string t) (hl : (binOp .lss 9 (.string s) (.string t)).run Tryd.prog w = .ok (.bool r) w) : (execOp a.eval o).run Tryd.prog w = .ok (.value (.bool r)) w := by
  refine exec_binOp ho hx hy ?_ hl
  kernel_rfl
theorem ex_gtz {w : World} {a : Act} {o : Oper} {x y : Operand} {n : Nat} {r : Bool} (hr : decide (0 < n) = r) (ho : o.op = .binOp .gtr 3 x y 3) (hx : a.eval x = .int .i64 (n : Int)) (hy : a.eval y = .int .i64 0) : (execOp a.eval o).run Tryd.prog w = .ok (.value (.bool r)) w := by
  subst hr
  have h2 : decide ((n : Int) > 0) = decide (0 < n) := decide_eq_decide.2 (by omega)
  refine exec_binOp ho hx hy ?_ ?_
  · kernel_rfl
  · rw [← h2]
    go_simp
def rpu2_o0 : Oper := ⟨some 13, .move (.tmp 0), 28, "ref.go:101", #[], none⟩
def rpu2_o1 : Oper := ⟨some 14, .move (.tmp 0), 28, "ref.go:101", #[], none⟩
def rpu2_o2 : Oper := ⟨some 15, .nilCheck (.tmp 14), 0, "ref.go:101", #[⟨1, .data⟩], none⟩
def rpu2_o3 : Oper := ⟨some 16, .fieldAddr 88 (.tmp 15) 1, 0, "ref.go:101", #[⟨2, .data⟩], none⟩
def rpu2_o4 : Oper := ⟨some 17, .load 86 (.tmp 16), 86, "ref.go:101", #[⟨3, .data⟩], none⟩
def rpu2_o5 : Oper := ⟨some 18, .move (.tmp 0), 28, "ref.go:101", #[], none⟩
def rpu2_o6 : Oper := ⟨some 19, .nilCheck (.tmp 18), 0, "ref.go:101", #[⟨5, .data⟩], none⟩
def rpu2_o7 : Oper := ⟨some 20, .fieldAddr 88 (.tmp 19) 0, 0, "ref.go:101", #[⟨6, .data⟩], none⟩
def rpu2_o8 : Oper := ⟨some 21, .load 85 (.tmp 20), 85, "ref.go:101", #[⟨7, .data⟩], none⟩
def rpu2_o9 : Oper := ⟨some 22, .call { callee := Callee.value (Operand.func 47), args := #[.tmp 21], argTypes := #[85] }, 85, "ref.go:101", #[⟨8, .data⟩], none⟩
def rpu2_o10 : Oper := ⟨some 23, .buildSlice 86 1 #[(0, .tmp 22)], 86, "ref.go:101", #[⟨9, .data⟩], none⟩
def rpu2_o11 : Oper := ⟨some 24, .call { callee := Callee.builtin Builtin.append, args := #[.tmp 17, .tmp 23], argTypes := #[86, 86] }, 86, "ref.go:101", #[⟨4, .data⟩, ⟨10, .data⟩, ⟨9, .chain⟩], none⟩
def rpu2_o12 : Oper := ⟨some 25, .nilCheck (.tmp 13), 0, "ref.go:101", #[⟨0, .data⟩, ⟨0, .phase⟩, ⟨1, .phase⟩, ⟨2, .phase⟩, ⟨3, .phase⟩, ⟨4, .phase⟩, ⟨5, .phase⟩, ⟨6, .phase⟩, ⟨7, .phase⟩, ⟨8, .phase⟩, ⟨9, .phase⟩, ⟨10, .phase⟩, ⟨11, .phase⟩], none⟩
def rpu2_o13 : Oper := ⟨some 26, .fieldAddr 88 (.tmp 25) 1, 0, "ref.go:101", #[⟨12, .data⟩, ⟨0, .phase⟩, ⟨1, .phase⟩, ⟨2, .phase⟩, ⟨3, .phase⟩, ⟨4, .phase⟩, ⟨5, .phase⟩, ⟨6, .phase⟩, ⟨7, .phase⟩, ⟨8, .phase⟩, ⟨9, .phase⟩, ⟨10, .phase⟩, ⟨11, .phase⟩], none⟩
def rpu2_o14 : Oper := ⟨none, .store 86 (.tmp 26) (.tmp 24), 0, "ref.go:101", #[⟨13, .data⟩, ⟨11, .data⟩, ⟨11, .chain⟩, ⟨0, .phase⟩, ⟨1, .phase⟩, ⟨2, .phase⟩, ⟨3, .phase⟩, ⟨4, .phase⟩, ⟨5, .phase⟩, ⟨6, .phase⟩, ⟨7, .phase⟩, ⟨8, .phase⟩, ⟨9, .phase⟩, ⟨10, .phase⟩, ⟨11, .phase⟩], none⟩
def rpu2_ops : Array Oper := #[rpu2_o0, rpu2_o1, rpu2_o2, rpu2_o3, rpu2_o4, rpu2_o5, rpu2_o6, rpu2_o7, rpu2_o8, rpu2_o9, rpu2_o10, rpu2_o11, rpu2_o12, rpu2_o13, rpu2_o14]
theorem rpu2 {d : Nat} {pv sv : Value} (S Fin : World → Prop) (a : Act) (w : World) (Q : Exit → Act → World → Prop) (zz : a.tmps.size = 40)
    (t0 : a.tmps.getD 0 undef = .pointer (some ⟨d, 0, none⟩))
    (h0 : S w.drew) (L1 : ∀ W, S W → (Instr.loadAt 86 (.pointer (some ⟨d, 0 + 1, none⟩))).run Tryd.prog W = .ok (pv) W) (L2 : ∀ W, S W → (Instr.loadAt 85 (.pointer (some ⟨d, 0 + 0, none⟩))).run Tryd.prog W = .ok (sv) W) (CC : Calls Tryd.prog 47 #[sv] w.drew fun e w' => ∃ u bv w1 pv2 w2 w3, e = .returned u ∧ S w' ∧ (Instr.buildSlice 86 1 #[(0, u)]).run Tryd.prog w' = .ok bv w1 ∧ S w1 ∧ (Builtin.append_ #[86, 86] 86 #[pv, bv]).run Tryd.prog w1 = .ok pv2 w2 ∧ S w2 ∧ (Instr.storeAt 86 (.pointer (some ⟨d, 0 + 1, none⟩)) pv2).run Tryd.prog w2 = .ok () w3 ∧ Fin w3)
    (h : ∀ (u bv pv2 : Value) (a' : Act) (w' : World), Fin w' → a' = ((((((((((((((a).put (some 13) (.pointer (some ⟨d, 0, none⟩))).put (some 14) (.pointer (some ⟨d, 0, none⟩))).put (some 15) (.pointer (some ⟨d, 0, none⟩))).put (some 16) (.pointer (some ⟨d, 0 + 1, none⟩))).put (some 17) (pv)).put (some 18) (.pointer (some ⟨d, 0, none⟩))).put (some 19) (.pointer (some ⟨d, 0, none⟩))).put (some 20) (.pointer (some ⟨d, 0 + 0, none⟩))).put (some 21) (sv)).put (some 22) (u)).put (some 23) (bv)).put (some 24) (pv2)).put (some 25) (.pointer (some ⟨d, 0, none⟩))).put (some 26) (.pointer (some ⟨d, 0 + 1, none⟩)) → Q .normal a' w') :
    (Code.region 2 rpu2_ops true).wp Tryd.prog Q a w := by
  refine x0 14 (fun w' => S w') (h0) (fun hHeld => ?_)
  refine xv 0 rfl rfl (fun w1 hw => exec_move rfl (zi t0 rfl)) hHeld ?_
  refine xv 1 rfl rfl (fun w1 hw => exec_move rfl (zi t0 rfl)) hHeld ?_
  refine xv 2 rfl rfl (fun w1 hw => exec_nilCheck rfl (zg zz rfl)) hHeld ?_
  refine xv 3 rfl rfl (fun w1 hw => exec_fieldAt rfl (zg zz rfl) (fg_88_1 _ _ _)) hHeld ?_
  refine xv 4 rfl rfl (fun w1 hw => exec_load rfl (zg zz rfl) (L1 _ hw)) hHeld ?_
  refine xv 5 rfl rfl (fun w1 hw => exec_move rfl (zi t0 rfl)) hHeld ?_
  refine xv 6 rfl rfl (fun w1 hw => exec_nilCheck rfl (zg zz rfl)) hHeld ?_
  refine xv 7 rfl rfl (fun w1 hw => exec_fieldAt rfl (zg zz rfl) (fg_88_0 _ _ _)) hHeld ?_
  refine xv 8 rfl rfl (fun w1 hw => exec_load rfl (zg zz rfl) (L2 _ hw)) hHeld ?_
  refine xc 9 rfl rfl (exec_c1 rfl (zg zz rfl)) (CC) (fun e x9 hx => ?_)
  obtain ⟨u, bv, w1, pv2, w2, w3, rfl, S0, E1, S1, E2, S2, E3, HF⟩ := hx
  replace h := h u bv pv2
  refine ⟨_, rfl, fun _ => S0, fun hHeld => ?_⟩
  replace hHeld := hHeld (by decide)
  refine xr (v := bv) 10 rfl rfl (exec_buildSlice rfl (zg zz rfl) E1) (fun _ => S1) (fun hHeld => ?_)
  replace hHeld := hHeld (by decide)
  refine xr (v := pv2) 11 rfl rfl (exec_append rfl (zg zz rfl) (zg zz rfl) E2) (fun _ => S2) (fun hHeld => ?_)
  replace hHeld := hHeld (by decide)
  refine xv 12 rfl rfl (fun w1 hw => exec_nilCheck rfl (zg zz rfl)) hHeld ?_
  refine xv 13 rfl rfl (fun w1 hw => exec_fieldAt rfl (zg zz rfl) (fg_88_1 _ _ _)) hHeld ?_
  refine xs 14 rfl rfl (exec_store rfl (zg zz rfl) (zg zz rfl) E3) (fun hne => absurd rfl hne) (fun _ => ?_)
  exact xe rfl (h _ _ (HF) rfl)
def rpu3_o0 : Oper := ⟨some 27, .move (.tmp 0), 28, "ref.go:102", #[], none⟩
def rpu3_o1 : Oper := ⟨some 28, .load 52 (.tmp 6), 52, "ref.go:102", #[], none⟩
def rpu3_o2 : Oper := ⟨some 29, .move (.tmp 4), 43, "ref.go:102", #[], none⟩
def rpu3_o3 : Oper := ⟨some 30, .call { callee := Callee.value (Operand.func 64), args := #[.tmp 27, .tmp 28, .tmp 29], argTypes := #[28, 52, 43] }, 60, "ref.go:102", #[⟨0, .data⟩, ⟨1, .data⟩, ⟨2, .data⟩], none⟩
def rpu3_o4 : Oper := ⟨some 10, .assign (.tmp 30), 60, "ref.go:102", #[⟨3, .data⟩, ⟨3, .chain⟩, ⟨0, .phase⟩, ⟨1, .phase⟩, ⟨2, .phase⟩, ⟨3, .phase⟩], none⟩
def rpu3_ops : Array Oper := #[rpu3_o0, rpu3_o1, rpu3_o2, rpu3_o3, rpu3_o4]
theorem rpu3 {d pb : Nat} {sv : Value} {p : PlK} (Fin : Value → World → Prop) (a : Act) (w : World) (Q : Exit → Act → World → Prop) (zz : a.tmps.size = 40)
    (t0 : a.tmps.getD 0 undef = .pointer (some ⟨d, 0, none⟩))
    (t4 : a.tmps.getD 4 undef = sv)
    (t6 : a.tmps.getD 6 undef = .pointer (some ⟨pb, 0, none⟩))
    (LP : ∀ W, W = w → (Instr.loadAt 52 (.pointer (some ⟨pb, 0, none⟩))).run Tryd.prog W = .ok (p.v) W) (CL : Calls Tryd.prog 64 #[.pointer (some ⟨d, 0, none⟩), p.v, sv] w fun e w' => ∃ u, e = .returned u ∧ Fin u w')
    (h : ∀ (u : Value) (a' : Act) (w' : World), Fin u w' → a' = (((((a).put (some 27) (.pointer (some ⟨d, 0, none⟩))).put (some 28) (p.v)).put (some 29) (sv)).put (some 30) (u)).put (some 10) (u) → Q .normal a' w') :
    (Code.region 3 rpu3_ops false).wp Tryd.prog Q a w := by
  refine z0 rfl ?_
  refine zv rfl (exec_move rfl (zi t0 rfl)) ?_
  refine zv rfl (exec_load rfl (zi t6 rfl) (LP _ rfl)) ?_
  refine zv rfl (exec_move rfl (zi t4 rfl)) ?_
  refine zc rfl (exec_c3 rfl (zg zz rfl) (zg zz rfl) (zg zz rfl)) (CL) (fun e x3 hx => ?_)
  obtain ⟨u, rfl, HF⟩ := hx
  replace h := h u
  refine ⟨_, rfl, ?_⟩
  refine zv rfl (exec_assign rfl (zg zz rfl)) ?_
  exact ze rfl (h _ _ (HF) rfl)
def rpu4_o0 : Oper := ⟨some 31, .move (.tmp 0), 28, "ref.go:103", #[], none⟩
def rpu4_o1 : Oper := ⟨some 32, .load 52 (.tmp 6), 52, "ref.go:103", #[], none⟩
def rpu4_o2 : Oper := ⟨some 33, .move (.tmp 10), 60, "ref.go:103", #[], none⟩
def rpu4_o3 : Oper := ⟨some 34, .load 38 (.tmp 7), 38, "ref.go:103", #[], none⟩
def rpu4_o4 : Oper := ⟨some 35, .load 42 (.tmp 8), 42, "ref.go:103", #[], none⟩
def rpu4_o5 : Oper := ⟨some 36, .build 63 #[(0, .tmp 34), (1, .tmp 35)], 63, "ref.go:103", #[⟨3, .data⟩, ⟨4, .data⟩], none⟩
def rpu4_o6 : Oper := ⟨some 37, .buildSlice 60 1 #[(0, .tmp 36)], 60, "ref.go:103", #[⟨5, .data⟩], none⟩
def rpu4_o7 : Oper := ⟨some 38, .call { callee := Callee.builtin Builtin.append, args := #[.tmp 33, .tmp 37], argTypes := #[60, 60] }, 60, "ref.go:103", #[⟨2, .data⟩, ⟨6, .data⟩], none⟩
def rpu4_o8 : Oper := ⟨some 39, .call { callee := Callee.value (Operand.func 65), args := #[.tmp 31, .tmp 32, .tmp 38], argTypes := #[28, 52, 60] }, 0, "ref.go:103", #[⟨0, .data⟩, ⟨1, .data⟩, ⟨7, .data⟩, ⟨7, .chain⟩], none⟩
def rpu4_ops : Array Oper := #[rpu4_o0, rpu4_o1, rpu4_o2, rpu4_o3, rpu4_o4, rpu4_o5, rpu4_o6, rpu4_o7, rpu4_o8]
theorem rpu4 {d pb ib vb : Nat} {lv bv u : Value} {p : PlK} {id : IdK} {x : VaV} {w1 w2 : World} (S Fin : World → Prop) (a : Act) (w : World) (Q : Exit → Act → World → Prop) (zz : a.tmps.size = 40)
    (t0 : a.tmps.getD 0 undef = .pointer (some ⟨d, 0, none⟩))
    (t6 : a.tmps.getD 6 undef = .pointer (some ⟨pb, 0, none⟩))
    (t7 : a.tmps.getD 7 undef = .pointer (some ⟨ib, 0, none⟩))
    (t8 : a.tmps.getD 8 undef = .pointer (some ⟨vb, 0, none⟩))
    (t10 : a.tmps.getD 10 undef = lv)
    (hid : id.ok) (h0 : S w.drew) (LP : ∀ W, S W → (Instr.loadAt 52 (.pointer (some ⟨pb, 0, none⟩))).run Tryd.prog W = .ok (p.v) W) (LI : ∀ W, S W → (Instr.loadAt 38 (.pointer (some ⟨ib, 0, none⟩))).run Tryd.prog W = .ok (id.v) W) (LV : ∀ W, S W → (Instr.loadAt 42 (.pointer (some ⟨vb, 0, none⟩))).run Tryd.prog W = .ok (x.v) W) (E1 : (Instr.buildSlice 60 1 #[(0, EnV.a ⟨id, x⟩)]).run Tryd.prog w.drew = .ok bv w1) (S1 : S w1) (E2 : (Builtin.append_ #[60, 60] 60 #[lv, bv]).run Tryd.prog w1 = .ok u w2) (S2 : S w2) (CS : Calls Tryd.prog 65 #[.pointer (some ⟨d, 0, none⟩), p.v, u] w2 fun e w' => e = .returned (.tuple #[]) ∧ Fin w')
    (h : ∀ (a' : Act) (w' : World), Fin w' → a' = (((((((((a).put (some 31) (.pointer (some ⟨d, 0, none⟩))).put (some 32) (p.v)).put (some 33) (lv)).put (some 34) (id.v)).put (some 35) (x.v)).put (some 36) (EnV.a ⟨id, x⟩)).put (some 37) (bv)).put (some 38) (u)).put (some 39) (.tuple #[]) → Q .normal a' w') :
    (Code.region 4 rpu4_ops true).wp Tryd.prog Q a w := by
  refine x0 8 (fun w' => S w') (h0) (fun hHeld => ?_)
  refine xv 0 rfl rfl (fun w1 hw => exec_move rfl (zi t0 rfl)) hHeld ?_
  refine xv 1 rfl rfl (fun w1 hw => exec_load rfl (zi t6 rfl) (LP _ hw)) hHeld ?_
  refine xv 2 rfl rfl (fun w1 hw => exec_move rfl (zi t10 rfl)) hHeld ?_
  refine xv 3 rfl rfl (fun w1 hw => exec_load rfl (zi t7 rfl) (LI _ hw)) hHeld ?_
  refine xv 4 rfl rfl (fun w1 hw => exec_load rfl (zi t8 rfl) (LV _ hw)) hHeld ?_
  refine xv (v := EnV.a ⟨id, x⟩) 5 rfl rfl (fun w1 hw => exec_ben hid rfl (zg zz rfl) (zg zz rfl)) hHeld ?_
  refine xr (v := bv) 6 rfl rfl (exec_buildSlice rfl (zg zz rfl) E1) (fun _ => S1) (fun hHeld => ?_)
  replace hHeld := hHeld (by decide)
  refine xr (v := u) 7 rfl rfl (exec_append rfl (zg zz rfl) (zg zz rfl) E2) (fun _ => S2) (fun hHeld => ?_)
  replace hHeld := hHeld (by decide)
  refine xc 8 rfl rfl (exec_c3 rfl (zg zz rfl) (zg zz rfl) (zg zz rfl)) (CS) (fun e x8 hx => ?_)
  obtain ⟨rfl, HF⟩ := hx
  refine ⟨_, rfl, fun hne => absurd rfl hne, fun _ => ?_⟩
  exact xe rfl (h _ _ (HF) rfl)
def rde2_o0 : Oper := ⟨some 8, .move (.tmp 0), 28, "ref.go:110", #[], none⟩
def rde2_o1 : Oper := ⟨some 9, .move (.tmp 0), 28, "ref.go:110", #[], none⟩
def rde2_o2 : Oper := ⟨some 10, .nilCheck (.tmp 9), 0, "ref.go:110", #[⟨1, .data⟩], none⟩
def rde2_o3 : Oper := ⟨some 11, .fieldAddr 88 (.tmp 10) 1, 0, "ref.go:110", #[⟨2, .data⟩], none⟩
def rde2_o4 : Oper := ⟨some 12, .load 86 (.tmp 11), 86, "ref.go:110", #[⟨3, .data⟩], none⟩
def rde2_o5 : Oper := ⟨some 13, .move (.tmp 0), 28, "ref.go:110", #[], none⟩
def rde2_o6 : Oper := ⟨some 14, .nilCheck (.tmp 13), 0, "ref.go:110", #[⟨5, .data⟩], none⟩
def rde2_o7 : Oper := ⟨some 15, .fieldAddr 88 (.tmp 14) 0, 0, "ref.go:110", #[⟨6, .data⟩], none⟩
def rde2_o8 : Oper := ⟨some 16, .load 85 (.tmp 15), 85, "ref.go:110", #[⟨7, .data⟩], none⟩
def rde2_o9 : Oper := ⟨some 17, .call { callee := Callee.value (Operand.func 47), args := #[.tmp 16], argTypes := #[85] }, 85, "ref.go:110", #[⟨8, .data⟩], none⟩
def rde2_o10 : Oper := ⟨some 18, .buildSlice 86 1 #[(0, .tmp 17)], 86, "ref.go:110", #[⟨9, .data⟩], none⟩
def rde2_o11 : Oper := ⟨some 19, .call { callee := Callee.builtin Builtin.append, args := #[.tmp 12, .tmp 18], argTypes := #[86, 86] }, 86, "ref.go:110", #[⟨4, .data⟩, ⟨10, .data⟩, ⟨9, .chain⟩], none⟩
def rde2_o12 : Oper := ⟨some 20, .nilCheck (.tmp 8), 0, "ref.go:110", #[⟨0, .data⟩, ⟨0, .phase⟩, ⟨1, .phase⟩, ⟨2, .phase⟩, ⟨3, .phase⟩, ⟨4, .phase⟩, ⟨5, .phase⟩, ⟨6, .phase⟩, ⟨7, .phase⟩, ⟨8, .phase⟩, ⟨9, .phase⟩, ⟨10, .phase⟩, ⟨11, .phase⟩], none⟩
def rde2_o13 : Oper := ⟨some 21, .fieldAddr 88 (.tmp 20) 1, 0, "ref.go:110", #[⟨12, .data⟩, ⟨0, .phase⟩, ⟨1, .phase⟩, ⟨2, .phase⟩, ⟨3, .phase⟩, ⟨4, .phase⟩, ⟨5, .phase⟩, ⟨6, .phase⟩, ⟨7, .phase⟩, ⟨8, .phase⟩, ⟨9, .phase⟩, ⟨10, .phase⟩, ⟨11, .phase⟩], none⟩
def rde2_o14 : Oper := ⟨none, .store 86 (.tmp 21) (.tmp 19), 0, "ref.go:110", #[⟨13, .data⟩, ⟨11, .data⟩, ⟨11, .chain⟩, ⟨0, .phase⟩, ⟨1, .phase⟩, ⟨2, .phase⟩, ⟨3, .phase⟩, ⟨4, .phase⟩, ⟨5, .phase⟩, ⟨6, .phase⟩, ⟨7, .phase⟩, ⟨8, .phase⟩, ⟨9, .phase⟩, ⟨10, .phase⟩, ⟨11, .phase⟩], none⟩
def rde2_ops : Array Oper := #[rde2_o0, rde2_o1, rde2_o2, rde2_o3, rde2_o4, rde2_o5, rde2_o6, rde2_o7, rde2_o8, rde2_o9, rde2_o10, rde2_o11, rde2_o12, rde2_o13, rde2_o14]
theorem rde2 {d : Nat} {pv sv : Value} (S Fin : World → Prop) (a : Act) (w : World) (Q : Exit → Act → World → Prop) (zz : a.tmps.size = 29)
    (t0 : a.tmps.getD 0 undef = .pointer (some ⟨d, 0, none⟩))
    (h0 : S w.drew) (L1 : ∀ W, S W → (Instr.loadAt 86 (.pointer (some ⟨d, 0 + 1, none⟩))).run Tryd.prog W = .ok (pv) W) (L2 : ∀ W, S W → (Instr.loadAt 85 (.pointer (some ⟨d, 0 + 0, none⟩))).run Tryd.prog W = .ok (sv) W) (CC : Calls Tryd.prog 47 #[sv] w.drew fun e w' => ∃ u bv w1 pv2 w2 w3, e = .returned u ∧ S w' ∧ (Instr.buildSlice 86 1 #[(0, u)]).run Tryd.prog w' = .ok bv w1 ∧ S w1 ∧ (Builtin.append_ #[86, 86] 86 #[pv, bv]).run Tryd.prog w1 = .ok pv2 w2 ∧ S w2 ∧ (Instr.storeAt 86 (.pointer (some ⟨d, 0 + 1, none⟩)) pv2).run Tryd.prog w2 = .ok () w3 ∧ Fin w3)
    (h : ∀ (u bv pv2 : Value) (a' : Act) (w' : World), Fin w' → a' = ((((((((((((((a).put (some 8) (.pointer (some ⟨d, 0, none⟩))).put (some 9) (.pointer (some ⟨d, 0, none⟩))).put (some 10) (.pointer (some ⟨d, 0, none⟩))).put (some 11) (.pointer (some ⟨d, 0 + 1, none⟩))).put (some 12) (pv)).put (some 13) (.pointer (some ⟨d, 0, none⟩))).put (some 14) (.pointer (some ⟨d, 0, none⟩))).put (some 15) (.pointer (some ⟨d, 0 + 0, none⟩))).put (some 16) (sv)).put (some 17) (u)).put (some 18) (bv)).put (some 19) (pv2)).put (some 20) (.pointer (some ⟨d, 0, none⟩))).put (some 21) (.pointer (some ⟨d, 0 + 1, none⟩)) → Q .normal a' w') :
    (Code.region 2 rde2_ops true).wp Tryd.prog Q a w := by
  refine x0 14 (fun w' => S w') (h0) (fun hHeld => ?_)
  refine xv 0 rfl rfl (fun w1 hw => exec_move rfl (zi t0 rfl)) hHeld ?_
  refine xv 1 rfl rfl (fun w1 hw => exec_move rfl (zi t0 rfl)) hHeld ?_
  refine xv 2 rfl rfl (fun w1 hw => exec_nilCheck rfl (zg zz rfl)) hHeld ?_
  refine xv 3 rfl rfl (fun w1 hw => exec_fieldAt rfl (zg zz rfl) (fg_88_1 _ _ _)) hHeld ?_
  refine xv 4 rfl rfl (fun w1 hw => exec_load rfl (zg zz rfl) (L1 _ hw)) hHeld ?_
  refine xv 5 rfl rfl (fun w1 hw => exec_move rfl (zi t0 rfl)) hHeld ?_
  refine xv 6 rfl rfl (fun w1 hw => exec_nilCheck rfl (zg zz rfl)) hHeld ?_
  refine xv 7 rfl rfl (fun w1 hw => exec_fieldAt rfl (zg zz rfl) (fg_88_0 _ _ _)) hHeld ?_
  refine xv 8 rfl rfl (fun w1 hw => exec_load rfl (zg zz rfl) (L2 _ hw)) hHeld ?_
  refine xc 9 rfl rfl (exec_c1 rfl (zg zz rfl)) (CC) (fun e x9 hx => ?_)
  obtain ⟨u, bv, w1, pv2, w2, w3, rfl, S0, E1, S1, E2, S2, E3, HF⟩ := hx
  replace h := h u bv pv2
  refine ⟨_, rfl, fun _ => S0, fun hHeld => ?_⟩
  replace hHeld := hHeld (by decide)
  refine xr (v := bv) 10 rfl rfl (exec_buildSlice rfl (zg zz rfl) E1) (fun _ => S1) (fun hHeld => ?_)
  replace hHeld := hHeld (by decide)
  refine xr (v := pv2) 11 rfl rfl (exec_append rfl (zg zz rfl) (zg zz rfl) E2) (fun _ => S2) (fun hHeld => ?_)
  replace hHeld := hHeld (by decide)
  refine xv 12 rfl rfl (fun w1 hw => exec_nilCheck rfl (zg zz rfl)) hHeld ?_
  refine xv 13 rfl rfl (fun w1 hw => exec_fieldAt rfl (zg zz rfl) (fg_88_1 _ _ _)) hHeld ?_
  refine xs 14 rfl rfl (exec_store rfl (zg zz rfl) (zg zz rfl) E3) (fun hne => absurd rfl hne) (fun _ => ?_)
  exact xe rfl (h _ _ (HF) rfl)
def rde3_o0 : Oper := ⟨some 22, .move (.tmp 0), 28, "ref.go:111", #[], none⟩
def rde3_o1 : Oper := ⟨some 23, .load 52 (.tmp 4), 52, "ref.go:111", #[], none⟩
def rde3_o2 : Oper := ⟨some 24, .move (.tmp 0), 28, "ref.go:111", #[], none⟩
def rde3_o3 : Oper := ⟨some 25, .load 52 (.tmp 4), 52, "ref.go:111", #[], none⟩
def rde3_o4 : Oper := ⟨some 26, .move (.tmp 2), 43, "ref.go:111", #[], none⟩
def rde3_o5 : Oper := ⟨some 27, .call { callee := Callee.value (Operand.func 64), args := #[.tmp 24, .tmp 25, .tmp 26], argTypes := #[28, 52, 43] }, 60, "ref.go:111", #[⟨2, .data⟩, ⟨3, .data⟩, ⟨4, .data⟩], none⟩
def rde3_o6 : Oper := ⟨some 28, .call { callee := Callee.value (Operand.func 65), args := #[.tmp 22, .tmp 23, .tmp 27], argTypes := #[28, 52, 60] }, 0, "ref.go:111", #[⟨0, .data⟩, ⟨1, .data⟩, ⟨5, .data⟩, ⟨5, .chain⟩], none⟩
def rde3_ops : Array Oper := #[rde3_o0, rde3_o1, rde3_o2, rde3_o3, rde3_o4, rde3_o5, rde3_o6]
theorem rde3 {d pb : Nat} {sv : Value} {p : PlK} (S Fin : World → Prop) (a : Act) (w : World) (Q : Exit → Act → World → Prop) (zz : a.tmps.size = 29)
    (t0 : a.tmps.getD 0 undef = .pointer (some ⟨d, 0, none⟩))
    (t2 : a.tmps.getD 2 undef = sv)
    (t4 : a.tmps.getD 4 undef = .pointer (some ⟨pb, 0, none⟩))
    (h0 : S w.drew) (LP : ∀ W, S W → (Instr.loadAt 52 (.pointer (some ⟨pb, 0, none⟩))).run Tryd.prog W = .ok (p.v) W) (CL : Calls Tryd.prog 64 #[.pointer (some ⟨d, 0, none⟩), p.v, sv] w.drew fun e w1 => ∃ u, e = .returned u ∧ S w1 ∧ Calls Tryd.prog 65 #[.pointer (some ⟨d, 0, none⟩), p.v, u] w1 fun e w' => e = .returned (.tuple #[]) ∧ Fin w')
    (h : ∀ (u : Value) (a' : Act) (w' : World), Fin w' → a' = (((((((a).put (some 22) (.pointer (some ⟨d, 0, none⟩))).put (some 23) (p.v)).put (some 24) (.pointer (some ⟨d, 0, none⟩))).put (some 25) (p.v)).put (some 26) (sv)).put (some 27) (u)).put (some 28) (.tuple #[]) → Q .normal a' w') :
    (Code.region 3 rde3_ops true).wp Tryd.prog Q a w := by
  refine x0 6 (fun w' => S w') (h0) (fun hHeld => ?_)
  refine xv 0 rfl rfl (fun w1 hw => exec_move rfl (zi t0 rfl)) hHeld ?_
  refine xv 1 rfl rfl (fun w1 hw => exec_load rfl (zi t4 rfl) (LP _ hw)) hHeld ?_
  refine xv 2 rfl rfl (fun w1 hw => exec_move rfl (zi t0 rfl)) hHeld ?_
  refine xv 3 rfl rfl (fun w1 hw => exec_load rfl (zi t4 rfl) (LP _ hw)) hHeld ?_
  refine xv 4 rfl rfl (fun w1 hw => exec_move rfl (zi t2 rfl)) hHeld ?_
  refine xc 5 rfl rfl (exec_c3 rfl (zg zz rfl) (zg zz rfl) (zg zz rfl)) (CL) (fun e x5 hx => ?_)
  obtain ⟨u, rfl, S1, CS⟩ := hx
  replace h := h u
  refine ⟨_, rfl, fun _ => S1, fun hHeld => ?_⟩
  replace hHeld := hHeld (by decide)
  refine xc 6 rfl rfl (exec_c3 rfl (zg zz rfl) (zg zz rfl) (zg zz rfl)) (CS) (fun e x6 hx => ?_)
  obtain ⟨rfl, HF⟩ := hx
  refine ⟨_, rfl, fun hne => absurd rfl hne, fun _ => ?_⟩
  exact xe rfl (h _ _ (HF) rfl)
def rad2_o0 : Oper := ⟨some 12, .move (.tmp 0), 28, "ref.go:118", #[], none⟩
def rad2_o1 : Oper := ⟨some 13, .move (.tmp 0), 28, "ref.go:118", #[], none⟩
def rad2_o2 : Oper := ⟨some 14, .nilCheck (.tmp 13), 0, "ref.go:118", #[⟨1, .data⟩], none⟩
def rad2_o3 : Oper := ⟨some 15, .fieldAddr 88 (.tmp 14) 1, 0, "ref.go:118", #[⟨2, .data⟩], none⟩
def rad2_o4 : Oper := ⟨some 16, .load 86 (.tmp 15), 86, "ref.go:118", #[⟨3, .data⟩], none⟩
def rad2_o5 : Oper := ⟨some 17, .move (.tmp 0), 28, "ref.go:118", #[], none⟩
def rad2_o6 : Oper := ⟨some 18, .nilCheck (.tmp 17), 0, "ref.go:118", #[⟨5, .data⟩], none⟩
def rad2_o7 : Oper := ⟨some 19, .fieldAddr 88 (.tmp 18) 0, 0, "ref.go:118", #[⟨6, .data⟩], none⟩
def rad2_o8 : Oper := ⟨some 20, .load 85 (.tmp 19), 85, "ref.go:118", #[⟨7, .data⟩], none⟩
def rad2_o9 : Oper := ⟨some 21, .call { callee := Callee.value (Operand.func 47), args := #[.tmp 20], argTypes := #[85] }, 85, "ref.go:118", #[⟨8, .data⟩], none⟩
def rad2_o10 : Oper := ⟨some 22, .buildSlice 86 1 #[(0, .tmp 21)], 86, "ref.go:118", #[⟨9, .data⟩], none⟩
def rad2_o11 : Oper := ⟨some 23, .call { callee := Callee.builtin Builtin.append, args := #[.tmp 16, .tmp 22], argTypes := #[86, 86] }, 86, "ref.go:118", #[⟨4, .data⟩, ⟨10, .data⟩, ⟨9, .chain⟩], none⟩
def rad2_o12 : Oper := ⟨some 24, .nilCheck (.tmp 12), 0, "ref.go:118", #[⟨0, .data⟩, ⟨0, .phase⟩, ⟨1, .phase⟩, ⟨2, .phase⟩, ⟨3, .phase⟩, ⟨4, .phase⟩, ⟨5, .phase⟩, ⟨6, .phase⟩, ⟨7, .phase⟩, ⟨8, .phase⟩, ⟨9, .phase⟩, ⟨10, .phase⟩, ⟨11, .phase⟩], none⟩
def rad2_o13 : Oper := ⟨some 25, .fieldAddr 88 (.tmp 24) 1, 0, "ref.go:118", #[⟨12, .data⟩, ⟨0, .phase⟩, ⟨1, .phase⟩, ⟨2, .phase⟩, ⟨3, .phase⟩, ⟨4, .phase⟩, ⟨5, .phase⟩, ⟨6, .phase⟩, ⟨7, .phase⟩, ⟨8, .phase⟩, ⟨9, .phase⟩, ⟨10, .phase⟩, ⟨11, .phase⟩], none⟩
def rad2_o14 : Oper := ⟨none, .store 86 (.tmp 25) (.tmp 23), 0, "ref.go:118", #[⟨13, .data⟩, ⟨11, .data⟩, ⟨11, .chain⟩, ⟨0, .phase⟩, ⟨1, .phase⟩, ⟨2, .phase⟩, ⟨3, .phase⟩, ⟨4, .phase⟩, ⟨5, .phase⟩, ⟨6, .phase⟩, ⟨7, .phase⟩, ⟨8, .phase⟩, ⟨9, .phase⟩, ⟨10, .phase⟩, ⟨11, .phase⟩], none⟩
def rad2_ops : Array Oper := #[rad2_o0, rad2_o1, rad2_o2, rad2_o3, rad2_o4, rad2_o5, rad2_o6, rad2_o7, rad2_o8, rad2_o9, rad2_o10, rad2_o11, rad2_o12, rad2_o13, rad2_o14]
theorem rad2 {d : Nat} {pv sv : Value} (S Fin : World → Prop) (a : Act) (w : World) (Q : Exit → Act → World → Prop) (zz : a.tmps.size = 57)
    (t0 : a.tmps.getD 0 undef = .pointer (some ⟨d, 0, none⟩))
    (h0 : S w.drew) (L1 : ∀ W, S W → (Instr.loadAt 86 (.pointer (some ⟨d, 0 + 1, none⟩))).run Tryd.prog W = .ok (pv) W) (L2 : ∀ W, S W → (Instr.loadAt 85 (.pointer (some ⟨d, 0 + 0, none⟩))).run Tryd.prog W = .ok (sv) W) (CC : Calls Tryd.prog 47 #[sv] w.drew fun e w' => ∃ u bv w1 pv2 w2 w3, e = .returned u ∧ S w' ∧ (Instr.buildSlice 86 1 #[(0, u)]).run Tryd.prog w' = .ok bv w1 ∧ S w1 ∧ (Builtin.append_ #[86, 86] 86 #[pv, bv]).run Tryd.prog w1 = .ok pv2 w2 ∧ S w2 ∧ (Instr.storeAt 86 (.pointer (some ⟨d, 0 + 1, none⟩)) pv2).run Tryd.prog w2 = .ok () w3 ∧ Fin w3)
    (h : ∀ (u bv pv2 : Value) (a' : Act) (w' : World), Fin w' → a' = ((((((((((((((a).put (some 12) (.pointer (some ⟨d, 0, none⟩))).put (some 13) (.pointer (some ⟨d, 0, none⟩))).put (some 14) (.pointer (some ⟨d, 0, none⟩))).put (some 15) (.pointer (some ⟨d, 0 + 1, none⟩))).put (some 16) (pv)).put (some 17) (.pointer (some ⟨d, 0, none⟩))).put (some 18) (.pointer (some ⟨d, 0, none⟩))).put (some 19) (.pointer (some ⟨d, 0 + 0, none⟩))).put (some 20) (sv)).put (some 21) (u)).put (some 22) (bv)).put (some 23) (pv2)).put (some 24) (.pointer (some ⟨d, 0, none⟩))).put (some 25) (.pointer (some ⟨d, 0 + 1, none⟩)) → Q .normal a' w') :
    (Code.region 2 rad2_ops true).wp Tryd.prog Q a w := by
  refine x0 14 (fun w' => S w') (h0) (fun hHeld => ?_)
  refine xv 0 rfl rfl (fun w1 hw => exec_move rfl (zi t0 rfl)) hHeld ?_
  refine xv 1 rfl rfl (fun w1 hw => exec_move rfl (zi t0 rfl)) hHeld ?_
  refine xv 2 rfl rfl (fun w1 hw => exec_nilCheck rfl (zg zz rfl)) hHeld ?_
  refine xv 3 rfl rfl (fun w1 hw => exec_fieldAt rfl (zg zz rfl) (fg_88_1 _ _ _)) hHeld ?_
  refine xv 4 rfl rfl (fun w1 hw => exec_load rfl (zg zz rfl) (L1 _ hw)) hHeld ?_
  refine xv 5 rfl rfl (fun w1 hw => exec_move rfl (zi t0 rfl)) hHeld ?_
  refine xv 6 rfl rfl (fun w1 hw => exec_nilCheck rfl (zg zz rfl)) hHeld ?_
  refine xv 7 rfl rfl (fun w1 hw => exec_fieldAt rfl (zg zz rfl) (fg_88_0 _ _ _)) hHeld ?_
  refine xv 8 rfl rfl (fun w1 hw => exec_load rfl (zg zz rfl) (L2 _ hw)) hHeld ?_
  refine xc 9 rfl rfl (exec_c1 rfl (zg zz rfl)) (CC) (fun e x9 hx => ?_)
  obtain ⟨u, bv, w1, pv2, w2, w3, rfl, S0, E1, S1, E2, S2, E3, HF⟩ := hx
  replace h := h u bv pv2
  refine ⟨_, rfl, fun _ => S0, fun hHeld => ?_⟩
  replace hHeld := hHeld (by decide)
  refine xr (v := bv) 10 rfl rfl (exec_buildSlice rfl (zg zz rfl) E1) (fun _ => S1) (fun hHeld => ?_)
  replace hHeld := hHeld (by decide)
  refine xr (v := pv2) 11 rfl rfl (exec_append rfl (zg zz rfl) (zg zz rfl) E2) (fun _ => S2) (fun hHeld => ?_)
  replace hHeld := hHeld (by decide)
  refine xv 12 rfl rfl (fun w1 hw => exec_nilCheck rfl (zg zz rfl)) hHeld ?_
  refine xv 13 rfl rfl (fun w1 hw => exec_fieldAt rfl (zg zz rfl) (fg_88_1 _ _ _)) hHeld ?_
  refine xs 14 rfl rfl (exec_store rfl (zg zz rfl) (zg zz rfl) E3) (fun hne => absurd rfl hne) (fun _ => ?_)
  exact xe rfl (h _ _ (HF) rfl)
def rad3_o0 : Oper := ⟨some 26, .move (.tmp 0), 28, "ref.go:119", #[], none⟩
def rad3_o1 : Oper := ⟨some 27, .load 52 (.tmp 5), 52, "ref.go:119", #[], none⟩
def rad3_o2 : Oper := ⟨some 28, .call { callee := Callee.value (Operand.func 40), args := #[.tmp 26, .tmp 27], argTypes := #[28, 52] }, 60, "ref.go:119", #[⟨0, .data⟩, ⟨1, .data⟩], none⟩
def rad3_o3 : Oper := ⟨some 8, .assign (.tmp 28), 60, "ref.go:119", #[⟨2, .data⟩, ⟨2, .chain⟩, ⟨0, .phase⟩, ⟨1, .phase⟩, ⟨2, .phase⟩], none⟩
def rad3_ops : Array Oper := #[rad3_o0, rad3_o1, rad3_o2, rad3_o3]
theorem rad3 {d pb : Nat} {p : PlK} (Fin : Value → World → Prop) (a : Act) (w : World) (Q : Exit → Act → World → Prop) (zz : a.tmps.size = 57)
    (t0 : a.tmps.getD 0 undef = .pointer (some ⟨d, 0, none⟩))
    (t5 : a.tmps.getD 5 undef = .pointer (some ⟨pb, 0, none⟩))
    (LP : ∀ W, W = w → (Instr.loadAt 52 (.pointer (some ⟨pb, 0, none⟩))).run Tryd.prog W = .ok (p.v) W) (CL : Calls Tryd.prog 40 #[.pointer (some ⟨d, 0, none⟩), p.v] w fun e w' => ∃ u, e = .returned u ∧ Fin u w')
    (h : ∀ (u : Value) (a' : Act) (w' : World), Fin u w' → a' = ((((a).put (some 26) (.pointer (some ⟨d, 0, none⟩))).put (some 27) (p.v)).put (some 28) (u)).put (some 8) (u) → Q .normal a' w') :
    (Code.region 3 rad3_ops false).wp Tryd.prog Q a w := by
  refine z0 rfl ?_
  refine zv rfl (exec_move rfl (zi t0 rfl)) ?_
  refine zv rfl (exec_load rfl (zi t5 rfl) (LP _ rfl)) ?_
  refine zc rfl (exec_c2 rfl (zg zz rfl) (zg zz rfl)) (CL) (fun e x2 hx => ?_)
  obtain ⟨u, rfl, HF⟩ := hx
  replace h := h u
  refine ⟨_, rfl, ?_⟩
  refine zv rfl (exec_assign rfl (zg zz rfl)) ?_
  exact ze rfl (h _ _ (HF) rfl)
def rad7_o0 : Oper := ⟨some 35, .move (.tmp 3), 43, "ref.go:121", #[], none⟩
def rad7_o1 : Oper := ⟨some 36, .move (.tmp 8), 60, "ref.go:121", #[], none⟩
def rad7_o2 : Oper := ⟨some 37, .move (.tmp 9), 3, "ref.go:121", #[], none⟩
def rad7_o3 : Oper := ⟨some 38, .indexAddr 60 (.tmp 36) (.tmp 37), 0, "ref.go:121", #[⟨1, .data⟩, ⟨2, .data⟩], none⟩
def rad7_o4 : Oper := ⟨some 39, .fieldAddr 63 (.tmp 38) 0, 0, "ref.go:121", #[⟨3, .data⟩], none⟩
def rad7_o5 : Oper := ⟨some 40, .load 38 (.tmp 39), 38, "ref.go:121", #[⟨4, .data⟩], none⟩
def rad7_o6 : Oper := ⟨some 41, .call { callee := Callee.value (Operand.func 33), args := #[.tmp 35, .tmp 40], argTypes := #[43, 38] }, 4, "ref.go:121", #[⟨0, .data⟩, ⟨5, .data⟩], none⟩
def rad7_ops : Array Oper := #[rad7_o0, rad7_o1, rad7_o2, rad7_o3, rad7_o4, rad7_o5, rad7_o6]
theorem rad7 {g o n c i : Nat} {x : EnV} {sv : Value} {r : Bool} (Fin : World → Prop) (a : Act) (w : World) (Q : Exit → Act → World → Prop) (zz : a.tmps.size = 57)
    (t3 : a.tmps.getD 3 undef = sv)
    (t8 : a.tmps.getD 8 undef = .slice (some ⟨g, o, none⟩) n c)
    (t9 : a.tmps.getD 9 undef = .int .i64 (i : Int))
    (hi : i < n) (hm : n ≤ 9223372036854775807) (L1 : ∀ W, W = w → (Instr.loadAt 38 (.pointer (some ⟨g, o + 37 * i + 0, none⟩))).run Tryd.prog W = .ok (x.id.v) W) (CS : Calls Tryd.prog 33 #[sv, x.id.v] w fun e w' => e = .returned (.bool r) ∧ Fin w')
    (h : ∀ (a' : Act) (w' : World), Fin w' → a' = (((((((a).put (some 35) (sv)).put (some 36) (.slice (some ⟨g, o, none⟩) n c)).put (some 37) (.int .i64 (i : Int))).put (some 38) (.pointer (some ⟨g, o + 37 * i, none⟩))).put (some 39) (.pointer (some ⟨g, o + 37 * i + 0, none⟩))).put (some 40) (x.id.v)).put (some 41) (.bool r) → Q .normal a' w') :
    (Code.region 7 rad7_ops false).wp Tryd.prog Q a w := by
  refine z0 rfl ?_
  refine zv rfl (exec_move rfl (zi t3 rfl)) ?_
  refine zv rfl (exec_move rfl (zi t8 rfl)) ?_
  refine zv rfl (exec_move rfl (zi t9 rfl)) ?_
  refine zv rfl (exec_indexAt rfl (zg zz rfl) (zg zz rfl) (ix_en hi hm _)) ?_
  refine zv rfl (exec_fieldAt rfl (zg zz rfl) (fg_63_0 _ _ _)) ?_
  refine zv rfl (exec_load rfl (zg zz rfl) (L1 _ rfl)) ?_
  refine zc rfl (exec_c2 rfl (zg zz rfl) (zg zz rfl)) (CS) (fun e x6 hx => ?_)
  obtain ⟨rfl, HF⟩ := hx
  refine ⟨_, rfl, ?_⟩
  exact ze rfl (h _ _ (HF) rfl)
def rad8_o0 : Oper := ⟨some 42, .move (.tmp 8), 60, "ref.go:122", #[], none⟩
def rad8_o1 : Oper := ⟨some 43, .move (.tmp 9), 3, "ref.go:122", #[], none⟩
def rad8_o2 : Oper := ⟨some 44, .move (.tmp 8), 60, "ref.go:122", #[], none⟩
def rad8_o3 : Oper := ⟨some 45, .move (.tmp 9), 3, "ref.go:122", #[], none⟩
def rad8_o4 : Oper := ⟨some 46, .indexAddr 60 (.tmp 44) (.tmp 45), 0, "ref.go:122", #[⟨2, .data⟩, ⟨3, .data⟩], none⟩
def rad8_o5 : Oper := ⟨some 47, .fieldAddr 63 (.tmp 46) 1, 0, "ref.go:122", #[⟨4, .data⟩], none⟩
def rad8_o6 : Oper := ⟨some 48, .load 42 (.tmp 47), 42, "ref.go:122", #[⟨5, .data⟩], none⟩
def rad8_o7 : Oper := ⟨some 49, .move (.tmp 2), 2, "ref.go:122", #[], none⟩
def rad8_o8 : Oper := ⟨some 50, .call { callee := Callee.value (Operand.func 66), args := #[.tmp 48, .tmp 49], argTypes := #[42, 2] }, 42, "ref.go:122", #[⟨6, .data⟩, ⟨7, .data⟩], none⟩
def rad8_o9 : Oper := ⟨some 51, .indexAddr 60 (.tmp 42) (.tmp 43), 0, "ref.go:122", #[⟨0, .data⟩, ⟨1, .data⟩, ⟨0, .phase⟩, ⟨1, .phase⟩, ⟨2, .phase⟩, ⟨3, .phase⟩, ⟨4, .phase⟩, ⟨5, .phase⟩, ⟨6, .phase⟩, ⟨7, .phase⟩, ⟨8, .phase⟩], none⟩
def rad8_o10 : Oper := ⟨some 52, .fieldAddr 63 (.tmp 51) 1, 0, "ref.go:122", #[⟨9, .data⟩, ⟨0, .phase⟩, ⟨1, .phase⟩, ⟨2, .phase⟩, ⟨3, .phase⟩, ⟨4, .phase⟩, ⟨5, .phase⟩, ⟨6, .phase⟩, ⟨7, .phase⟩, ⟨8, .phase⟩], none⟩
def rad8_o11 : Oper := ⟨none, .store 42 (.tmp 52) (.tmp 50), 0, "ref.go:122", #[⟨10, .data⟩, ⟨8, .data⟩, ⟨8, .chain⟩, ⟨0, .phase⟩, ⟨1, .phase⟩, ⟨2, .phase⟩, ⟨3, .phase⟩, ⟨4, .phase⟩, ⟨5, .phase⟩, ⟨6, .phase⟩, ⟨7, .phase⟩, ⟨8, .phase⟩], none⟩
def rad8_ops : Array Oper := #[rad8_o0, rad8_o1, rad8_o2, rad8_o3, rad8_o4, rad8_o5, rad8_o6, rad8_o7, rad8_o8, rad8_o9, rad8_o10, rad8_o11]
theorem rad8 {g o n c i : Nat} {m : Int} {x : EnV} {y : VaV} (Fin : World → Prop) (a : Act) (w : World) (Q : Exit → Act → World → Prop) (zz : a.tmps.size = 57)
    (t2 : a.tmps.getD 2 undef = .int .i64 m)
    (t8 : a.tmps.getD 8 undef = .slice (some ⟨g, o, none⟩) n c)
    (t9 : a.tmps.getD 9 undef = .int .i64 (i : Int))
    (hi : i < n) (hm : n ≤ 9223372036854775807) (L1 : ∀ W, W = w → (Instr.loadAt 42 (.pointer (some ⟨g, o + 37 * i + 33, none⟩))).run Tryd.prog W = .ok (x.v.v) W) (CS : Calls Tryd.prog 66 #[x.v.v, .int .i64 m] w fun e w' => e = .returned y.v ∧ ∃ w1, (Instr.storeAt 42 (.pointer (some ⟨g, o + 37 * i + 33, none⟩)) y.v).run Tryd.prog w' = .ok () w1 ∧ Fin w1)
    (h : ∀ (a' : Act) (w' : World), Fin w' → a' = (((((((((((a).put (some 42) (.slice (some ⟨g, o, none⟩) n c)).put (some 43) (.int .i64 (i : Int))).put (some 44) (.slice (some ⟨g, o, none⟩) n c)).put (some 45) (.int .i64 (i : Int))).put (some 46) (.pointer (some ⟨g, o + 37 * i, none⟩))).put (some 47) (.pointer (some ⟨g, o + 37 * i + 33, none⟩))).put (some 48) (x.v.v)).put (some 49) (.int .i64 m)).put (some 50) (y.v)).put (some 51) (.pointer (some ⟨g, o + 37 * i, none⟩))).put (some 52) (.pointer (some ⟨g, o + 37 * i + 33, none⟩)) → Q .normal a' w') :
    (Code.region 8 rad8_ops false).wp Tryd.prog Q a w := by
  refine z0 rfl ?_
  refine zv rfl (exec_move rfl (zi t8 rfl)) ?_
  refine zv rfl (exec_move rfl (zi t9 rfl)) ?_
  refine zv rfl (exec_move rfl (zi t8 rfl)) ?_
  refine zv rfl (exec_move rfl (zi t9 rfl)) ?_
  refine zv rfl (exec_indexAt rfl (zg zz rfl) (zg zz rfl) (ix_en hi hm _)) ?_
  refine zv rfl (exec_fieldAt rfl (zg zz rfl) (fg_63_1 _ _ _)) ?_
  refine zv rfl (exec_load rfl (zg zz rfl) (L1 _ rfl)) ?_
  refine zv rfl (exec_move rfl (zi t2 rfl)) ?_
  refine zc rfl (exec_c2 rfl (zg zz rfl) (zg zz rfl)) (CS) (fun e x8 hx => ?_)
  obtain ⟨rfl, w1, E1, HF⟩ := hx
  refine ⟨_, rfl, ?_⟩
  refine zv rfl (exec_indexAt rfl (zg zz rfl) (zg zz rfl) (ix_en hi hm _)) ?_
  refine zv rfl (exec_fieldAt rfl (zg zz rfl) (fg_63_1 _ _ _)) ?_
  refine zs rfl (exec_store rfl (zg zz rfl) (zg zz rfl) E1) ?_
  exact ze rfl (h _ _ (HF) rfl)
def rad9_o0 : Oper := ⟨some 53, .move (.tmp 0), 28, "ref.go:125", #[], none⟩
def rad9_o1 : Oper := ⟨some 54, .load 52 (.tmp 5), 52, "ref.go:125", #[], none⟩
def rad9_o2 : Oper := ⟨some 55, .move (.tmp 8), 60, "ref.go:125", #[], none⟩
def rad9_o3 : Oper := ⟨some 56, .call { callee := Callee.value (Operand.func 65), args := #[.tmp 53, .tmp 54, .tmp 55], argTypes := #[28, 52, 60] }, 0, "ref.go:125", #[⟨0, .data⟩, ⟨1, .data⟩, ⟨2, .data⟩], none⟩
def rad9_ops : Array Oper := #[rad9_o0, rad9_o1, rad9_o2, rad9_o3]
theorem rad9 {d pb : Nat} {lv : Value} {p : PlK} (Fin : World → Prop) (a : Act) (w : World) (Q : Exit → Act → World → Prop) (zz : a.tmps.size = 57)
    (t0 : a.tmps.getD 0 undef = .pointer (some ⟨d, 0, none⟩))
    (t5 : a.tmps.getD 5 undef = .pointer (some ⟨pb, 0, none⟩))
    (t8 : a.tmps.getD 8 undef = lv)
    (LP : ∀ W, W = w → (Instr.loadAt 52 (.pointer (some ⟨pb, 0, none⟩))).run Tryd.prog W = .ok (p.v) W) (CS : Calls Tryd.prog 65 #[.pointer (some ⟨d, 0, none⟩), p.v, lv] w fun e w' => e = .returned (.tuple #[]) ∧ Fin w')
    (h : ∀ (a' : Act) (w' : World), Fin w' → a' = ((((a).put (some 53) (.pointer (some ⟨d, 0, none⟩))).put (some 54) (p.v)).put (some 55) (lv)).put (some 56) (.tuple #[]) → Q .normal a' w') :
    (Code.region 9 rad9_ops false).wp Tryd.prog Q a w := by
  refine z0 rfl ?_
  refine zv rfl (exec_move rfl (zi t0 rfl)) ?_
  refine zv rfl (exec_load rfl (zi t5 rfl) (LP _ rfl)) ?_
  refine zv rfl (exec_move rfl (zi t8 rfl)) ?_
  refine zc rfl (exec_c3 rfl (zg zz rfl) (zg zz rfl) (zg zz rfl)) (CS) (fun e x3 hx => ?_)
  obtain ⟨rfl, HF⟩ := hx
  refine ⟨_, rfl, ?_⟩
  exact ze rfl (h _ _ (HF) rfl)
def run5_o0 : Oper := ⟨some 18, .move (.tmp 0), 28, "ref.go:136", #[], none⟩
def run5_o1 : Oper := ⟨some 19, .move (.tmp 0), 28, "ref.go:136", #[], none⟩
def run5_o2 : Oper := ⟨some 20, .nilCheck (.tmp 19), 0, "ref.go:136", #[⟨1, .data⟩], none⟩
def run5_o3 : Oper := ⟨some 21, .fieldAddr 88 (.tmp 20) 1, 0, "ref.go:136", #[⟨2, .data⟩], none⟩
def run5_o4 : Oper := ⟨some 22, .load 86 (.tmp 21), 86, "ref.go:136", #[⟨3, .data⟩], none⟩
def run5_o5 : Oper := ⟨some 23, .move (.tmp 1), 3, "ref.go:136", #[], none⟩
def run5_o6 : Oper := ⟨some 24, .binOp BinOp.sub 3 (.tmp 23) (Operand.const (Value.int IntKind.i64 1)) 3, 3, "ref.go:136", #[⟨5, .data⟩], none⟩
def run5_o7 : Oper := ⟨some 25, .indexAddr 86 (.tmp 22) (.tmp 24), 0, "ref.go:136", #[⟨4, .data⟩, ⟨6, .data⟩], none⟩
def run5_o8 : Oper := ⟨some 26, .load 85 (.tmp 25), 85, "ref.go:136", #[⟨7, .data⟩], none⟩
def run5_o9 : Oper := ⟨some 27, .nilCheck (.tmp 18), 0, "ref.go:136", #[⟨0, .data⟩, ⟨0, .phase⟩, ⟨1, .phase⟩, ⟨2, .phase⟩, ⟨3, .phase⟩, ⟨4, .phase⟩, ⟨5, .phase⟩, ⟨6, .phase⟩, ⟨7, .phase⟩, ⟨8, .phase⟩], none⟩
def run5_o10 : Oper := ⟨some 28, .fieldAddr 88 (.tmp 27) 0, 0, "ref.go:136", #[⟨9, .data⟩, ⟨0, .phase⟩, ⟨1, .phase⟩, ⟨2, .phase⟩, ⟨3, .phase⟩, ⟨4, .phase⟩, ⟨5, .phase⟩, ⟨6, .phase⟩, ⟨7, .phase⟩, ⟨8, .phase⟩], none⟩
def run5_o11 : Oper := ⟨none, .store 85 (.tmp 28) (.tmp 26), 0, "ref.go:136", #[⟨10, .data⟩, ⟨8, .data⟩, ⟨0, .phase⟩, ⟨1, .phase⟩, ⟨2, .phase⟩, ⟨3, .phase⟩, ⟨4, .phase⟩, ⟨5, .phase⟩, ⟨6, .phase⟩, ⟨7, .phase⟩, ⟨8, .phase⟩], none⟩
def run5_ops : Array Oper := #[run5_o0, run5_o1, run5_o2, run5_o3, run5_o4, run5_o5, run5_o6, run5_o7, run5_o8, run5_o9, run5_o10, run5_o11]
theorem run5 {d g o n c k : Nat} {u : Value} {w1 : World} (a : Act) (w : World) (Q : Exit → Act → World → Prop) (zz : a.tmps.size = 39)
    (t0 : a.tmps.getD 0 undef = .pointer (some ⟨d, 0, none⟩))
    (t1 : a.tmps.getD 1 undef = .int .i64 (n : Int))
    (hd : k + 1 = n) (hs : n ≤ 9223372036854775800) (hi : k < n) (hm : n ≤ 9223372036854775807) (L1 : ∀ W, W = w → (Instr.loadAt 86 (.pointer (some ⟨d, 0 + 1, none⟩))).run Tryd.prog W = .ok (.slice (some ⟨g, o, none⟩) n c) W) (L2 : ∀ W, W = w → (Instr.loadAt 85 (.pointer (some ⟨g, o + k, none⟩))).run Tryd.prog W = .ok (u) W) (E1 : (Instr.storeAt 85 (.pointer (some ⟨d, 0 + 0, none⟩)) u).run Tryd.prog w = .ok () w1)
    (h : ∀ (a' : Act) (w' : World), w' = w1 → a' = (((((((((((a).put (some 18) (.pointer (some ⟨d, 0, none⟩))).put (some 19) (.pointer (some ⟨d, 0, none⟩))).put (some 20) (.pointer (some ⟨d, 0, none⟩))).put (some 21) (.pointer (some ⟨d, 0 + 1, none⟩))).put (some 22) (.slice (some ⟨g, o, none⟩) n c)).put (some 23) (.int .i64 (n : Int))).put (some 24) (.int .i64 (k : Int))).put (some 25) (.pointer (some ⟨g, o + k, none⟩))).put (some 26) (u)).put (some 27) (.pointer (some ⟨d, 0, none⟩))).put (some 28) (.pointer (some ⟨d, 0 + 0, none⟩)) → Q .normal a' w') :
    (Code.region 5 run5_ops false).wp Tryd.prog Q a w := by
  refine z0 rfl ?_
  refine zv rfl (exec_move rfl (zi t0 rfl)) ?_
  refine zv rfl (exec_move rfl (zi t0 rfl)) ?_
  refine zv rfl (exec_nilCheck rfl (zg zz rfl)) ?_
  refine zv rfl (exec_fieldAt rfl (zg zz rfl) (fg_88_1 _ _ _)) ?_
  refine zv rfl (exec_load rfl (zg zz rfl) (L1 _ rfl)) ?_
  refine zv rfl (exec_move rfl (zi t1 rfl)) ?_
  refine zv (v := .int .i64 (k : Int)) rfl (exec_sub1 rfl (zg zz rfl) rfl hd hs) ?_
  refine zv rfl (exec_indexAt rfl (zg zz rfl) (zg zz rfl) (ix_ps hi hm _)) ?_
  refine zv rfl (exec_load rfl (zg zz rfl) (L2 _ rfl)) ?_
  refine zv rfl (exec_nilCheck rfl (zg zz rfl)) ?_
  refine zv rfl (exec_fieldAt rfl (zg zz rfl) (fg_88_0 _ _ _)) ?_
  refine zs rfl (exec_store rfl (zg zz rfl) (zg zz rfl) E1) ?_
  exact ze rfl (h _ _ (rfl) rfl)
def run6_o0 : Oper := ⟨some 29, .move (.tmp 0), 28, "ref.go:137", #[], none⟩
def run6_o1 : Oper := ⟨some 30, .move (.tmp 0), 28, "ref.go:137", #[], none⟩
def run6_o2 : Oper := ⟨some 31, .nilCheck (.tmp 30), 0, "ref.go:137", #[⟨1, .data⟩], none⟩
def run6_o3 : Oper := ⟨some 32, .fieldAddr 88 (.tmp 31) 1, 0, "ref.go:137", #[⟨2, .data⟩], none⟩
def run6_o4 : Oper := ⟨some 33, .load 86 (.tmp 32), 86, "ref.go:137", #[⟨3, .data⟩], none⟩
def run6_o5 : Oper := ⟨some 34, .move (.tmp 1), 3, "ref.go:137", #[], none⟩
def run6_o6 : Oper := ⟨some 35, .binOp BinOp.sub 3 (.tmp 34) (Operand.const (Value.int IntKind.i64 1)) 3, 3, "ref.go:137", #[⟨5, .data⟩], none⟩
def run6_o7 : Oper := ⟨some 36, .slice 86 (.tmp 33) none (some (.tmp 35)) none, 86, "ref.go:137", #[⟨4, .data⟩, ⟨6, .data⟩], none⟩
def run6_o8 : Oper := ⟨some 37, .nilCheck (.tmp 29), 0, "ref.go:137", #[⟨0, .data⟩, ⟨0, .phase⟩, ⟨1, .phase⟩, ⟨2, .phase⟩, ⟨3, .phase⟩, ⟨4, .phase⟩, ⟨5, .phase⟩, ⟨6, .phase⟩, ⟨7, .phase⟩], none⟩
def run6_o9 : Oper := ⟨some 38, .fieldAddr 88 (.tmp 37) 1, 0, "ref.go:137", #[⟨8, .data⟩, ⟨0, .phase⟩, ⟨1, .phase⟩, ⟨2, .phase⟩, ⟨3, .phase⟩, ⟨4, .phase⟩, ⟨5, .phase⟩, ⟨6, .phase⟩, ⟨7, .phase⟩], none⟩
def run6_o10 : Oper := ⟨none, .store 86 (.tmp 38) (.tmp 36), 0, "ref.go:137", #[⟨9, .data⟩, ⟨7, .data⟩, ⟨0, .phase⟩, ⟨1, .phase⟩, ⟨2, .phase⟩, ⟨3, .phase⟩, ⟨4, .phase⟩, ⟨5, .phase⟩, ⟨6, .phase⟩, ⟨7, .phase⟩], none⟩
def run6_ops : Array Oper := #[run6_o0, run6_o1, run6_o2, run6_o3, run6_o4, run6_o5, run6_o6, run6_o7, run6_o8, run6_o9, run6_o10]
theorem run6 {d g o n c k : Nat} {pv2 : Value} {w1 : World} (a : Act) (w : World) (Q : Exit → Act → World → Prop) (zz : a.tmps.size = 39)
    (t0 : a.tmps.getD 0 undef = .pointer (some ⟨d, 0, none⟩))
    (t1 : a.tmps.getD 1 undef = .int .i64 (n : Int))
    (hd : k + 1 = n) (hs : n ≤ 9223372036854775800) (L1 : ∀ W, W = w → (Instr.loadAt 86 (.pointer (some ⟨d, 0 + 1, none⟩))).run Tryd.prog W = .ok (.slice (some ⟨g, o, none⟩) n c) W) (ESL : ∀ W, (Instr.sliceAt 86 (.slice (some ⟨g, o, none⟩) n c) none (some (.int .i64 (k : Int))) none).run Tryd.prog W = .ok pv2 W) (E1 : (Instr.storeAt 86 (.pointer (some ⟨d, 0 + 1, none⟩)) pv2).run Tryd.prog w = .ok () w1)
    (h : ∀ (a' : Act) (w' : World), w' = w1 → a' = ((((((((((a).put (some 29) (.pointer (some ⟨d, 0, none⟩))).put (some 30) (.pointer (some ⟨d, 0, none⟩))).put (some 31) (.pointer (some ⟨d, 0, none⟩))).put (some 32) (.pointer (some ⟨d, 0 + 1, none⟩))).put (some 33) (.slice (some ⟨g, o, none⟩) n c)).put (some 34) (.int .i64 (n : Int))).put (some 35) (.int .i64 (k : Int))).put (some 36) (pv2)).put (some 37) (.pointer (some ⟨d, 0, none⟩))).put (some 38) (.pointer (some ⟨d, 0 + 1, none⟩)) → Q .normal a' w') :
    (Code.region 6 run6_ops false).wp Tryd.prog Q a w := by
  refine z0 rfl ?_
  refine zv rfl (exec_move rfl (zi t0 rfl)) ?_
  refine zv rfl (exec_move rfl (zi t0 rfl)) ?_
  refine zv rfl (exec_nilCheck rfl (zg zz rfl)) ?_
  refine zv rfl (exec_fieldAt rfl (zg zz rfl) (fg_88_1 _ _ _)) ?_
  refine zv rfl (exec_load rfl (zg zz rfl) (L1 _ rfl)) ?_
  refine zv rfl (exec_move rfl (zi t1 rfl)) ?_
  refine zv (v := .int .i64 (k : Int)) rfl (exec_sub1 rfl (zg zz rfl) rfl hd hs) ?_
  refine zv (v := pv2) rfl (exec_slu rfl (zg zz rfl) (zg zz rfl) (ESL _)) ?_
  refine zv rfl (exec_nilCheck rfl (zg zz rfl)) ?_
  refine zv rfl (exec_fieldAt rfl (zg zz rfl) (fg_88_1 _ _ _)) ?_
  refine zs rfl (exec_store rfl (zg zz rfl) (zg zz rfl) E1) ?_
  exact ze rfl (h _ _ (rfl) rfl)
def rto1_o0 : Oper := ⟨some 7, .move (.tmp 0), 28, "ref.go:150", #[], none⟩
def rto1_o1 : Oper := ⟨some 8, .load 52 (.tmp 3), 52, "ref.go:150", #[], none⟩
def rto1_o2 : Oper := ⟨some 9, .call { callee := Callee.value (Operand.func 40), args := #[.tmp 7, .tmp 8], argTypes := #[28, 52] }, 60, "ref.go:150", #[⟨0, .data⟩, ⟨1, .data⟩], none⟩
def rto1_o3 : Oper := ⟨some 6, .assign (.tmp 9), 60, "ref.go:150", #[⟨2, .data⟩, ⟨2, .chain⟩, ⟨0, .phase⟩, ⟨1, .phase⟩, ⟨2, .phase⟩], none⟩
def rto1_ops : Array Oper := #[rto1_o0, rto1_o1, rto1_o2, rto1_o3]
theorem rto1 {d pb : Nat} {p : PlK} (Fin : Value → World → Prop) (a : Act) (w : World) (Q : Exit → Act → World → Prop) (zz : a.tmps.size = 20)
    (t0 : a.tmps.getD 0 undef = .pointer (some ⟨d, 0, none⟩))
    (t3 : a.tmps.getD 3 undef = .pointer (some ⟨pb, 0, none⟩))
    (LP : ∀ W, W = w → (Instr.loadAt 52 (.pointer (some ⟨pb, 0, none⟩))).run Tryd.prog W = .ok (p.v) W) (CL : Calls Tryd.prog 40 #[.pointer (some ⟨d, 0, none⟩), p.v] w fun e w' => ∃ u, e = .returned u ∧ Fin u w')
    (h : ∀ (u : Value) (a' : Act) (w' : World), Fin u w' → a' = ((((a).put (some 7) (.pointer (some ⟨d, 0, none⟩))).put (some 8) (p.v)).put (some 9) (u)).put (some 6) (u) → Q .normal a' w') :
    (Code.region 1 rto1_ops false).wp Tryd.prog Q a w := by
  refine z0 rfl ?_
  refine zv rfl (exec_move rfl (zi t0 rfl)) ?_
  refine zv rfl (exec_load rfl (zi t3 rfl) (LP _ rfl)) ?_
  refine zc rfl (exec_c2 rfl (zg zz rfl) (zg zz rfl)) (CL) (fun e x2 hx => ?_)
  obtain ⟨u, rfl, HF⟩ := hx
  replace h := h u
  refine ⟨_, rfl, ?_⟩
  refine zv rfl (exec_assign rfl (zg zz rfl)) ?_
  exact ze rfl (h _ _ (HF) rfl)
def rto3_o0 : Oper := ⟨some 13, .build 63 #[], 63, "ref.go:152", #[], none⟩
def rto3_o1 : Oper := ⟨none, .store 63 (.tmp 4) (.tmp 13), 0, "ref.go:152", #[⟨0, .data⟩, ⟨0, .phase⟩], none⟩
def rto3_o2 : Oper := ⟨some 5, .assign (Operand.const (Value.bool false)), 4, "ref.go:152", #[⟨1, .chain⟩, ⟨0, .phase⟩, ⟨1, .phase⟩], none⟩
def rto3_ops : Array Oper := #[rto3_o0, rto3_o1, rto3_o2]
theorem rto3 {eb : Nat} {w1 : World} (a : Act) (w : World) (Q : Exit → Act → World → Prop) (zz : a.tmps.size = 20)
    (t4 : a.tmps.getD 4 undef = .pointer (some ⟨eb, 0, none⟩))
    (ES : (Instr.storeAt 63 (.pointer (some ⟨eb, 0, none⟩)) zEn.a).run Tryd.prog w = .ok () w1)
    (h : ∀ (a' : Act) (w' : World), w' = w1 → a' = ((a).put (some 13) (zEn.a)).put (some 5) (.bool false) → Q .normal a' w') :
    (Code.region 3 rto3_ops false).wp Tryd.prog Q a w := by
  refine z0 rfl ?_
  refine zv rfl (exec_build0 rfl (build_zen _)) ?_
  refine zs rfl (exec_store rfl (zi t4 rfl) (zg zz rfl) ES) ?_
  refine zv rfl (exec_assign rfl rfl) ?_
  exact ze rfl (h _ _ (rfl) rfl)
def rto4_o0 : Oper := ⟨some 14, .move (.tmp 6), 60, "ref.go:154", #[], none⟩
def rto4_o1 : Oper := ⟨some 15, .move (.tmp 6), 60, "ref.go:154", #[], none⟩
def rto4_o2 : Oper := ⟨some 16, .call { callee := Callee.builtin Builtin.len, args := #[.tmp 15], argTypes := #[60] }, 3, "ref.go:154", #[⟨1, .data⟩], none⟩
def rto4_o3 : Oper := ⟨some 17, .binOp BinOp.sub 3 (.tmp 16) (Operand.const (Value.int IntKind.i64 1)) 3, 3, "ref.go:154", #[⟨2, .data⟩], none⟩
def rto4_o4 : Oper := ⟨some 18, .indexAddr 60 (.tmp 14) (.tmp 17), 0, "ref.go:154", #[⟨0, .data⟩, ⟨3, .data⟩], none⟩
def rto4_o5 : Oper := ⟨some 19, .load 63 (.tmp 18), 63, "ref.go:154", #[⟨4, .data⟩], none⟩
def rto4_o6 : Oper := ⟨none, .store 63 (.tmp 4) (.tmp 19), 0, "ref.go:154", #[⟨5, .data⟩, ⟨0, .phase⟩, ⟨1, .phase⟩, ⟨2, .phase⟩, ⟨3, .phase⟩, ⟨4, .phase⟩, ⟨5, .phase⟩], none⟩
def rto4_o7 : Oper := ⟨some 5, .assign (Operand.const (Value.bool true)), 4, "ref.go:154", #[⟨6, .chain⟩, ⟨0, .phase⟩, ⟨1, .phase⟩, ⟨2, .phase⟩, ⟨3, .phase⟩, ⟨4, .phase⟩, ⟨5, .phase⟩, ⟨6, .phase⟩], none⟩
def rto4_ops : Array Oper := #[rto4_o0, rto4_o1, rto4_o2, rto4_o3, rto4_o4, rto4_o5, rto4_o6, rto4_o7]
theorem rto4 {eb g o n lc d : Nat} {x : EnV} {w1 : World} (a : Act) (w : World) (Q : Exit → Act → World → Prop) (zz : a.tmps.size = 20)
    (t4 : a.tmps.getD 4 undef = .pointer (some ⟨eb, 0, none⟩))
    (t6 : a.tmps.getD 6 undef = .slice (some ⟨g, o, none⟩) n lc)
    (hd : d + 1 = n) (hs : n ≤ 9223372036854775800) (hi : d < n) (hm : n ≤ 9223372036854775807) (LX : ∀ W, W = w → (Instr.loadAt 63 (.pointer (some ⟨g, o + 37 * d, none⟩))).run Tryd.prog W = .ok x.a W) (ES : (Instr.storeAt 63 (.pointer (some ⟨eb, 0, none⟩)) x.a).run Tryd.prog w = .ok () w1)
    (h : ∀ (a' : Act) (w' : World), w' = w1 → a' = (((((((a).put (some 14) (.slice (some ⟨g, o, none⟩) n lc)).put (some 15) (.slice (some ⟨g, o, none⟩) n lc)).put (some 16) (.int .i64 (n : Int))).put (some 17) (.int .i64 (d : Int))).put (some 18) (.pointer (some ⟨g, o + 37 * d, none⟩))).put (some 19) (x.a)).put (some 5) (.bool true) → Q .normal a' w') :
    (Code.region 4 rto4_ops false).wp Tryd.prog Q a w := by
  refine z0 rfl ?_
  refine zv rfl (exec_move rfl (zi t6 rfl)) ?_
  refine zv rfl (exec_move rfl (zi t6 rfl)) ?_
  refine zv rfl (exec_len rfl (zg zz rfl) (len_en _ _ _ _ _)) ?_
  refine zv (v := .int .i64 (d : Int)) rfl (exec_sub1 rfl (zg zz rfl) rfl hd hs) ?_
  refine zv rfl (exec_indexAt rfl (zg zz rfl) (zg zz rfl) (ix_en hi hm _)) ?_
  refine zv rfl (exec_load rfl (zg zz rfl) (LX _ rfl)) ?_
  refine zs rfl (exec_store rfl (zi t4 rfl) (zg zz rfl) ES) ?_
  refine zv rfl (exec_assign rfl rfl) ?_
  exact ze rfl (h _ _ (rfl) rfl)
def rke5_o0 : Oper := ⟨some 23, .move (.tmp 0), 28, "ref.go:160", #[], none⟩
def rke5_o1 : Oper := ⟨some 24, .nilCheck (.tmp 23), 0, "ref.go:160", #[⟨0, .data⟩], none⟩
def rke5_o2 : Oper := ⟨some 25, .fieldAddr 88 (.tmp 24) 0, 0, "ref.go:160", #[⟨1, .data⟩], none⟩
def rke5_o3 : Oper := ⟨some 26, .load 85 (.tmp 25), 85, "ref.go:160", #[⟨2, .data⟩], none⟩
def rke5_o4 : Oper := ⟨some 27, .move (.tmp 6), 3, "ref.go:160", #[], none⟩
def rke5_o5 : Oper := ⟨some 28, .indexAddr 85 (.tmp 26) (.tmp 27), 0, "ref.go:160", #[⟨3, .data⟩, ⟨4, .data⟩], none⟩
def rke5_o6 : Oper := ⟨some 29, .fieldAddr 122 (.tmp 28) 0, 0, "ref.go:160", #[⟨5, .data⟩], none⟩
def rke5_o7 : Oper := ⟨some 30, .load 52 (.tmp 29), 52, "ref.go:160", #[⟨6, .data⟩], none⟩
def rke5_o8 : Oper := ⟨some 7, .alloc 52, 0, "ref.go:160", #[], none⟩
def rke5_o9 : Oper := ⟨none, .store 52 (.tmp 7) (.tmp 30), 0, "ref.go:160", #[⟨8, .data⟩, ⟨7, .data⟩, ⟨0, .phase⟩, ⟨1, .phase⟩, ⟨2, .phase⟩, ⟨3, .phase⟩, ⟨4, .phase⟩, ⟨5, .phase⟩, ⟨6, .phase⟩, ⟨7, .phase⟩, ⟨8, .phase⟩], none⟩
def rke5_ops : Array Oper := #[rke5_o0, rke5_o1, rke5_o2, rke5_o3, rke5_o4, rke5_o5, rke5_o6, rke5_o7, rke5_o8, rke5_o9]
theorem rke5 {d g o n c i pb : Nat} {p : PlK} {w1 w2 : World} (a : Act) (w : World) (Q : Exit → Act → World → Prop) (zz : a.tmps.size = 83)
    (t0 : a.tmps.getD 0 undef = .pointer (some ⟨d, 0, none⟩))
    (t6 : a.tmps.getD 6 undef = .int .i64 (i : Int))
    (hi : i < n) (hm : n ≤ 9223372036854775807) (L1 : ∀ W, W = w → (Instr.loadAt 85 (.pointer (some ⟨d, 0 + 0, none⟩))).run Tryd.prog W = .ok (.slice (some ⟨g, o, none⟩) n c) W) (L2 : ∀ W, W = w → (Instr.loadAt 52 (.pointer (some ⟨g, o + 68 * i + 0, none⟩))).run Tryd.prog W = .ok (p.v) W) (EA : (Instr.alloc 52 true (.tuple #[])).run Tryd.prog w = .ok (.pointer (some ⟨pb, 0, none⟩)) w1) (E2 : (Instr.storeAt 52 (.pointer (some ⟨pb, 0, none⟩)) p.v).run Tryd.prog w1 = .ok () w2)
    (h : ∀ (a' : Act) (w' : World), w' = w2 → a' = (((((((((a).put (some 23) (.pointer (some ⟨d, 0, none⟩))).put (some 24) (.pointer (some ⟨d, 0, none⟩))).put (some 25) (.pointer (some ⟨d, 0 + 0, none⟩))).put (some 26) (.slice (some ⟨g, o, none⟩) n c)).put (some 27) (.int .i64 (i : Int))).put (some 28) (.pointer (some ⟨g, o + 68 * i, none⟩))).put (some 29) (.pointer (some ⟨g, o + 68 * i + 0, none⟩))).put (some 30) (p.v)).put (some 7) (.pointer (some ⟨pb, 0, none⟩)) → Q .normal a' w') :
    (Code.region 5 rke5_ops false).wp Tryd.prog Q a w := by
  refine z0 rfl ?_
  refine zv rfl (exec_move rfl (zi t0 rfl)) ?_
  refine zv rfl (exec_nilCheck rfl (zg zz rfl)) ?_
  refine zv rfl (exec_fieldAt rfl (zg zz rfl) (fg_88_0 _ _ _)) ?_
  refine zv rfl (exec_load rfl (zg zz rfl) (L1 _ rfl)) ?_
  refine zv rfl (exec_move rfl (zi t6 rfl)) ?_
  refine zv rfl (exec_indexAt rfl (zg zz rfl) (zg zz rfl) (ix_sl hi hm _)) ?_
  refine zv rfl (exec_fieldAt rfl (zg zz rfl) (fg_122_0 _ _ _)) ?_
  refine zv rfl (exec_load rfl (zg zz rfl) (L2 _ rfl)) ?_
  refine zv (v := .pointer (some ⟨pb, 0, none⟩)) rfl (exec_alloc rfl EA) ?_
  refine zs rfl (exec_store rfl (zg zz rfl) (zg zz rfl) E2) ?_
  exact ze rfl (h _ _ (rfl) rfl)
def rke6n_o0 : Oper := ⟨some 31, .fieldAddr 52 (.tmp 7) 0, 0, "ref.go:161", #[], none⟩
def rke6n_o1 : Oper := ⟨some 32, .load 38 (.tmp 31), 38, "ref.go:161", #[⟨0, .data⟩], none⟩
def rke6n_o2 : Oper := ⟨some 33, .load 38 (.tmp 3), 38, "ref.go:161", #[], none⟩
def rke6n_o3 : Oper := ⟨some 34, .binOp BinOp.neq 38 (.tmp 32) (.tmp 33) 38, 4, "ref.go:161", #[⟨1, .data⟩, ⟨2, .data⟩], none⟩
def rke6n_o4 : Oper := ⟨some 35, .move (.tmp 34), 4, "ref.go:161", #[⟨3, .data⟩], none⟩
def rke6n_o5 : Oper := ⟨some 36, .fieldAddr 52 (.tmp 7) 2, 0, "ref.go:161", #[⟨4, .guard⟩], some (4, false)⟩
def rke6n_o6 : Oper := ⟨some 37, .load 38 (.tmp 36), 38, "ref.go:161", #[⟨5, .data⟩, ⟨4, .guard⟩], some (4, false)⟩
def rke6n_o7 : Oper := ⟨some 38, .build 38 #[], 38, "ref.go:161", #[⟨4, .guard⟩], some (4, false)⟩
def rke6n_o8 : Oper := ⟨some 39, .binOp BinOp.neq 38 (.tmp 37) (.tmp 38) 38, 4, "ref.go:161", #[⟨6, .data⟩, ⟨7, .data⟩, ⟨4, .guard⟩], some (4, false)⟩
def rke6n_o9 : Oper := ⟨some 40, .pick (.tmp 35) (Operand.const (Value.bool true)) (.tmp 39), 4, "ref.go:161", #[⟨4, .data⟩, ⟨8, .data⟩], none⟩
def rke6n_ops : Array Oper := #[rke6n_o0, rke6n_o1, rke6n_o2, rke6n_o3, rke6n_o4, rke6n_o5, rke6n_o6, rke6n_o7, rke6n_o8, rke6n_o9]
theorem rke6n {ob pb : Nat} {p : PlK} {y : IdK} (a : Act) (w : World) (Q : Exit → Act → World → Prop) (zz : a.tmps.size = 83)
    (t3 : a.tmps.getD 3 undef = .pointer (some ⟨ob, 0, none⟩))
    (t7 : a.tmps.getD 7 undef = .pointer (some ⟨pb, 0, none⟩))
    (hp : p.ok) (hy : y.ok) (L1 : ∀ W, W = w → (Instr.loadAt 38 (.pointer (some ⟨pb, 0 + 0, none⟩))).run Tryd.prog W = .ok (p.o.v) W) (L2 : ∀ W, W = w → (Instr.loadAt 38 (.pointer (some ⟨ob, 0, none⟩))).run Tryd.prog W = .ok (y.v) W) (hne : p.o ≠ y)
    (h : ∀ (a' : Act) (w' : World), w' = w → a' = ((((((((((a).put (some 31) (.pointer (some ⟨pb, 0 + 0, none⟩))).put (some 32) (p.o.v)).put (some 33) (y.v)).put (some 34) (.bool true)).put (some 35) (.bool true)).put (some 36) (undef)).put (some 37) (undef)).put (some 38) (undef)).put (some 39) (undef)).put (some 40) (.bool true) → Q .normal a' w') :
    (Code.region 6 rke6n_ops false).wp Tryd.prog Q a w := by
  refine z0 rfl ?_
  refine zv rfl (exec_fieldAt rfl (zi t7 rfl) (fg_52_0 _ _ _)) ?_
  refine zv rfl (exec_load rfl (zg zz rfl) (L1 _ rfl)) ?_
  refine zv rfl (exec_load rfl (zi t3 rfl) (L2 _ rfl)) ?_
  refine zv (v := .bool true) rfl (ex_neqI rfl (zg zz rfl) (zg zz rfl) hp.o hy (decide_eq_true hne)) ?_
  refine zv rfl (exec_move rfl (zg zz rfl)) ?_
  refine zn (zx zz rfl rfl rfl (zg zz rfl)) ?_
  refine zn (zx zz rfl rfl rfl (zg zz rfl)) ?_
  refine zn (zx zz rfl rfl rfl (zg zz rfl)) ?_
  refine zn (zx zz rfl rfl rfl (zg zz rfl)) ?_
  refine zv rfl (exec_pickT rfl (zg zz rfl) rfl) ?_
  exact ze rfl (h _ _ (rfl) rfl)
def rke6y_o0 : Oper := ⟨some 31, .fieldAddr 52 (.tmp 7) 0, 0, "ref.go:161", #[], none⟩
def rke6y_o1 : Oper := ⟨some 32, .load 38 (.tmp 31), 38, "ref.go:161", #[⟨0, .data⟩], none⟩
def rke6y_o2 : Oper := ⟨some 33, .load 38 (.tmp 3), 38, "ref.go:161", #[], none⟩
def rke6y_o3 : Oper := ⟨some 34, .binOp BinOp.neq 38 (.tmp 32) (.tmp 33) 38, 4, "ref.go:161", #[⟨1, .data⟩, ⟨2, .data⟩], none⟩
def rke6y_o4 : Oper := ⟨some 35, .move (.tmp 34), 4, "ref.go:161", #[⟨3, .data⟩], none⟩
def rke6y_o5 : Oper := ⟨some 36, .fieldAddr 52 (.tmp 7) 2, 0, "ref.go:161", #[⟨4, .guard⟩], some (4, false)⟩
def rke6y_o6 : Oper := ⟨some 37, .load 38 (.tmp 36), 38, "ref.go:161", #[⟨5, .data⟩, ⟨4, .guard⟩], some (4, false)⟩
def rke6y_o7 : Oper := ⟨some 38, .build 38 #[], 38, "ref.go:161", #[⟨4, .guard⟩], some (4, false)⟩
def rke6y_o8 : Oper := ⟨some 39, .binOp BinOp.neq 38 (.tmp 37) (.tmp 38) 38, 4, "ref.go:161", #[⟨6, .data⟩, ⟨7, .data⟩, ⟨4, .guard⟩], some (4, false)⟩
def rke6y_o9 : Oper := ⟨some 40, .pick (.tmp 35) (Operand.const (Value.bool true)) (.tmp 39), 4, "ref.go:161", #[⟨4, .data⟩, ⟨8, .data⟩], none⟩
def rke6y_ops : Array Oper := #[rke6y_o0, rke6y_o1, rke6y_o2, rke6y_o3, rke6y_o4, rke6y_o5, rke6y_o6, rke6y_o7, rke6y_o8, rke6y_o9]
theorem rke6y {ob pb : Nat} {p : PlK} {y : IdK} {r : Bool} (a : Act) (w : World) (Q : Exit → Act → World → Prop) (zz : a.tmps.size = 83)
    (t3 : a.tmps.getD 3 undef = .pointer (some ⟨ob, 0, none⟩))
    (t7 : a.tmps.getD 7 undef = .pointer (some ⟨pb, 0, none⟩))
    (hp : p.ok) (hy : y.ok) (L1 : ∀ W, W = w → (Instr.loadAt 38 (.pointer (some ⟨pb, 0 + 0, none⟩))).run Tryd.prog W = .ok (p.o.v) W) (L2 : ∀ W, W = w → (Instr.loadAt 38 (.pointer (some ⟨ob, 0, none⟩))).run Tryd.prog W = .ok (y.v) W) (he : p.o = y) (hr : decide (p.a ≠ zId) = r) (L3 : ∀ W, W = w → (Instr.loadAt 38 (.pointer (some ⟨pb, 0 + 34, none⟩))).run Tryd.prog W = .ok (p.a.v) W)
    (h : ∀ (a' : Act) (w' : World), w' = w → a' = ((((((((((a).put (some 31) (.pointer (some ⟨pb, 0 + 0, none⟩))).put (some 32) (p.o.v)).put (some 33) (y.v)).put (some 34) (.bool false)).put (some 35) (.bool false)).put (some 36) (.pointer (some ⟨pb, 0 + 34, none⟩))).put (some 37) (p.a.v)).put (some 38) (zId.v)).put (some 39) (.bool r)).put (some 40) (.bool r) → Q .normal a' w') :
    (Code.region 6 rke6y_ops false).wp Tryd.prog Q a w := by
  refine z0 rfl ?_
  refine zv rfl (exec_fieldAt rfl (zi t7 rfl) (fg_52_0 _ _ _)) ?_
  refine zv rfl (exec_load rfl (zg zz rfl) (L1 _ rfl)) ?_
  refine zv rfl (exec_load rfl (zi t3 rfl) (L2 _ rfl)) ?_
  refine zv (v := .bool false) rfl (ex_neqI rfl (zg zz rfl) (zg zz rfl) hp.o hy (decide_eq_false (fun h => h he))) ?_
  refine zv rfl (exec_move rfl (zg zz rfl)) ?_
  refine zv (zw zz rfl rfl rfl (zg zz rfl)) (exec_fieldAt rfl (zi t7 rfl) (fg_52_2 _ _ _)) ?_
  refine zv (zw zz rfl rfl rfl (zg zz rfl)) (exec_load rfl (zg zz rfl) (L3 _ rfl)) ?_
  refine zv (zw zz rfl rfl rfl (zg zz rfl)) (exec_build0 rfl (build_id _)) ?_
  refine zv (v := .bool r) (zw zz rfl rfl rfl (zg zz rfl)) (ex_neqI rfl (zg zz rfl) (zg zz rfl) hp.a zId_ok hr) ?_
  refine zv rfl (exec_pickF rfl (zg zz rfl) (zg zz rfl)) ?_
  exact ze rfl (h _ _ (rfl) rfl)
def rke7_o0 : Oper := ⟨some 41, .move (.tmp 5), 67, "ref.go:164", #[], none⟩
def rke7_o1 : Oper := ⟨some 42, .fieldAddr 52 (.tmp 7) 1, 0, "ref.go:164", #[], none⟩
def rke7_o2 : Oper := ⟨some 43, .load 9 (.tmp 42), 9, "ref.go:164", #[⟨1, .data⟩], none⟩
def rke7_o3 : Oper := ⟨some 44, .buildSlice 67 1 #[(0, .tmp 43)], 67, "ref.go:164", #[⟨2, .data⟩], none⟩
def rke7_o4 : Oper := ⟨some 45, .call { callee := Callee.builtin Builtin.append, args := #[.tmp 41, .tmp 44], argTypes := #[67, 67] }, 67, "ref.go:164", #[⟨0, .data⟩, ⟨3, .data⟩], none⟩
def rke7_o5 : Oper := ⟨some 5, .assign (.tmp 45), 67, "ref.go:164", #[⟨4, .data⟩, ⟨4, .chain⟩, ⟨0, .phase⟩, ⟨1, .phase⟩, ⟨2, .phase⟩, ⟨3, .phase⟩, ⟨4, .phase⟩], none⟩
def rke7_ops : Array Oper := #[rke7_o0, rke7_o1, rke7_o2, rke7_o3, rke7_o4, rke7_o5]
theorem rke7 {pb : Nat} {lv bv u : Value} {p : PlK} {w1 w2 : World} (a : Act) (w : World) (Q : Exit → Act → World → Prop) (zz : a.tmps.size = 83)
    (t5 : a.tmps.getD 5 undef = lv)
    (t7 : a.tmps.getD 7 undef = .pointer (some ⟨pb, 0, none⟩))
    (L1 : ∀ W, W = w → (Instr.loadAt 9 (.pointer (some ⟨pb, 0 + 33, none⟩))).run Tryd.prog W = .ok (.string p.k) W) (E1 : (Instr.buildSlice 67 1 #[(0, .string p.k)]).run Tryd.prog w = .ok bv w1) (E2 : (Builtin.append_ #[67, 67] 67 #[lv, bv]).run Tryd.prog w1 = .ok u w2)
    (h : ∀ (a' : Act) (w' : World), w' = w2 → a' = ((((((a).put (some 41) (lv)).put (some 42) (.pointer (some ⟨pb, 0 + 33, none⟩))).put (some 43) (.string p.k)).put (some 44) (bv)).put (some 45) (u)).put (some 5) (u) → Q .normal a' w') :
    (Code.region 7 rke7_ops false).wp Tryd.prog Q a w := by
  refine z0 rfl ?_
  refine zv rfl (exec_move rfl (zi t5 rfl)) ?_
  refine zv rfl (exec_fieldAt rfl (zi t7 rfl) (fg_52_1 _ _ _)) ?_
  refine zv rfl (exec_load rfl (zg zz rfl) (L1 _ rfl)) ?_
  refine zv (v := bv) rfl (exec_buildSlice rfl (zg zz rfl) E1) ?_
  refine zv (v := u) rfl (exec_append rfl (zg zz rfl) (zg zz rfl) E2) ?_
  refine zv rfl (exec_assign rfl (zg zz rfl)) ?_
  exact ze rfl (h _ _ (rfl) rfl)
def rke9n_o0 : Oper := ⟨some 49, .move (.tmp 8), 3, "ref.go:165", #[], none⟩
def rke9n_o1 : Oper := ⟨some 50, .binOp BinOp.gtr 3 (.tmp 49) (Operand.const (Value.int IntKind.i64 0)) 3, 4, "ref.go:165", #[⟨0, .data⟩], none⟩
def rke9n_o2 : Oper := ⟨some 51, .move (.tmp 50), 4, "ref.go:165", #[⟨1, .data⟩], none⟩
def rke9n_o3 : Oper := ⟨some 52, .move (.tmp 5), 67, "ref.go:165", #[⟨2, .guard⟩], some (2, true)⟩
def rke9n_o4 : Oper := ⟨some 53, .move (.tmp 8), 3, "ref.go:165", #[⟨2, .guard⟩], some (2, true)⟩
def rke9n_o5 : Oper := ⟨some 54, .indexAddr 67 (.tmp 52) (.tmp 53), 0, "ref.go:165", #[⟨3, .data⟩, ⟨4, .data⟩, ⟨2, .guard⟩], some (2, true)⟩
def rke9n_o6 : Oper := ⟨some 55, .load 9 (.tmp 54), 9, "ref.go:165", #[⟨5, .data⟩, ⟨2, .guard⟩], some (2, true)⟩
def rke9n_o7 : Oper := ⟨some 56, .move (.tmp 5), 67, "ref.go:165", #[⟨2, .guard⟩], some (2, true)⟩
def rke9n_o8 : Oper := ⟨some 57, .move (.tmp 8), 3, "ref.go:165", #[⟨2, .guard⟩], some (2, true)⟩
def rke9n_o9 : Oper := ⟨some 58, .binOp BinOp.sub 3 (.tmp 57) (Operand.const (Value.int IntKind.i64 1)) 3, 3, "ref.go:165", #[⟨8, .data⟩, ⟨2, .guard⟩], some (2, true)⟩
def rke9n_o10 : Oper := ⟨some 59, .indexAddr 67 (.tmp 56) (.tmp 58), 0, "ref.go:165", #[⟨7, .data⟩, ⟨9, .data⟩, ⟨2, .guard⟩], some (2, true)⟩
def rke9n_o11 : Oper := ⟨some 60, .load 9 (.tmp 59), 9, "ref.go:165", #[⟨10, .data⟩, ⟨2, .guard⟩], some (2, true)⟩
def rke9n_o12 : Oper := ⟨some 61, .binOp BinOp.lss 9 (.tmp 55) (.tmp 60) 9, 4, "ref.go:165", #[⟨6, .data⟩, ⟨11, .data⟩, ⟨2, .guard⟩], some (2, true)⟩
def rke9n_o13 : Oper := ⟨some 62, .pick (.tmp 51) (.tmp 61) (Operand.const (Value.bool false)), 4, "ref.go:165", #[⟨2, .data⟩, ⟨12, .data⟩], none⟩
def rke9n_ops : Array Oper := #[rke9n_o0, rke9n_o1, rke9n_o2, rke9n_o3, rke9n_o4, rke9n_o5, rke9n_o6, rke9n_o7, rke9n_o8, rke9n_o9, rke9n_o10, rke9n_o11, rke9n_o12, rke9n_o13]
theorem rke9n {g o n c k : Nat} (a : Act) (w : World) (Q : Exit → Act → World → Prop) (zz : a.tmps.size = 83)
    (t5 : a.tmps.getD 5 undef = .slice (some ⟨g, o, none⟩) n c)
    (t8 : a.tmps.getD 8 undef = .int .i64 (k : Int))
    (h0 : k = 0)
    (h : ∀ (a' : Act) (w' : World), w' = w.drew → a' = ((((((((((((((a).put (some 49) (.int .i64 (k : Int))).put (some 50) (.bool false)).put (some 51) (.bool false)).put (some 52) (undef)).put (some 53) (undef)).put (some 54) (undef)).put (some 55) (undef)).put (some 56) (undef)).put (some 57) (undef)).put (some 58) (undef)).put (some 59) (undef)).put (some 60) (undef)).put (some 61) (undef)).put (some 62) (.bool false) → Q .normal a' w') :
    (Code.region 9 rke9n_ops true).wp Tryd.prog Q a w := by
  refine y0 (fun w' => w' = w.drew) (rfl) (fun hHeld => ?_)
  refine yv 0 rfl rfl (fun w1 hw => exec_move rfl (zi t8 rfl)) hHeld ?_
  refine yv (v := .bool false) 1 rfl rfl (fun w1 hw => ex_gtz (by rw [h0]; rfl) rfl (zg zz rfl) rfl) hHeld ?_
  refine yv 2 rfl rfl (fun w1 hw => exec_move rfl (zg zz rfl)) hHeld ?_
  refine yn 3 rfl (zx zz rfl rfl rfl (zg zz rfl)) hHeld ?_
  refine yn 4 rfl (zx zz rfl rfl rfl (zg zz rfl)) hHeld ?_
  refine yn 5 rfl (zx zz rfl rfl rfl (zg zz rfl)) hHeld ?_
  refine yn 6 rfl (zx zz rfl rfl rfl (zg zz rfl)) hHeld ?_
  refine yn 7 rfl (zx zz rfl rfl rfl (zg zz rfl)) hHeld ?_
  refine yn 8 rfl (zx zz rfl rfl rfl (zg zz rfl)) hHeld ?_
  refine yn 9 rfl (zx zz rfl rfl rfl (zg zz rfl)) hHeld ?_
  refine yn 10 rfl (zx zz rfl rfl rfl (zg zz rfl)) hHeld ?_
  refine yn 11 rfl (zx zz rfl rfl rfl (zg zz rfl)) hHeld ?_
  refine yn 12 rfl (zx zz rfl rfl rfl (zg zz rfl)) hHeld ?_
  refine yv 13 rfl rfl (fun w1 hw => exec_pickF rfl (zg zz rfl) rfl) hHeld ?_
  exact ye rfl (h _ _ (hHeld) rfl)
def rke9y_o0 : Oper := ⟨some 49, .move (.tmp 8), 3, "ref.go:165", #[], none⟩
def rke9y_o1 : Oper := ⟨some 50, .binOp BinOp.gtr 3 (.tmp 49) (Operand.const (Value.int IntKind.i64 0)) 3, 4, "ref.go:165", #[⟨0, .data⟩], none⟩
def rke9y_o2 : Oper := ⟨some 51, .move (.tmp 50), 4, "ref.go:165", #[⟨1, .data⟩], none⟩
def rke9y_o3 : Oper := ⟨some 52, .move (.tmp 5), 67, "ref.go:165", #[⟨2, .guard⟩], some (2, true)⟩
def rke9y_o4 : Oper := ⟨some 53, .move (.tmp 8), 3, "ref.go:165", #[⟨2, .guard⟩], some (2, true)⟩
def rke9y_o5 : Oper := ⟨some 54, .indexAddr 67 (.tmp 52) (.tmp 53), 0, "ref.go:165", #[⟨3, .data⟩, ⟨4, .data⟩, ⟨2, .guard⟩], some (2, true)⟩
def rke9y_o6 : Oper := ⟨some 55, .load 9 (.tmp 54), 9, "ref.go:165", #[⟨5, .data⟩, ⟨2, .guard⟩], some (2, true)⟩
def rke9y_o7 : Oper := ⟨some 56, .move (.tmp 5), 67, "ref.go:165", #[⟨2, .guard⟩], some (2, true)⟩
def rke9y_o8 : Oper := ⟨some 57, .move (.tmp 8), 3, "ref.go:165", #[⟨2, .guard⟩], some (2, true)⟩
def rke9y_o9 : Oper := ⟨some 58, .binOp BinOp.sub 3 (.tmp 57) (Operand.const (Value.int IntKind.i64 1)) 3, 3, "ref.go:165", #[⟨8, .data⟩, ⟨2, .guard⟩], some (2, true)⟩
def rke9y_o10 : Oper := ⟨some 59, .indexAddr 67 (.tmp 56) (.tmp 58), 0, "ref.go:165", #[⟨7, .data⟩, ⟨9, .data⟩, ⟨2, .guard⟩], some (2, true)⟩
def rke9y_o11 : Oper := ⟨some 60, .load 9 (.tmp 59), 9, "ref.go:165", #[⟨10, .data⟩, ⟨2, .guard⟩], some (2, true)⟩
def rke9y_o12 : Oper := ⟨some 61, .binOp BinOp.lss 9 (.tmp 55) (.tmp 60) 9, 4, "ref.go:165", #[⟨6, .data⟩, ⟨11, .data⟩, ⟨2, .guard⟩], some (2, true)⟩
def rke9y_o13 : Oper := ⟨some 62, .pick (.tmp 51) (.tmp 61) (Operand.const (Value.bool false)), 4, "ref.go:165", #[⟨2, .data⟩, ⟨12, .data⟩], none⟩
def rke9y_ops : Array Oper := #[rke9y_o0, rke9y_o1, rke9y_o2, rke9y_o3, rke9y_o4, rke9y_o5, rke9y_o6, rke9y_o7, rke9y_o8, rke9y_o9, rke9y_o10, rke9y_o11, rke9y_o12, rke9y_o13]
theorem rke9y {g o n c k j : Nat} {s t : ByteArray} {r : Bool} (a : Act) (w : World) (Q : Exit → Act → World → Prop) (zz : a.tmps.size = 83)
    (t5 : a.tmps.getD 5 undef = .slice (some ⟨g, o, none⟩) n c)
    (t8 : a.tmps.getD 8 undef = .int .i64 (k : Int))
    (hjk : j + 1 = k) (hs : k ≤ 9223372036854775800) (hk : k < n) (hj : j < n) (hm : n ≤ 9223372036854775807) (L1 : ∀ W, W = w.drew → (Instr.loadAt 9 (.pointer (some ⟨g, o + k, none⟩))).run Tryd.prog W = .ok (.string s) W) (L2 : ∀ W, W = w.drew → (Instr.loadAt 9 (.pointer (some ⟨g, o + j, none⟩))).run Tryd.prog W = .ok (.string t) W) (EL : ∀ W, (binOp .lss 9 (.string s) (.string t)).run Tryd.prog W = .ok (.bool r) W)
    (h : ∀ (a' : Act) (w' : World), w' = w.drew → a' = ((((((((((((((a).put (some 49) (.int .i64 (k : Int))).put (some 50) (.bool true)).put (some 51) (.bool true)).put (some 52) (.slice (some ⟨g, o, none⟩) n c)).put (some 53) (.int .i64 (k : Int))).put (some 54) (.pointer (some ⟨g, o + k, none⟩))).put (some 55) (.string s)).put (some 56) (.slice (some ⟨g, o, none⟩) n c)).put (some 57) (.int .i64 (k : Int))).put (some 58) (.int .i64 (j : Int))).put (some 59) (.pointer (some ⟨g, o + j, none⟩))).put (some 60) (.string t)).put (some 61) (.bool r)).put (some 62) (.bool r) → Q .normal a' w') :
    (Code.region 9 rke9y_ops true).wp Tryd.prog Q a w := by
  refine y0 (fun w' => w' = w.drew) (rfl) (fun hHeld => ?_)
  refine yv 0 rfl rfl (fun w1 hw => exec_move rfl (zi t8 rfl)) hHeld ?_
  refine yv (v := .bool true) 1 rfl rfl (fun w1 hw => ex_gtz (decide_eq_true (by omega)) rfl (zg zz rfl) rfl) hHeld ?_
  refine yv 2 rfl rfl (fun w1 hw => exec_move rfl (zg zz rfl)) hHeld ?_
  refine yv 3 rfl (zw zz rfl rfl rfl (zg zz rfl)) (fun w1 hw => exec_move rfl (zi t5 rfl)) hHeld ?_
  refine yv 4 rfl (zw zz rfl rfl rfl (zg zz rfl)) (fun w1 hw => exec_move rfl (zi t8 rfl)) hHeld ?_
  refine yv 5 rfl (zw zz rfl rfl rfl (zg zz rfl)) (fun w1 hw => exec_indexAt rfl (zg zz rfl) (zg zz rfl) (ix_tx hk hm _)) hHeld ?_
  refine yv 6 rfl (zw zz rfl rfl rfl (zg zz rfl)) (fun w1 hw => exec_load rfl (zg zz rfl) (L1 _ hw)) hHeld ?_
  refine yv 7 rfl (zw zz rfl rfl rfl (zg zz rfl)) (fun w1 hw => exec_move rfl (zi t5 rfl)) hHeld ?_
  refine yv 8 rfl (zw zz rfl rfl rfl (zg zz rfl)) (fun w1 hw => exec_move rfl (zi t8 rfl)) hHeld ?_
  refine yv (v := .int .i64 (j : Int)) 9 rfl (zw zz rfl rfl rfl (zg zz rfl)) (fun w1 hw => exec_sub1 rfl (zg zz rfl) rfl hjk hs) hHeld ?_
  refine yv 10 rfl (zw zz rfl rfl rfl (zg zz rfl)) (fun w1 hw => exec_indexAt rfl (zg zz rfl) (zg zz rfl) (ix_tx hj hm _)) hHeld ?_
  refine yv 11 rfl (zw zz rfl rfl rfl (zg zz rfl)) (fun w1 hw => exec_load rfl (zg zz rfl) (L2 _ hw)) hHeld ?_
  refine yv (v := .bool r) 12 rfl (zw zz rfl rfl rfl (zg zz rfl)) (fun w1 hw => ex_ltx rfl (zg zz rfl) (zg zz rfl) (EL _)) hHeld ?_
  refine yv 13 rfl rfl (fun w1 hw => exec_pickT rfl (zg zz rfl) (zg zz rfl)) hHeld ?_
  exact ye rfl (h _ _ (hHeld) rfl)
def rke11_o0 : Oper := ⟨some 65, .move (.tmp 5), 67, "ref.go:166", #[], none⟩
def rke11_o1 : Oper := ⟨some 66, .move (.tmp 8), 3, "ref.go:166", #[], none⟩
def rke11_o2 : Oper := ⟨some 67, .indexAddr 67 (.tmp 65) (.tmp 66), 0, "ref.go:166", #[⟨0, .data⟩, ⟨1, .data⟩], none⟩
def rke11_o3 : Oper := ⟨some 68, .load 9 (.tmp 67), 9, "ref.go:166", #[⟨2, .data⟩], none⟩
def rke11_o4 : Oper := ⟨some 9, .assign (.tmp 68), 9, "ref.go:166", #[⟨3, .data⟩, ⟨0, .phase⟩, ⟨1, .phase⟩, ⟨2, .phase⟩, ⟨3, .phase⟩], none⟩
def rke11_ops : Array Oper := #[rke11_o0, rke11_o1, rke11_o2, rke11_o3, rke11_o4]
theorem rke11 {g o n c k : Nat} {s : ByteArray} (a : Act) (w : World) (Q : Exit → Act → World → Prop) (zz : a.tmps.size = 83)
    (t5 : a.tmps.getD 5 undef = .slice (some ⟨g, o, none⟩) n c)
    (t8 : a.tmps.getD 8 undef = .int .i64 (k : Int))
    (hk : k < n) (hm : n ≤ 9223372036854775807) (L1 : ∀ W, W = w → (Instr.loadAt 9 (.pointer (some ⟨g, o + k, none⟩))).run Tryd.prog W = .ok (.string s) W)
    (h : ∀ (a' : Act) (w' : World), w' = w → a' = (((((a).put (some 65) (.slice (some ⟨g, o, none⟩) n c)).put (some 66) (.int .i64 (k : Int))).put (some 67) (.pointer (some ⟨g, o + k, none⟩))).put (some 68) (.string s)).put (some 9) (.string s) → Q .normal a' w') :
    (Code.region 11 rke11_ops false).wp Tryd.prog Q a w := by
  refine z0 rfl ?_
  refine zv rfl (exec_move rfl (zi t5 rfl)) ?_
  refine zv rfl (exec_move rfl (zi t8 rfl)) ?_
  refine zv rfl (exec_indexAt rfl (zg zz rfl) (zg zz rfl) (ix_tx hk hm _)) ?_
  refine zv rfl (exec_load rfl (zg zz rfl) (L1 _ rfl)) ?_
  refine zv rfl (exec_assign rfl (zg zz rfl)) ?_
  exact ze rfl (h _ _ (rfl) rfl)
def rke12_o0 : Oper := ⟨some 69, .move (.tmp 5), 67, "ref.go:167", #[], none⟩
def rke12_o1 : Oper := ⟨some 70, .move (.tmp 8), 3, "ref.go:167", #[], none⟩
def rke12_o2 : Oper := ⟨some 71, .move (.tmp 5), 67, "ref.go:167", #[], none⟩
def rke12_o3 : Oper := ⟨some 72, .move (.tmp 8), 3, "ref.go:167", #[], none⟩
def rke12_o4 : Oper := ⟨some 73, .binOp BinOp.sub 3 (.tmp 72) (Operand.const (Value.int IntKind.i64 1)) 3, 3, "ref.go:167", #[⟨3, .data⟩], none⟩
def rke12_o5 : Oper := ⟨some 74, .indexAddr 67 (.tmp 71) (.tmp 73), 0, "ref.go:167", #[⟨2, .data⟩, ⟨4, .data⟩], none⟩
def rke12_o6 : Oper := ⟨some 75, .load 9 (.tmp 74), 9, "ref.go:167", #[⟨5, .data⟩], none⟩
def rke12_o7 : Oper := ⟨some 76, .indexAddr 67 (.tmp 69) (.tmp 70), 0, "ref.go:167", #[⟨0, .data⟩, ⟨1, .data⟩, ⟨0, .phase⟩, ⟨1, .phase⟩, ⟨2, .phase⟩, ⟨3, .phase⟩, ⟨4, .phase⟩, ⟨5, .phase⟩, ⟨6, .phase⟩], none⟩
def rke12_o8 : Oper := ⟨none, .store 9 (.tmp 76) (.tmp 75), 0, "ref.go:167", #[⟨7, .data⟩, ⟨6, .data⟩, ⟨0, .phase⟩, ⟨1, .phase⟩, ⟨2, .phase⟩, ⟨3, .phase⟩, ⟨4, .phase⟩, ⟨5, .phase⟩, ⟨6, .phase⟩], none⟩
def rke12_ops : Array Oper := #[rke12_o0, rke12_o1, rke12_o2, rke12_o3, rke12_o4, rke12_o5, rke12_o6, rke12_o7, rke12_o8]
theorem rke12 {g o n c k j : Nat} {t : ByteArray} {w1 : World} (a : Act) (w : World) (Q : Exit → Act → World → Prop) (zz : a.tmps.size = 83)
    (t5 : a.tmps.getD 5 undef = .slice (some ⟨g, o, none⟩) n c)
    (t8 : a.tmps.getD 8 undef = .int .i64 (k : Int))
    (hjk : j + 1 = k) (hs : k ≤ 9223372036854775800) (hk : k < n) (hj : j < n) (hm : n ≤ 9223372036854775807) (L2 : ∀ W, W = w → (Instr.loadAt 9 (.pointer (some ⟨g, o + j, none⟩))).run Tryd.prog W = .ok (.string t) W) (E1 : (Instr.storeAt 9 (.pointer (some ⟨g, o + k, none⟩)) (.string t)).run Tryd.prog w = .ok () w1)
    (h : ∀ (a' : Act) (w' : World), w' = w1 → a' = ((((((((a).put (some 69) (.slice (some ⟨g, o, none⟩) n c)).put (some 70) (.int .i64 (k : Int))).put (some 71) (.slice (some ⟨g, o, none⟩) n c)).put (some 72) (.int .i64 (k : Int))).put (some 73) (.int .i64 (j : Int))).put (some 74) (.pointer (some ⟨g, o + j, none⟩))).put (some 75) (.string t)).put (some 76) (.pointer (some ⟨g, o + k, none⟩)) → Q .normal a' w') :
    (Code.region 12 rke12_ops false).wp Tryd.prog Q a w := by
  refine z0 rfl ?_
  refine zv rfl (exec_move rfl (zi t5 rfl)) ?_
  refine zv rfl (exec_move rfl (zi t8 rfl)) ?_
  refine zv rfl (exec_move rfl (zi t5 rfl)) ?_
  refine zv rfl (exec_move rfl (zi t8 rfl)) ?_
  refine zv (v := .int .i64 (j : Int)) rfl (exec_sub1 rfl (zg zz rfl) rfl hjk hs) ?_
  refine zv rfl (exec_indexAt rfl (zg zz rfl) (zg zz rfl) (ix_tx hj hm _)) ?_
  refine zv rfl (exec_load rfl (zg zz rfl) (L2 _ rfl)) ?_
  refine zv rfl (exec_indexAt rfl (zg zz rfl) (zg zz rfl) (ix_tx hk hm _)) ?_
  refine zs rfl (exec_store rfl (zg zz rfl) (zg zz rfl) E1) ?_
  exact ze rfl (h _ _ (rfl) rfl)
def rke13_o0 : Oper := ⟨some 77, .move (.tmp 5), 67, "ref.go:168", #[], none⟩
def rke13_o1 : Oper := ⟨some 78, .move (.tmp 8), 3, "ref.go:168", #[], none⟩
def rke13_o2 : Oper := ⟨some 79, .binOp BinOp.sub 3 (.tmp 78) (Operand.const (Value.int IntKind.i64 1)) 3, 3, "ref.go:168", #[⟨1, .data⟩], none⟩
def rke13_o3 : Oper := ⟨some 80, .move (.tmp 9), 9, "ref.go:168", #[], none⟩
def rke13_o4 : Oper := ⟨some 81, .indexAddr 67 (.tmp 77) (.tmp 79), 0, "ref.go:168", #[⟨0, .data⟩, ⟨2, .data⟩, ⟨0, .phase⟩, ⟨1, .phase⟩, ⟨2, .phase⟩, ⟨3, .phase⟩], none⟩
def rke13_o5 : Oper := ⟨none, .store 9 (.tmp 81) (.tmp 80), 0, "ref.go:168", #[⟨4, .data⟩, ⟨3, .data⟩, ⟨0, .phase⟩, ⟨1, .phase⟩, ⟨2, .phase⟩, ⟨3, .phase⟩], none⟩
def rke13_ops : Array Oper := #[rke13_o0, rke13_o1, rke13_o2, rke13_o3, rke13_o4, rke13_o5]
theorem rke13 {g o n c k j : Nat} {s : ByteArray} {w1 : World} (a : Act) (w : World) (Q : Exit → Act → World → Prop) (zz : a.tmps.size = 83)
    (t5 : a.tmps.getD 5 undef = .slice (some ⟨g, o, none⟩) n c)
    (t8 : a.tmps.getD 8 undef = .int .i64 (k : Int))
    (t9 : a.tmps.getD 9 undef = .string s)
    (hjk : j + 1 = k) (hs : k ≤ 9223372036854775800) (hj : j < n) (hm : n ≤ 9223372036854775807) (E1 : (Instr.storeAt 9 (.pointer (some ⟨g, o + j, none⟩)) (.string s)).run Tryd.prog w = .ok () w1)
    (h : ∀ (a' : Act) (w' : World), w' = w1 → a' = (((((a).put (some 77) (.slice (some ⟨g, o, none⟩) n c)).put (some 78) (.int .i64 (k : Int))).put (some 79) (.int .i64 (j : Int))).put (some 80) (.string s)).put (some 81) (.pointer (some ⟨g, o + j, none⟩)) → Q .normal a' w') :
    (Code.region 13 rke13_ops false).wp Tryd.prog Q a w := by
  refine z0 rfl ?_
  refine zv rfl (exec_move rfl (zi t5 rfl)) ?_
  refine zv rfl (exec_move rfl (zi t8 rfl)) ?_
  refine zv (v := .int .i64 (j : Int)) rfl (exec_sub1 rfl (zg zz rfl) rfl hjk hs) ?_
  refine zv rfl (exec_move rfl (zi t9 rfl)) ?_
  refine zv rfl (exec_indexAt rfl (zg zz rfl) (zg zz rfl) (ix_tx hj hm _)) ?_
  refine zs rfl (exec_store rfl (zg zz rfl) (zg zz rfl) E1) ?_
  exact ze rfl (h _ _ (rfl) rfl)
def docE (X : Sls) (D : List (SlV × Sls)) (j : Nat) : Prop := (∃ q ∈ X, q.1.2.v.ownBlock = some j) ∨ ∃ h ∈ D, ∃ q ∈ h.2, q.1.2.v.ownBlock = some j
theorem run_bs1 (T e y : TypeId) (z : Value) (ht : Tryd.prog.underlying T = some (.slice e)) (hi : (Tryd.prog.info? e).map (fun i => (i.zero, i.size, i.bytes)) = some (some z, 1, y)) (hz : z.cells.size = 1) (v : Value) (hc : v.cells = #[v]) (w : World) : (Instr.buildSlice T 1 #[(0, v)]).run Tryd.prog w = .ok (.slice (some ⟨w.heap.size, 0, none⟩) 1 1) (w.alloc (.cells #[v] e)) := by
  obtain ⟨ie, hi, hz0, hs, hby⟩ := info_parts hi
  refine run_buildSlice w T e 1 _ #[v] ie _ ht hi hz0 (by rw [hs]; decide) (by rw [hs]; decide) ?_
  rw [hs]
  have := Go.Great.fill_whole (s := 1) (by decide) [v] ((Array.range (1 * 1)).map (z.cells[· % z.cells.size]!)) (by intro u hu; simp at hu; subst hu; rw [hc]; rfl) (by simp)
  simpa [hc] using this
theorem run_pushV (T e y : TypeId) (z : Value) (ht : Tryd.prog.underlying T = some (.slice e)) (hi : (Tryd.prog.info? e).map (fun i => (i.zero, i.size, i.bytes)) = some (some z, 1, y)) (hy : y = 8 ∨ y = 24) (hz : z.cells.size = 1) (u : Value) (hc : u.cells = #[u]) (h1 : u.oneCell' = true)
    {w : World} {B : Nat} {pv : Value} {X : List Value} (own : OwnV w B e pv X) (hB : B ≤ w.heap.size) (hn : X.length + 1 ≤ 2200000000000) :
    ∃ bv w1 pv2 w2, (Instr.buildSlice T 1 #[(0, u)]).run Tryd.prog w = .ok bv w1 ∧ Below w.heap.size w w1 ∧ (Builtin.append_ #[T, T] T #[pv, bv]).run Tryd.prog w1 = .ok pv2 w2 ∧ OwnV w2 B e pv2 (X ++ [u]) ∧ Tch (fun j => pv.ownBlock = some j) w w2 ∧ (pv2.ownBlock = pv.ownBlock ∨ ∀ j, pv2.ownBlock = some j → w.heap.size ≤ j) := by
  have b1 : Below w.heap.size w (w.alloc (.cells #[u] e)) := (Below.refl _ _).alloc (Nat.le_refl _) _
  have v1 : Vals (w.alloc (.cells #[u] e)) (some ⟨w.heap.size, 0, none⟩) [u] := .inr ⟨_, _, rfl, fun j x hj => by
    rw [Nat.zero_add, cell_of_row _ _ _ _ _ _ (heap_alloc_new _ _)]
    simpa using hj⟩
  have e1 := run_bs1 T e y z ht hi hz u hc w
  generalize w.alloc (.cells #[u] e) = w1 at *
  obtain ⟨pv2, w2, e2, o2, g2, q2⟩ := run_appV T e y z ht hi hy hz w1 B T pv X _ [u] 1 (own.below b1) v1 (by intro x hx; rw [List.mem_singleton.1 hx]; exact h1) (by simpa using hn) (Nat.le_trans hB b1.size)
  have t2 : Tch (fun j => pv.ownBlock = some j) w1 w2 := ⟨g2.os, g2.tape, g2.output, g2.size, fun j hj hn => g2.block j hj (fun e => hn e.symm)⟩
  exact ⟨_, w1, pv2, w2, e1, b1, e2, o2, (tch_of b1 _).trans' t2 (fun j _ q => q), q2.imp id (fun q j hj => by rw [q] at hj; injection hj with hj; have := b1.size; omega)⟩
theorem infoSl : (Tryd.prog.info? 85).map (fun i => (i.zero, i.size, i.bytes)) = some (some (.slice none 0 0), 1, 24) := by kernel_rfl
theorem key_ok {X Y : Sls} (h : Y.key = X.key) (hk : SlOk X) : SlOk Y ∧ (∀ r, entF Y r = entF X r) ∧ Y.length = X.length := by
  have e1 : ∀ Z : Sls, Z.map (·.1.1) = Z.key.map (·.1) := fun Z => by simp [Sls.key]
  have hnd : (Y.map (·.1.1)).Nodup := by rw [e1, h, ← e1]; exact hk.nd
  have hne : ∀ q ∈ Y, q.2 ≠ [] := fun q hq => by
    have : (q.1.1, q.2) ∈ X.key := by rw [← h]; exact List.mem_map.2 ⟨q, hq, rfl⟩
    obtain ⟨z, hz, e⟩ := List.mem_map.1 this
    have := hk.ne z hz
    injection e with _ e
    rw [← e]
    exact this
  have hY : SlOk Y := ⟨hnd, hne⟩
  refine ⟨hY, fun r => ?_, by have := congrArg List.length h; simpa [Sls.key] using this⟩
  by_cases hr : ∃ q ∈ Y, q.1.1 = r
  · obtain ⟨q, hq, rfl⟩ := hr
    rw [ent_of_mem hY hq]
    have : (q.1.1, q.2) ∈ X.key := by rw [← h]; exact List.mem_map.2 ⟨q, hq, rfl⟩
    obtain ⟨z, hz, e⟩ := List.mem_map.1 this
    injection e with e1 e2
    rw [← e1, ← e2]
    exact (ent_of_mem hk hz).symm
  · rw [ent_none (fun q hq e => hr ⟨q, hq, e⟩), ent_none (fun z hz e => hr (by
      have : (z.1.1, z.2) ∈ Y.key := by rw [h]; exact List.mem_map.2 ⟨z, hz, rfl⟩
      obtain ⟨q, hq, e2⟩ := List.mem_map.1 this
      injection e2 with e2 _
      exact ⟨q, hq, e2.trans e⟩))]
def PastE (B : Nat) (W : World) (d : Nat) (X : Sls) (v : SlV) (pv : Value) (D : List (SlV × Sls)) (w' : World) : Prop := ∃ pv2 h, RfP B w' d X v pv2 (D ++ [h]) ∧ Sls.key h.2 = X.key ∧ Tch (fun j => j = d ∨ pv.ownBlock = some j) W w' ∧ (pv2.ownBlock = pv.ownBlock ∨ ∀ j, pv2.ownBlock = some j → W.heap.size ≤ j) ∧ (∀ q ∈ h.2, ∀ j, q.1.2.v.ownBlock = some j → W.heap.size ≤ j) ∧ ∀ j, h.1.v.ownBlock = some j → W.heap.size ≤ j
theorem st_past {w : World} {d : Nat} {a pv : Value} {s2 : SlV} (h : w.heap[d]? = some (.cells #[a, pv] 88 (0, 0))) (ha : ∃ s : SlV, pv = s.v) : ∃ w', (Instr.storeAt 86 (.pointer (some ⟨d, 0 + 1, none⟩)) s2.v).run Tryd.prog w = .ok () w' ∧ w'.heap[d]? = some (.cells #[a, s2.v] 88 (0, 0)) ∧ Tch (fun j => j = d) w w' := by
  obtain ⟨s, rfl⟩ := ha
  have c0 : w.cell? ⟨d, 1, none⟩ = some (.slice s.a s.n s.c) := (cell_of_row w d 1 _ _ _ h).trans rfl
  have f0 := frozen_of_row w d 1 _ _ h
  refine ⟨w.setCell ⟨d, 1, none⟩ (.slice s2.a s2.n s2.c), ?_, ?_, ⟨rfl, rfl, rfl, by simp [World.setCell], fun j _ hj => Go.heap_setCell_other _ _ _ _ hj⟩⟩
  · unfold SlV.v
    go_simp
  · exact Go.heap_setCell_same w d 1 _ 88 _ h
section
variable {B : Nat} {W : World} {d : Nat} {X : Sls} {v : SlV} {pv : Value} {D : List (SlV × Sls)}
theorem past_step (h : RfP B W d X v pv D) (hB : B ≤ W.heap.size) (hn : X.length ≤ 1500000000000) (hD : D.length + 1 ≤ 2200000000000) :
    Calls Tryd.prog 47 #[v.v] W fun e w' => ∃ u bv w1 pv2 w2 w3, e = .returned u ∧ w'.heap[d]? = some (.cells #[v.v, pv] 88 (0, 0)) ∧ (Instr.buildSlice 86 1 #[(0, u)]).run Tryd.prog w' = .ok bv w1 ∧ w1.heap[d]? = some (.cells #[v.v, pv] 88 (0, 0)) ∧ (Builtin.append_ #[86, 86] 86 #[pv, bv]).run Tryd.prog w1 = .ok pv2 w2 ∧ w2.heap[d]? = some (.cells #[v.v, pv] 88 (0, 0)) ∧ (Instr.storeAt 86 (.pointer (some ⟨d, 0 + 1, none⟩)) pv2).run Tryd.prog w2 = .ok () w3 ∧ PastE B W d X v pv D w3 := by
  obtain ⟨a, c, ev, hat⟩ := h.rfS
  rw [ev]
  refine (copied_any h.en hn (c := c) hat).mono ?_
  rintro e w' ⟨u, Y, rfl, hkey, hO, hS, b⟩
  have ld := (Array.getElem?_eq_some_iff.1 h.cell).1
  have h' := h.below b
  obtain ⟨bv, w1, pv2, w2, E1, b1, E2, o2, t2, q2⟩ := run_pushV 86 85 24 _ Tryd.underlying86 infoSl (.inr rfl) rfl u.v rfl rfl h'.past (Nat.le_trans hB b.size) (by rw [List.length_map]; exact hD)
  have c' := h'.cell
  have ld' := (Array.getElem?_eq_some_iff.1 c').1
  have npd : ¬ pv.ownBlock = some d := fun e => by
    obtain ⟨_, c2, hc2⟩ := h'.past.ge d e
    have := two_types hc2 c'
    revert this; decide
  have c1 := (b1.block d ld').trans c'
  have c2 := (t2.block d ld' npd).trans c'
  obtain ⟨oa, oc, eo, _⟩ := o2.open
  obtain ⟨ps, hps⟩ := h.pastS
  obtain ⟨w3, E3, c3, t3⟩ := st_past (s2 := ⟨oa, _, oc⟩) c2 ⟨ps, hps⟩
  have n2d : ¬ pv2.ownBlock = some d := fun e => by
    obtain ⟨_, c4, hc4⟩ := o2.ge d e
    have := two_types hc4 c2
    revert this; decide
  have t23 : Tch (fun j => j = d ∨ pv.ownBlock = some j) w' w3 := (t2.mono (fun j _ e => .inr e)).trans' t3 (fun j _ e => .inl e)
  have tt : Tch (fun j => j = d ∨ pv.ownBlock = some j) W w3 := (tch_of b _).trans' t23 (fun j _ q => q)
  have ty : ∀ {j : Nat} {c : Array Value} {t : TypeId} {f : Nat × Nat}, w'.heap[j]? = some (.cells c t f) → t ≠ 88 → t ≠ 85 → ¬ (j = d ∨ pv.ownBlock = some j) := fun hj h1 h2 e => by
    rcases e with e | e
    · rw [e] at hj
      exact h1 (two_types hj c')
    · obtain ⟨_, c4, hc4⟩ := h'.past.ge _ e
      exact h2 (two_types hj hc4)
  have kR : ∀ {u : Value} {Z : List (PlK × SlV)} {b0 : Nat}, RT.Own w' b0 u Z → RT.Own w3 b0 u Z := fun hu => hu.keep (fun j hj => by
    obtain ⟨_, c4, hc4⟩ := hu.cells hj
    exact t23.block j (hu.lt hj) (ty hc4 (by decide) (by decide)))
  have kS : ∀ {Z : Sls} {b0 : Nat}, SlsAt w' b0 Z → SlsAt w3 b0 Z := fun hZ q hq => ⟨(hZ q hq).1.keep (fun j hj => by
    obtain ⟨_, c4, hc4⟩ := (hZ q hq).1.cells hj
    exact t23.block j ((hZ q hq).1.lt hj) (ty hc4 (by decide) (by decide))), (hZ q hq).2⟩
  obtain ⟨okY, _, _⟩ := key_ok hkey h.ok
  have newb : ∀ j, u.v.ownBlock = some j → W.heap.size ≤ j := fun j hj => (hO.cells hj).1
  refine ⟨u.v, bv, w1, pv2, w2, w3, rfl, by rw [← ev]; exact c', E1, by rw [← ev]; exact c1, E2, by rw [← ev]; exact c2, by rw [eo]; exact E3, pv2, (u, Y), ⟨?_, kR h'.sl, kS h'.en, ?_, fun q hq => ?_, h.dB, fun q hq j hj => ?_, ?_, h.ok⟩, hkey, tt, ?_, fun q hq j hj => ((hS q hq).1.cells hj).1, newb⟩
  · rw [eo]; exact c3
  · rw [List.map_append]
    exact o2.keep (fun j hj => t3.block j (by obtain ⟨_, c4, hc4⟩ := o2.ge j hj; exact (Array.getElem?_eq_some_iff.1 hc4).1) (fun e => n2d (by rw [← e]; exact hj)))
  · rcases List.mem_append.1 hq with hq | hq
    · exact ⟨kR (h'.ph q hq).1, kS (h'.ph q hq).2.1, (h'.ph q hq).2.2⟩
    · rw [List.mem_singleton.1 hq]
      exact ⟨(kR hO).mono hB, (kS hS).mono hB, okY⟩
  · rcases List.mem_append.1 hq with hq | hq
    · exact h.ap q hq j hj
    · rw [List.mem_singleton.1 hq] at hj
      have := newb j hj
      intro e
      have := h.sl.lt e
      omega
  · rw [List.pairwise_append]
    refine ⟨h.ap2, List.pairwise_singleton _ _, fun x hx y hy j hj => ?_⟩
    rw [List.mem_singleton.1 hy]
    intro e
    have := newb j e
    have := (h.ph x hx).1.lt hj
    omega
  · exact q2.imp id (fun q j hj => Nat.le_trans b.size (q j hj))
end
def pA : PlK := ⟨zId, ⟨#[97]⟩, zId⟩
theorem pA_ok : pA.ok := ⟨zId_ok, by decide, zId_ok⟩
def idN (n : Int) : IdK := { zId with n := n }
theorem idN_ok {n : Int} (h : -9223372036854775808 ≤ n ∧ n ≤ 9223372036854775807) : (idN n).ok := ⟨zId_ok.l, h.1, h.2⟩
theorem build_pA (w : World) : (Instr.build 52 #[(1, .string ⟨#[97]⟩)]).run Tryd.prog w = .ok pA.v w := by kernel_rfl
theorem build_i1 (w : World) : (Instr.build 38 #[(1, .int .i64 1)]).run Tryd.prog w = .ok (idN 1).v w := by kernel_rfl
theorem build_i2 (w : World) : (Instr.build 38 #[(1, .int .i64 2)]).run Tryd.prog w = .ok (idN 2).v w := by kernel_rfl
def vC (n : Int) : VaV := ⟨7, n, 0, ⟨#[]⟩⟩
theorem vC_ok {n : Int} (h : -9223372036854775808 ≤ n ∧ n ≤ 9223372036854775807) : (vC n).ok := ⟨by show (0 : Int) ≤ 7; decide, by show (7 : Int) ≤ 255; decide, h.1, h.2, by show (0 : Nat) < _; decide, by show (0 : Nat) ≤ _; decide⟩
theorem build_vC (w : World) : (Instr.build 42 #[(0, .int .u8 7), (1, .int .i64 5)]).run Tryd.prog w = .ok (vC 5).v w := by kernel_rfl
theorem build_v0 (w : World) : (Instr.build 42 #[]).run Tryd.prog w = .ok zVa.v w := by kernel_rfl
theorem sum_live : sumV 3 (vC 5) = vC 8 := by decide +kernel
theorem one_place {w : World} {base : Nat} {s : Rs} (m : RgM w base s) {p : PlK} (h : ∀ q, liOf s.P q ≠ [] ↔ q = p) : s.P.length = 1 := by
  have hk := m.places
  have hin : ∀ q ∈ s.P, q.1 = p := fun q hq => (h q.1).1 (by
    unfold liOf
    rw [M.look_of_mem hk (show (q.1, q.2) ∈ s.P from hq)]
    exact (m.en q hq).2.1)
  have hne : s.P ≠ [] := fun e => by
    have := (h p).2 rfl
    rw [e] at this
    exact this rfl
  match hP : s.P with
  | [] => exact absurd hP hne
  | [q] => rfl
  | q :: r :: l =>
    rw [hP] at hk hin
    have h1 := hin q (by simp)
    have h2 := hin r (by simp)
    simp [h1, h2] at hk
theorem RgM.geAll {w : World} {base : Nat} {s : Rs} (h : RgM w base s) {j : Nat} (hj : s.all j) : base ≤ j := by
  rcases hj with hj | ⟨q, hq, e⟩
  · exact h.lo j hj
  · exact ((h.en q hq).1.cells e).1
structure LSt (w : World) (r0 pb xb yb : Nat) (p : PlK) (x y : IdK) (s : Rs) (H : List Rec) (L : List EnV) (W : World) : Prop where
  ra : RgAt W w.heap.size s H
  bel : Below w.heap.size w W
  np : W.heap[pb]? = some (.cells p.c.toArray 52 (0, 0))
  nx : W.heap[xb]? = some (.cells x.c.toArray 38 (0, 0))
  ny : W.heap[yb]? = some (.cells y.c.toArray 38 (0, 0))
  li : ∀ q, liOf s.P q = if q = p then L else []
  r : s.r = r0
section
variable {w W W' : World} {r0 pb xb yb : Nat} {p : PlK} {x y : IdK} {s : Rs} {H : List Rec} {L : List EnV}
theorem LSt.below (h : LSt w r0 pb xb yb p x y s H L W) (b : Below W.heap.size W W') : LSt w r0 pb xb yb p x y s H L W' :=
  ⟨h.ra.below b, h.bel.trans (b.mono h.bel.size), (b.block _ (Array.getElem?_eq_some_iff.1 h.np).1).trans h.np, (b.block _ (Array.getElem?_eq_some_iff.1 h.nx).1).trans h.nx, (b.block _ (Array.getElem?_eq_some_iff.1 h.ny).1).trans h.ny, h.li, h.r⟩
theorem LSt.tch (h : LSt w r0 pb xb yb p x y s H L W) (t : Tch s.all W W') : Below w.heap.size w W' ∧ W'.heap[pb]? = some (.cells p.c.toArray 52 (0, 0)) ∧ W'.heap[xb]? = some (.cells x.c.toArray 38 (0, 0)) ∧ W'.heap[yb]? = some (.cells y.c.toArray 38 (0, 0)) := by
  have go : ∀ {j : Nat} {c : Array Value} {ty : TypeId}, W.heap[j]? = some (.cells c ty (0, 0)) → ty ≠ 84 → ty ≠ 63 → W'.heap[j]? = some (.cells c ty (0, 0)) := fun h1 h2 h3 => (t.block _ (Array.getElem?_eq_some_iff.1 h1).1 (h.ra.mem.other h1 h2 h3)).trans h1
  exact ⟨h.bel.trans (t.below h.bel.size (fun j hj => h.ra.mem.geAll hj)), go h.np (by decide) (by decide), go h.nx (by decide) (by decide), go h.ny (by decide) (by decide)⟩
theorem LSt.op (h : LSt w r0 pb xb yb p x y s H L W) {L' : List EnV} {rc : Rec} {s' : Rs} (o : OpN W w.heap.size s H p L' rc s' W') : LSt w r0 pb xb yb p x y s' (rc :: H) L' W' := by
  obtain ⟨h1, h2, h3, h4⟩ := h.tch o.tch
  refine ⟨o.at', h1, h2, h3, h4, fun q => ?_, o.r.trans h.r⟩
  rw [o.li]
  by_cases e : q = p
  · rw [if_pos e, if_pos e]
  · rw [if_neg e, if_neg e, h.li, if_neg e]
theorem LSt.here (h : LSt w r0 pb xb yb p x y s H L W) : liOf s.P p = L := by rw [h.li, if_pos rfl]
end
def LFin (w : World) (r0 pb xb yb : Nat) (p : PlK) (x y : IdK) (n0 : Nat) (L0 : List EnV) (H : List Rec) (L : List EnV) (bk : Nat) (W : World) : Prop := ∃ rc s', rc.bk = bk ∧ LSt w r0 pb xb yb p x y s' (rc :: H) L W ∧ n0 ≤ rc.bk ∧ rc.p = p ∧ rc.bef = L0
section
variable {w W : World} {r0 pb xb yb : Nat} {p : PlK} {x y : IdK} {s : Rs} {H : List Rec} {L L' : List EnV} {F : Nat} {vs : Array Value}
theorem LSt.fin (h : LSt w r0 pb xb yb p x y s H L W) (c : Calls Tryd.prog F vs W (OpE W w.heap.size s H p L')) : Calls Tryd.prog F vs W fun e w' => ∃ bk, e = .returned (.pointer (some ⟨bk, 0, none⟩)) ∧ LFin w r0 pb xb yb p x y W.heap.size L H L' bk w' := by
  refine c.mono ?_
  rintro e w' ⟨rc, s', rfl, o⟩
  exact ⟨_, rfl, rc, s', rfl, h.op o, o.new, o.rp, o.rb.trans h.here⟩
theorem LSt.put (h : LSt w r0 pb xb yb p x y s H L W) (hp : p.ok) {i : IdK} (hi : i.ok) {v : VaV} (hv : v.ok) (hn : L.length ≤ 1000) : Calls Tryd.prog 16 #[.pointer (some ⟨r0, 0, none⟩), p.v, i.v, v.v, .nilFunc] W fun e w' => ∃ bk, e = .returned (.pointer (some ⟨bk, 0, none⟩)) ∧ LFin w r0 pb xb yb p x y W.heap.size L H (L ++ [⟨i, v⟩]) bk w' := by
  have c := put_any h.ra h.bel.size hp hi hv (fv := .nilFunc) (sn := fun _ => false) (.inl ⟨rfl, fun _ => rfl⟩) (by rw [h.here]; omega)
  rw [h.here, h.r] at c
  have e : Rg.res (fun y : EnV => (fun _ : IdK => false) y.id) L = L := List.filter_eq_self.2 fun _ _ => rfl
  rw [e] at c
  exact h.fin c
theorem LSt.ld (h : LSt w r0 pb xb yb p x y s H L W) (hp : p.ok) : ∀ V, V = W → (Instr.loadAt 52 (.pointer (some ⟨pb, 0, none⟩))).run Tryd.prog V = .ok p.v V := fun V e => by rw [e]; exact ld_pl hp (rng_cells h.np)
theorem LSt.ldx (h : LSt w r0 pb xb yb p x y s H L W) (hx : x.ok) : ∀ V, V = W → (Instr.loadAt 38 (.pointer (some ⟨xb, 0, none⟩))).run Tryd.prog V = .ok x.v V := fun V e => by rw [e]; exact load_id hx h.nx
theorem LSt.ldy (h : LSt w r0 pb xb yb p x y s H L W) (hy : y.ok) : ∀ V, V = W → (Instr.loadAt 38 (.pointer (some ⟨yb, 0, none⟩))).run Tryd.prog V = .ok y.v V := fun V e => by rw [e]; exact load_id hy h.ny
theorem LSt.ent (h : LSt w r0 pb xb yb p x y s H L W) (hp : p.ok) (hn : L.length ≤ 1000) : Calls Tryd.prog 20 #[.pointer (some ⟨r0, 0, none⟩), p.v] W fun e w' => ∃ u, e = .returned u ∧ (RN.Own w' W.heap.size u L ∧ LSt w r0 pb xb yb p x y s H L w') := by
  have c := entries_any h.ra.mem hp (by rw [h.here]; omega)
  rw [h.here, h.r] at c
  refine c.mono ?_
  rintro e w' ⟨v, rfl, o, b⟩
  exact ⟨v, rfl, o, h.below b⟩
end
set_option maxHeartbeats 8000000 in
theorem live_gen (w : World) (p : PlK) (hp : p.ok) (x y : IdK) (hx : x.ok) (hy : y.ok) (v5 v8 v0 : VaV) (h5 : v5.ok) (h0 : v0.ok) (h8 : v8.n = 8) (hs : sumV 3 v5 = v8) (h8k : v8.ok)
    (BP : Hid (∀ w, (Instr.build 52 #[(1, .string ⟨#[97]⟩)]).run Tryd.prog w = .ok p.v w)) (BX : Hid (∀ w, (Instr.build 38 #[(1, .int .i64 1)]).run Tryd.prog w = .ok x.v w)) (BY : Hid (∀ w, (Instr.build 38 #[(1, .int .i64 2)]).run Tryd.prog w = .ok y.v w))
    (BV : Hid (∀ w, (Instr.build 42 #[(0, .int .u8 7), (1, .int .i64 5)]).run Tryd.prog w = .ok v5.v w)) (B0 : Hid (∀ w, (Instr.build 42 #[]).run Tryd.prog w = .ok v0.v w)) :
    Calls Tryd.prog 8 #[] w fun e w' => e = .returned (.bool true) ∧ Below w.heap.size w w' := by
  have HN := hidMk (newR_any w)
  have HV := hidMk (And.intro h5 (And.intro h0 (And.intro h8 (And.intro hs h8k))))
  clear h5 h0 h8 hs h8k
  go_enter Tryd.func8, Tryd.ntmps8
  go_upto_region 2 with (first
    | (go_at_call 9; refine HN.out.mono ?_; rintro e w1 ⟨s, rfl, ra, rl, rp, b1⟩; clear HN)
    | fail)
  obtain ⟨w2, w3, e2, e3, n3, b3⟩ := pl_new w1 hp
  obtain ⟨w4, w5, e4, e5, n5, b5⟩ := id_newR w3 hx
  obtain ⟨w6, w7, e6, e7, n7, b7⟩ := id_newR w5 hy
  have b37 := b5.trans (b7.mono b5.size)
  have b17 := b3.trans (b37.mono b3.size)
  have st7 : Hid (LSt w s.r w1.heap.size w3.heap.size w5.heap.size p x y s [] [] w7) := ⟨ra.below b17, b1.trans (b17.mono b1.size), (b37.block _ (Array.getElem?_eq_some_iff.1 n3).1).trans n3, (b7.block _ (Array.getElem?_eq_some_iff.1 n5).1).trans n5, n7, fun q => by rw [rl]; split <;> rfl, rfl⟩
  generalize w1.heap.size = pb at *
  generalize w3.heap.size = xb at *
  generalize w5.heap.size = yb at *
  generalize s.r = r0 at *
  have HE := hidMk (And.intro e2 (And.intro e3 (And.intro e4 (And.intro e5 (And.intro e6 e7)))))
  clear e2 e3 e4 e5 e6 e7 n3 b3 n5 b5 n7 b7 b37 b17 ra rl rp b1
  refine live2 (b := pb) (u := p.v) (w1 := w2) (w2 := w3) _ w1 _ rfl (BP.out _) HE.out.1 HE.out.2.1 ?_
  intro a' w' hw' ha
  subst ha
  subst hw'
  simp only [Act.put, List.setIfInBounds_toArray, List.set_cons_zero, List.set_cons_succ]
  go_upto_region 3 with fail
  refine live3 (b := xb) (u := x.v) (w1 := w4) (w2 := w5) _ _ _ rfl (BX.out _) HE.out.2.2.1 HE.out.2.2.2.1 ?_
  intro a' w' hw' ha
  subst ha
  subst hw'
  simp only [Act.put, List.setIfInBounds_toArray, List.set_cons_zero, List.set_cons_succ]
  go_upto_region 4 with fail
  refine live4 (b := yb) (u := y.v) (w1 := w6) (w2 := w7) _ _ _ rfl (BY.out _) HE.out.2.2.2.2.1 HE.out.2.2.2.2.2 ?_
  intro a' w' hw' ha
  subst ha
  subst hw'
  simp only [Act.put, List.setIfInBounds_toArray, List.set_cons_zero, List.set_cons_succ]
  clear HE BP BX BY
  go_upto_region 5 with fail
  refine live5 (rb := r0) (pb := pb) (xb := xb) (p := p) (x := x) (v := v5) (LFin w r0 pb xb yb p x y _ [] [] [⟨x, v5⟩]) _ _ _ rfl rfl rfl rfl (BV.out _) (st7.out.ld hp) (st7.out.ldx hx) (st7.out.put hp hx HV.out.1 (by simp)) ?_
  intro bk1 a' w8 hf ha
  subst ha
  simp only [Act.put, List.setIfInBounds_toArray, List.set_cons_zero, List.set_cons_succ]
  obtain ⟨r1, s1, rfl, st8', -⟩ := hf
  have st8 := hidMk st8'
  clear st8' st7
  have CA : Hid (Calls Tryd.prog 18 #[.pointer (some ⟨r0, 0, none⟩), p.v, .int .i64 3, .func (.func 31) #[] #[.pointer (some ⟨xb, 0, none⟩)]] w8 fun e w' => ∃ bk, e = .returned (.pointer (some ⟨bk, 0, none⟩)) ∧ LFin w r0 pb xb yb p x y w8.heap.size [⟨x, v5⟩] [r1] [⟨x, v8⟩] bk w') := by
    have h := st8.out
    have c := add_any h.ra h.bel.size hp (n := 3) (by decide) (.inr ⟨_, _, rfl, tells_live hx h.nx⟩) (by rw [h.here]; simp)
    rw [h.here, h.r] at c
    have e : chs (fun y : EnV => decide (y.id = x)) (sumV 3) [⟨x, v5⟩] = [⟨x, v8⟩] := by
      simp [chs, chg, HV.out.2.2.2.1]
    rw [e] at c
    exact h.fin c
  go_upto_region 6 with fail
  refine live6 (rb := r0) (pb := pb) (xb := xb) (p := p) (LFin w r0 pb xb yb p x y w8.heap.size [⟨x, v5⟩] [r1] [⟨x, v8⟩]) _ _ _ rfl rfl rfl rfl (st8.out.ld hp) CA.out ?_
  intro bk2 a' w9 hf ha
  subst ha
  simp only [Act.put, List.setIfInBounds_toArray, List.set_cons_zero, List.set_cons_succ]
  obtain ⟨r2, s2, rfl, st9', -⟩ := hf
  have st9 := hidMk st9'
  clear st9' CA st8 BV
  go_upto_region 7 with fail
  refine live7 (rb := r0) (pb := pb) (xb := yb) (p := p) (x := y) (v := v0) (LFin w r0 pb xb yb p x y w9.heap.size [⟨x, v8⟩] [r2, r1] [⟨x, v8⟩, ⟨y, v0⟩]) _ _ _ rfl rfl rfl rfl (B0.out _) (st9.out.ld hp) (st9.out.ldy hy) (st9.out.put hp hy HV.out.2.1 (by simp)) ?_
  intro bk3 a' w10 hf ha
  subst ha
  simp only [Act.put, List.setIfInBounds_toArray, List.set_cons_zero, List.set_cons_succ]
  obtain ⟨r3, s3, rfl, st10', hnew, hr3p, hr3b⟩ := hf
  have st10 := hidMk st10'
  have H13 : Hid (r1.bk ≠ r3.bk ∧ r3.p = p ∧ r3.bef = [⟨x, v8⟩]) := by
    have l1 := (Array.getElem?_eq_some_iff.1 st9.out.ra.hist.2.1.b).1
    exact ⟨by omega, hr3p, hr3b⟩
  clear st10' st9 B0 hnew hr3p hr3b
  go_upto_region 8 with fail
  refine live8 (rb := r0) (pb := pb) (p := p) (fun u w' => RN.Own w' w10.heap.size u [⟨x, v8⟩, ⟨y, v0⟩] ∧ LSt w r0 pb xb yb p x y s3 [r3, r2, r1] [⟨x, v8⟩, ⟨y, v0⟩] w') _ _ _ rfl rfl rfl (st10.out.ld hp) (st10.out.ent hp (by simp)) ?_
  intro u a' w11 hf ha
  subst ha
  simp only [Act.put, List.setIfInBounds_toArray, List.set_cons_zero, List.set_cons_succ]
  obtain ⟨ou, st11'⟩ := hf
  have ok2 : ∀ z ∈ ([⟨x, v8⟩, ⟨y, v0⟩] : List EnV), z.ok := fun z hz => by
    simp at hz
    rcases hz with rfl | rfl
    · exact ⟨hx, HV.out.2.2.2.2⟩
    · exact ⟨hy, HV.out.2.1⟩
  obtain ⟨ua, uc, rfl, hat, -⟩ := ou.lo.open RN_is ok2
  obtain ⟨g, o, rfl, hg1, hg2⟩ : ∃ g o, ua = some ⟨g, o, none⟩ ∧ w11.rangeAt g (o + 37 * 0) (EnV.c ⟨x, v8⟩) ∧ w11.rangeAt g (o + 37 * 1) (EnV.c ⟨y, v0⟩) := by
    rcases hat with h | ⟨g, o, e, h1, h2⟩
    · cases h
    · exact ⟨g, o, e, h2 0 _ rfl, h2 1 _ rfl⟩
  have st11 := hidMk (st11'.below (Below.refl w11.heap.size w11).drew)
  have LL : Hid ((∀ W, W = w11.drew → (Instr.loadAt 38 (.pointer (some ⟨g, o + 37 * 0 + 0, none⟩))).run Tryd.prog W = .ok x.v W) ∧ (∀ W, W = w11.drew → (Instr.loadAt 2 (.pointer (some ⟨g, o + 37 * 0 + 33 + 1, none⟩))).run Tryd.prog W = .ok (.int .i64 8) W) ∧ (∀ W, W = w11.drew → (Instr.loadAt 38 (.pointer (some ⟨g, o + 37 * 1 + 0, none⟩))).run Tryd.prog W = .ok y.v W)) := by
    refine ⟨fun W e => ?_, fun W e => ?_, fun W e => ?_⟩
    · rw [e]; exact en_id (x := ⟨x, v8⟩) (w := w11.drew) (ok2 _ (by simp)) hg1
    · rw [e]
      have hc : w11.drew.cell? ⟨g, o + 37 * 0 + 33 + 1, none⟩ = some (.int .i64 v8.n) := rng_va (x := ⟨x, v8⟩) (w := w11.drew) (ok2 _ (by simp)) hg1 1 _ rfl
      rw [HV.out.2.2.1] at hc
      go_simp
    · rw [e]; exact en_id (x := ⟨y, v0⟩) (w := w11.drew) (ok2 _ (by simp)) hg2
  have CL : Hid (Calls Tryd.prog 24 #[.pointer (some ⟨r0, 0, none⟩)] w11.drew fun e w' => e = .returned (.int .i64 1) ∧ w' = w11.drew) := by
    have c := len_any st11.out.ra.mem
    rw [one_place st11.out.ra.mem (p := p) (fun q => by
      rw [st11.out.li]
      by_cases e : q = p
      · simp [e]
      · simp [e]), st11.out.r] at c
    exact c
  have U1 : Hid (Calls Tryd.prog 19 #[.pointer (some ⟨r0, 0, none⟩), .pointer (some ⟨r1.bk, 0, none⟩)] w11.drew fun e w' => e = .returned (.int .i64 2) ∧ w' = w11.drew) := by
    have h := st11.out.ra
    have c := undo_not h (bk := r1.bk) ⟨_, h.hist.2.2.1.b⟩ (by
      show some (⟨r3.bk, 0, none⟩ : Addr) ≠ _
      intro e
      injection e with e
      injection e with e
      exact H13.out.1 e.symm)
    rw [st11.out.r] at c
    exact c
  have U2 : Hid (Calls Tryd.prog 19 #[.pointer (some ⟨r0, 0, none⟩), .pointer (some ⟨r3.bk, 0, none⟩)] w11.drew fun e w' => e = .returned (.int .i64 0) ∧ ∃ s4, LSt w r0 pb xb yb p x y s4 [r2, r1] [⟨x, v8⟩] w') := by
    have h := st11.out
    have c := undo_any h.ra h.bel.size
    rw [h.r] at c
    refine c.mono ?_
    rintro e w' ⟨rfl, s4, h4, r4, l4, a4, t4, _⟩
    obtain ⟨q1, q2, q3, q4⟩ := h.tch t4
    refine ⟨rfl, s4, h4, q1, q2, q3, q4, fun q => ?_, r4.trans h.r⟩
    rw [l4, H13.out.2.1, H13.out.2.2]
    by_cases e : q = p
    · rw [if_pos e, if_pos e]
    · rw [if_neg e, if_neg e, h.li, if_neg e]
  clear hg1 hg2 hat ou st11' ok2
  go_upto_region 9 with fail
  refine live9 (rb := r0) (xb := xb) (yb := yb) (g := g) (o := o) (lc := uc) (x := x) (y := y) _ w11 _ rfl rfl rfl rfl rfl hx hy LL.out.1 (st11.out.ldx hx) LL.out.2.1 LL.out.2.2 (st11.out.ldy hy) CL.out ?_
  intro a' w' hw' ha
  subst ha
  subst hw'
  simp only [Act.put, List.setIfInBounds_toArray, List.set_cons_zero, List.set_cons_succ]
  clear LL CL HV H13 st10 st11
  go_wp2_with (first
    | (go_at_call 19; refine U1.out.mono ?_; rintro e w12 ⟨rfl, rfl⟩; clear U1)
    | (go_at_call 19; refine U2.out.mono ?_; rintro e w13 ⟨rfl, s4, st'⟩; have LP := hidMk (st'.ld hp w13 rfl); have CE := hidMk (st'.ent hp (by simp)); clear U2 st')
    | (refine wpList_val rfl (exec_load (t := 52) (v := p.v) rfl rfl LP.out) ?_)
    | (go_at_call 20; refine CE.out.mono ?_; rintro e w14 ⟨u, rfl, ou, st14⟩; obtain ⟨ua, uc2, rfl⟩ := ou.form; have B := hidMk st14.bel; clear ou st14 CE)
    | fail)
  go_ret
  exact ⟨rfl, B.out⟩
theorem live_any (w : World) : Calls Tryd.prog 8 #[] w fun e w' => e = .returned (.bool true) ∧ Below w.heap.size w w' :=
  live_gen w pA pA_ok (idN 1) (idN 2) (idN_ok (by decide)) (idN_ok (by decide)) (vC 5) (vC 8) zVa (vC_ok (by decide)) zVa_ok rfl sum_live (vC_ok (by decide)) (hidMk build_pA) (hidMk build_i1) (hidMk build_i2) (hidMk build_vC) (hidMk build_v0)
theorem belN2 (w : World) (a b : Obj) : Below w.heap.size w ((w.alloc a).alloc b) := ((Below.refl _ _).alloc (Nat.le_refl _) _).alloc (by simp) _
structure NJ (w : World) (B ro : Nat) (s : Rs) (H : List Rec) (i : Nat) (W : World) : Prop where
  ra : RgAt W B s H
  r : s.r = ro
  bel : Below w.heap.size w W
  le : ∀ q, (liOf s.P q).length ≤ i
  lo : w.heap.size ≤ B
  hi : B ≤ W.heap.size
def Np (pb : Nat) (p : PlK) (W : World) : Prop := W.heap[pb]? = some (.cells p.c.toArray 52 (0, 0))
theorem Np.below {pb : Nat} {p : PlK} {W W' : World} (h : Np pb p W) (b : Below W.heap.size W W') : Np pb p W' := (b.block _ (Array.getElem?_eq_some_iff.1 h).1).trans h
section
variable {w W W' : World} {B ro i pb : Nat} {s : Rs} {H : List Rec} {p : PlK}
theorem NJ.below (h : NJ w B ro s H i W) (b : Below W.heap.size W W') : NJ w B ro s H i W' := ⟨h.ra.below b, h.r, h.bel.trans (b.mono h.bel.size), h.le, h.lo, Nat.le_trans h.hi b.size⟩
theorem put_nil (ra : RgAt W B s H) (hb : B ≤ W.heap.size) (hp : p.ok) {x : IdK} (hx : x.ok) {v : VaV} (hv : v.ok) (hn : (liOf s.P p).length + 1 ≤ 2500000000000) : Calls Tryd.prog 16 #[.pointer (some ⟨s.r, 0, none⟩), p.v, x.v, v.v, .nilFunc] W (OpE W B s H p (liOf s.P p ++ [⟨x, v⟩])) := by
  have c := put_any ra hb hp hx hv (fv := .nilFunc) (sn := fun _ => false) (.inl ⟨rfl, fun _ => rfl⟩) hn
  have e : Rg.res (fun y : EnV => (fun _ : IdK => false) y.id) (liOf s.P p) = liOf s.P p := List.filter_eq_self.2 fun _ _ => rfl
  rw [e] at c
  exact c
def NF (w : World) (B ro : Nat) (H : List Rec) (i pb : Nat) (p : PlK) (bk : Nat) (W : World) : Prop := ∃ rc s', rc.bk = bk ∧ NJ w B ro s' (rc :: H) i W ∧ Np pb p W
theorem NJ.put (h : NJ w B ro s H i W) (np : Np pb p W) (hp : p.ok) {x : IdK} (hx : x.ok) {v : VaV} (hv : v.ok) (hn : i + 1 ≤ 2500000000000) : Calls Tryd.prog 16 #[.pointer (some ⟨ro, 0, none⟩), p.v, x.v, v.v, .nilFunc] W fun e w' => ∃ bk, e = .returned (.pointer (some ⟨bk, 0, none⟩)) ∧ (Below w.heap.size w w' ∧ Np pb p w') ∧ NF w B ro H (i + 1) pb p bk w' := by
  have c := put_nil h.ra h.hi hp hx hv (by have := h.le p; omega)
  rw [h.r] at c
  refine c.mono ?_
  rintro e w' ⟨rc, s', rfl, o⟩
  have bw : Below w.heap.size w w' := h.bel.trans (o.tch.below h.bel.size (fun j hj => Nat.le_trans h.lo (h.ra.mem.geAll hj)))
  have np' : Np pb p w' := (o.tch.block _ (Array.getElem?_eq_some_iff.1 np).1 (h.ra.mem.other np (by decide) (by decide))).trans np
  refine ⟨_, rfl, ⟨bw, np'⟩, rc, s', rfl, ⟨o.at', o.r.trans h.r, bw, fun q => ?_, h.lo, Nat.le_trans h.hi o.tch.size⟩, np'⟩
  rw [o.li]
  by_cases e : q = p
  · rw [if_pos e, List.length_append]
    have := h.le p
    simp
    omega
  · rw [if_neg e]
    have := h.le q
    omega
structure NR (rf B2 : Nat) (s2 : Rs) (rc2 : Rec) (p : PlK) (W : World) : Prop where
  ra : RgAt W B2 s2 [rc2]
  r : s2.r = rf
  li : (liOf s2.P p).length = 1
theorem pl_obj (h : Np pb p W) (hp : p.ok) : (Instr.loadAt 38 (.pointer (some ⟨pb, 0 + 0, none⟩))).run Tryd.prog W = .ok p.o.v W :=
  run_loadAt_mid (P := Tryd.prog) W pb 0 38 p.o.c _ (fun j v hv => rng_cells h j v (by rw [PlK.c, List.getElem?_append_left (List.getElem?_eq_some_iff.1 hv).1]; exact hv)) Tryd.underlying38 rfl (by rw [IdK.len hp.o]; exact szId)
theorem op_plc {b o : Nat} {x : OpR} (h : W.rangeAt b o x.c) : (Instr.loadAt 3 (.pointer (some ⟨b, o + 1, none⟩))).run Tryd.prog W = .ok (.int .i64 x.pl) W := by
  have hc : W.cell? ⟨b, o + 1, none⟩ = some (.int .i64 x.pl) := h 1 _ rfl
  go_simp
theorem op_idc {b o : Nat} {x : OpR} (hx : x.id.ok) (h : W.rangeAt b o x.c) : (Instr.loadAt 38 (.pointer (some ⟨b, o + 2, none⟩))).run Tryd.prog W = .ok x.id.v W :=
  run_loadAt_mid (P := Tryd.prog) W b (o + 2) 38 x.id.c _ (fun j v hv => by
    rw [Nat.add_assoc]
    exact h (2 + j) v (by
      rw [OpR.c, Nat.add_comm 2 j, List.getElem?_cons_succ, List.getElem?_cons_succ, List.getElem?_append_left (List.getElem?_eq_some_iff.1 hv).1]
      exact hv)) Tryd.underlying38 rfl (by rw [IdK.len hx]; exact szId)
theorem op_vac {b o : Nat} {x : OpR} (hx : x.id.ok) (h : W.rangeAt b o x.c) : (Instr.loadAt 42 (.pointer (some ⟨b, o + 35, none⟩))).run Tryd.prog W = .ok x.v.v W := ld_va (fun j v hv => by
    rw [Nat.add_assoc]
    exact h (35 + j) v (by
      rw [OpR.c, show 35 + j = (33 + j) + 1 + 1 by omega, List.getElem?_cons_succ, List.getElem?_cons_succ, List.getElem?_append_right (by rw [IdK.len hx]; omega), IdK.len hx, show 33 + j - 33 = j by omega, List.getElem?_append_left (List.getElem?_eq_some_iff.1 hv).1]
      exact hv))
theorem op_nc {b o : Nat} {x : OpR} (hx : x.id.ok) (h : W.rangeAt b o x.c) : (Instr.loadAt 2 (.pointer (some ⟨b, o + 39, none⟩))).run Tryd.prog W = .ok (.int .i64 x.n) W := by
  have hc : W.cell? ⟨b, o + 39, none⟩ = some (.int .i64 x.n) := h 39 _ (by
    rw [OpR.c, show 39 = (33 + 4) + 1 + 1 by rfl, List.getElem?_cons_succ, List.getElem?_cons_succ, List.getElem?_append_right (by rw [IdK.len hx]; omega), IdK.len hx, List.getElem?_append_right (by rw [VaV.len]; omega), VaV.len]
    rfl)
  go_simp
end
def RfO (B : Nat) (w : World) (d : Nat) (X : Sls) (v : SlV) (pv : Value) (D : List (SlV × Sls)) (p : PlK) (L : List EnV) (w' : World) : Prop := ∃ X' v' pv' h, RfP B w' d X' v' pv' (D ++ [h]) ∧ (∀ r, entF h.2 r = entF X r) ∧ List.length h.2 = X.length ∧ (∀ r, entF X' r = if r = p then L else entF X r) ∧ X'.length ≤ X.length + 1 ∧ Tch (fun j => rfB d v pv D j) w w' ∧ (∀ j, docE X' (D ++ [h]) j → docE X D j ∨ w.heap.size ≤ j) ∧ ∀ j, rfB d v' pv' (D ++ [h]) j → rfB d v pv D j ∨ w.heap.size ≤ j
theorem rfo_of {B : Nat} {W w1 w2 w3 : World} {d : Nat} {X : Sls} {v : SlV} {pv pv2 : Value} {D : List (SlV × Sls)} {h : SlV × Sls} {p : PlK} {L : List EnV} {lo : Value} (ok : SlOk X) (hk : Sls.key h.2 = X.key) (t1 : Tch (fun j => j = d ∨ pv.ownBlock = some j) W w1) (q1 : pv2.ownBlock = pv.ownBlock ∨ ∀ j, pv2.ownBlock = some j → W.heap.size ≤ j) (n1 : ∀ q ∈ h.2, ∀ j, q.1.2.v.ownBlock = some j → W.heap.size ≤ j) (n2 : ∀ j, h.1.v.ownBlock = some j → W.heap.size ≤ j)
    (b : Below w1.heap.size w1 w2) (st : SetE B w2 d X v pv2 (D ++ [h]) p L lo w3) (hlo : ∀ j, lo.ownBlock = some j → W.heap.size ≤ j) : RfO B W d X v pv D p L w3 := by
  obtain ⟨X', v', r3, e3, l3, t3, q3, z3⟩ := st
  obtain ⟨_, ek, el⟩ := key_ok hk ok
  have s12 : W.heap.size ≤ w2.heap.size := Nat.le_trans t1.size b.size
  refine ⟨X', v', pv2, h, r3, ek, el, e3, l3, ?_, fun j hj => ?_, fun j hj => ?_⟩
  · refine (t1.mono (fun j _ e => ?_)).trans' ((tch_of b _).trans' t3 (fun j _ q => q)) (fun j _ e => ?_)
    · rcases e with e | e
      · exact .inl e
      · exact .inr (.inr (.inl e))
    · rcases e with e | e
      · exact .inl e
      · exact .inr (.inl e)
  · rcases hj with ⟨q, hq, e⟩ | ⟨g, hg, q, hq, e⟩
    · rcases z3 q hq with hz | hz
      · exact .inl (.inl ⟨q, hz, e⟩)
      · rw [hz] at e; exact .inr (hlo j e)
    · rcases List.mem_append.1 hg with hg | hg
      · exact .inl (.inr ⟨g, hg, q, hq, e⟩)
      · rw [List.mem_singleton.1 hg] at hq
        exact .inr (n1 q hq j e)
  · rcases hj with e | e | e | ⟨g, hg, e⟩
    · exact .inl (.inl e)
    · rcases q3 with q | q
      · exact .inl (.inr (.inl (by rw [← q]; exact e)))
      · exact .inr (Nat.le_trans s12 (q j e))
    · rcases q1 with q | q
      · exact .inl (.inr (.inr (.inl (by rw [← q]; exact e))))
      · exact .inr (q j e)
    · rcases List.mem_append.1 hg with hg | hg
      · exact .inl (.inr (.inr (.inr ⟨g, hg, e⟩)))
      · rw [List.mem_singleton.1 hg] at e
        exact .inr (n2 j e)
theorem RfO.from {B : Nat} {w0 w w' : World} {d : Nat} {X : Sls} {v : SlV} {pv : Value} {D : List (SlV × Sls)} {p : PlK} {L : List EnV} (b : Below w0.heap.size w0 w) (h : RfO B w d X v pv D p L w') : RfO B w0 d X v pv D p L w' := by
  obtain ⟨X', v', pv', g, h1, h2, h3, h4, h5, h6, h7, h8⟩ := h
  exact ⟨X', v', pv', g, h1, h2, h3, h4, h5, (tch_of b _).trans' h6 (fun j _ q => q), fun j hj => (h7 j hj).imp id (Nat.le_trans b.size), fun j hj => (h8 j hj).imp id (Nat.le_trans b.size)⟩
theorem ent_facts {w : World} {B : Nat} {X : Sls} (h : SlsAt w B X) (p : PlK) : (∀ x ∈ entF X p, x.ok) ∧ (entF X p).length ≤ 2500000000000 := by
  unfold entF
  cases e : X.find? (fun q => decide (q.1.1 = p)) with
  | none => exact ⟨(fun x hx => by cases hx), by simp⟩
  | some q => exact ⟨(h q (List.mem_of_find?_eq_some e)).2.2.1, (h q (List.mem_of_find?_eq_some e)).2.2.2⟩
theorem RfP.stays {B : Nat} {w w' : World} {d : Nat} {X : Sls} {v : SlV} {pv : Value} {D : List (SlV × Sls)} (h : RfP B w d X v pv D) (t : Tch (fun j => j = d ∨ pv.ownBlock = some j) w w') {j : Nat} {c : Array Value} {ty : TypeId} {f : Nat × Nat} (hj : w.heap[j]? = some (.cells c ty f)) (h1 : ty ≠ 88) (h2 : ty ≠ 85) : w'.heap[j]? = some (.cells c ty f) := by
  refine (t.block j (Array.getElem?_eq_some_iff.1 hj).1 (fun e => ?_)).trans hj
  rcases e with e | e
  · rw [e] at hj; exact h1 (two_types hj h.cell)
  · obtain ⟨_, c4, hc4⟩ := h.past.ge _ e
    exact h2 (two_types hj hc4)
theorem RfP.ltB {B : Nat} {w w' w0 : World} {d : Nat} {X : Sls} {v : SlV} {pv : Value} {D : List (SlV × Sls)} (h : RfP B w d X v pv D) (t : Tch (fun j => j = d ∨ pv.ownBlock = some j) w w') (b : Below w0.heap.size w0 w) (hb : w0.heap.size ≤ B) : Below w0.heap.size w0 w' := b.trans (t.below b.size (fun j e => by
  rcases e with e | e
  · rw [e]; exact Nat.le_trans hb h.dB
  · exact Nat.le_trans hb (h.past.ge j e).1))
theorem ld_slots {W : World} {d : Nat} {v : SlV} {pv : Value} (h : W.heap[d]? = some (.cells #[v.v, pv] 88 (0, 0))) : (Instr.loadAt 85 (.pointer (some ⟨d, 0 + 0, none⟩))).run Tryd.prog W = .ok v.v W := by
  have hc : W.cell? ⟨d, 0, none⟩ = some (.slice v.a v.n v.c) := (cell_of_row W d 0 _ _ _ h).trans rfl
  have : (Instr.loadAt 85 (.pointer (some ⟨d, 0 + 0, none⟩))).run Tryd.prog W = .ok (.slice v.a v.n v.c) W := by go_simp
  exact this
theorem ld_past {W : World} {d : Nat} {a : Value} {s : SlV} (h : W.heap[d]? = some (.cells #[a, s.v] 88 (0, 0))) : (Instr.loadAt 86 (.pointer (some ⟨d, 0 + 1, none⟩))).run Tryd.prog W = .ok s.v W := by
  have hc : W.cell? ⟨d, 1, none⟩ = some (.slice s.a s.n s.c) := (cell_of_row W d 1 _ _ _ h).trans rfl
  have : (Instr.loadAt 86 (.pointer (some ⟨d, 0 + 1, none⟩))).run Tryd.prog W = .ok (.slice s.a s.n s.c) W := by go_simp
  exact this
section
variable {w0 w : World} {B d : Nat} {X : Sls} {v : SlV} {pv : Value} {D : List (SlV × Sls)} {p : PlK} {sv : Value} {I : List IdK}
theorem rf_put (h : RfP B w d X v pv D) (hB : B ≤ w.heap.size) (b0 : Below w0.heap.size w0 w) (h0 : w0.heap.size ≤ B) (hn : X.length + 1 ≤ 1500000000000) (hD : D.length + 1 ≤ 2200000000000) (hp : p.ok) {id : IdK} (hid : id.ok) {x : VaV} (hx : x.ok) (hI : SeenL w0 sv I) (hl : (entF X p).length + 1 ≤ 2500000000000) :
    Calls Tryd.prog 34 #[.pointer (some ⟨d, 0, none⟩), p.v, id.v, x.v, sv] w fun e w' => e = .returned (.tuple #[]) ∧ RfO B w d X v pv D p (Rg.res (inL I) (entF X p) ++ [⟨id, x⟩]) w' := by
  obtain ⟨wa, EA, na, ba⟩ := box_pl w p
  obtain ⟨wb, EB, nb, bb⟩ := box_id wa id
  obtain ⟨wc, EC, nc, bc⟩ := box_va wb x
  have bw : Below w.heap.size w wc := ba.trans ((bb.trans (bc.mono bb.size)).mono ba.size)
  have na' := ((bc.block _ (Nat.lt_of_lt_of_le (Array.getElem?_eq_some_iff.1 na).1 bb.size)).trans ((bb.block _ (Array.getElem?_eq_some_iff.1 na).1).trans na))
  have nb' := (bc.block _ (Array.getElem?_eq_some_iff.1 nb).1).trans nb
  have bd : Below w.heap.size w wc.drew := bw.drew
  have hd := h.below bd
  obtain ⟨ps, hps⟩ := h.pastS
  have CC := hidMk (past_step hd (Nat.le_trans hB bd.size) (by omega) hD)
  have HC := hidMk hd.cell
  obtain ⟨ek, eln⟩ := ent_facts h.en p
  have NXT : Hid (∀ w1, PastE B wc.drew d X v pv D w1 → (∀ W, W = w1 → (Instr.loadAt 52 (.pointer (some ⟨w.heap.size, 0, none⟩))).run Tryd.prog W = .ok p.v W) ∧ Calls Tryd.prog 64 #[.pointer (some ⟨d, 0, none⟩), p.v, sv] w1 fun e w2 => ∃ u, e = .returned u ∧ ∃ bv w3 u2 w4, (Np w.heap.size p w2.drew ∧ w2.drew.heap[wa.heap.size]? = some (.cells id.c.toArray 38 (0, 0)) ∧ w2.drew.heap[wb.heap.size]? = some (.cells x.c.toArray 42 (0, 0))) ∧ (Instr.buildSlice 60 1 #[(0, EnV.a ⟨id, x⟩)]).run Tryd.prog w2.drew = .ok bv w3 ∧ (Np w.heap.size p w3 ∧ w3.heap[wa.heap.size]? = some (.cells id.c.toArray 38 (0, 0)) ∧ w3.heap[wb.heap.size]? = some (.cells x.c.toArray 42 (0, 0))) ∧ (Builtin.append_ #[60, 60] 60 #[u, bv]).run Tryd.prog w3 = .ok u2 w4 ∧ (Np w.heap.size p w4 ∧ w4.heap[wa.heap.size]? = some (.cells id.c.toArray 38 (0, 0)) ∧ w4.heap[wb.heap.size]? = some (.cells x.c.toArray 42 (0, 0))) ∧ Calls Tryd.prog 65 #[.pointer (some ⟨d, 0, none⟩), p.v, u2] w4 fun e w' => e = .returned (.tuple #[]) ∧ RfO B w d X v pv D p (Rg.res (inL I) (entF X p) ++ [⟨id, x⟩]) w') := by
    rintro w1 ⟨pv2, g, r1, hk, t1, q1, n1, n2⟩
    have kp := hd.stays t1 na' (by decide) (by decide)
    have ki := hd.stays t1 nb' (by decide) (by decide)
    have kv := hd.stays t1 nc (by decide) (by decide)
    have b01 : Below w0.heap.size w0 w1 := hd.ltB t1 (b0.trans (bd.mono b0.size)) h0
    refine ⟨fun W e => by rw [e]; exact ld_pl hp (rng_cells kp), ?_⟩
    refine (rf_less r1 (by omega) hp (hI.below b01) eln ek).mono ?_
    rintro e w2 ⟨u, rfl, ou, b2⟩
    have b2d := b2.drew
    have ltk : ∀ {j : Nat} {c : Array Value} {ty : TypeId}, w1.heap[j]? = some (.cells c ty (0, 0)) → ∀ W, Below w1.heap.size w1 W → W.heap[j]? = some (.cells c ty (0, 0)) := fun hj W b => (b.block _ (Array.getElem?_eq_some_iff.1 hj).1).trans hj
    have rl : (Rg.res (inL I) (entF X p)).length + 1 ≤ 2500000000000 := by have := Rg.res_len (inL I) (entF X p) 0; omega
    have okr : ∀ y ∈ Rg.res (inL I) (entF X p), y.ok := fun y hy => ek y (List.mem_filter.1 hy).1
    obtain ⟨bv, w3, u2, w4, E1, E2, o4, b3, z3, g4, q4⟩ := RowT.run_push RN_is w2.drew w1.heap.size u _ ⟨id, x⟩ (ou.below (Below.refl w2.heap.size w2).drew) ⟨hid, hx⟩ (by unfold maxLen; omega) (by show _ * 80 ≤ _; omega) b2d.size
    have b13 : Below w1.heap.size w1 w3 := b2d.trans (b3.mono b2d.size)
    have b14 : Below w1.heap.size w1 w4 := b13.grown g4 b13.size (fun k hk => (ou.cells hk).1)
    obtain ⟨oa, oc, eo⟩ := o4.form
    have hl4 : (Rg.res (inL I) (entF X p) ++ [(⟨id, x⟩ : EnV)]).length ≤ 2500000000000 := by simp; omega
    refine ⟨u, rfl, bv, w3, u2, w4, ⟨ltk kp _ b2d, ltk ki _ b2d, ltk kv _ b2d⟩, E1, ⟨ltk kp _ b13, ltk ki _ b13, ltk kv _ b13⟩, E2, ⟨ltk kp _ b14, ltk ki _ b14, ltk kv _ b14⟩, ?_⟩
    have hB1 : B ≤ w1.heap.size := Nat.le_trans hB (Nat.le_trans bd.size t1.size)
    have hlo := o4.lo.mono hB1
    rw [eo] at hlo ⊢
    refine (rf_set (r1.below b14) (Nat.le_trans hB1 b14.size) hn hp hlo (fun y hy => by
      rcases List.mem_append.1 hy with hy | hy
      · exact okr y hy
      · rw [List.mem_singleton.1 hy]; exact ⟨hid, hx⟩) hl4).mono ?_
    rintro e w' ⟨rfl, st⟩
    rw [← eo] at st
    exact ⟨rfl, RfO.from bd (rfo_of h.ok hk t1 q1 n1 n2 b14 st (fun j hj => Nat.le_trans t1.size (o4.cells hj).1))⟩
  have HEA := hidMk EA
  have HEB := hidMk EB
  have HEC := hidMk EC
  rw [hps] at CC HC NXT ⊢
  clear h hd na nb nc na' nb' EA EB EC ba bb bc bw bd ek eln hps
  go_enter Tryd.func34, Tryd.ntmps34
  go_upto_region 2 with (first
    | (refine wpList_run rfl (exec_boxE (t := 52) (v := p.v) (u := .pointer (some ⟨w.heap.size, 0, none⟩)) (w2 := wa) rfl rfl HEA.out) ?_)
    | (refine wpList_run rfl (exec_boxE (t := 38) (v := id.v) (u := .pointer (some ⟨wa.heap.size, 0, none⟩)) (w2 := wb) rfl rfl HEB.out) ?_)
    | (refine wpList_run rfl (exec_boxE (t := 42) (v := x.v) (u := .pointer (some ⟨wb.heap.size, 0, none⟩)) (w2 := wc) rfl rfl HEC.out) ?_)
    | fail)
  refine rpu2 (d := d) (pv := ps.v) (sv := v.v) (fun W => W.heap[d]? = some (.cells #[v.v, ps.v] 88 (0, 0))) (PastE B wc.drew d X v ps.v D) _ wc _ rfl rfl HC.out (fun W hW => ld_past hW) (fun W hW => ld_slots hW) CC.out ?_
  intro u bv pv2 a' w1 hf ha
  subst ha
  simp only [Act.put, List.setIfInBounds_toArray, List.set_cons_zero, List.set_cons_succ]
  have HN := hidMk (NXT.out w1 hf)
  clear hf NXT CC HC HEA HEB HEC
  go_upto_region 3 with fail
  refine rpu3 (d := d) (pb := w.heap.size) (sv := sv) (p := p) _ _ w1 _ rfl rfl rfl rfl HN.out.1 HN.out.2 ?_
  rintro u2 a' w2 ⟨bv, w3, u3, w4, s0, e1, s1, e2, s2, cs⟩ ha
  subst ha
  simp only [Act.put, List.setIfInBounds_toArray, List.set_cons_zero, List.set_cons_succ]
  have HX := hidMk (And.intro s0 (And.intro e1 (And.intro s1 (And.intro e2 (And.intro s2 cs)))))
  clear s0 e1 s1 e2 s2 cs HN
  go_upto_region 4 with fail
  refine rpu4 (d := d) (pb := w.heap.size) (ib := wa.heap.size) (vb := wb.heap.size) (lv := u2) (bv := bv) (u := u3) (p := p) (id := id) (x := x) (w1 := w3) (w2 := w4) (fun W => Np w.heap.size p W ∧ W.heap[wa.heap.size]? = some (.cells id.c.toArray 38 (0, 0)) ∧ W.heap[wb.heap.size]? = some (.cells x.c.toArray 42 (0, 0))) (RfO B w d X v ps.v D p (Rg.res (inL I) (entF X p) ++ [⟨id, x⟩])) _ w2 _ rfl rfl rfl rfl rfl rfl hid HX.out.1 (fun W hW => ld_pl hp (rng_cells hW.1)) (fun W hW => load_id hid hW.2.1) (fun W hW => ld_va (rng_cells hW.2.2)) HX.out.2.1 HX.out.2.2.1 HX.out.2.2.2.1 HX.out.2.2.2.2.1 HX.out.2.2.2.2.2 ?_
  intro a' w5 hf ha
  subst ha
  simp only [Act.put, List.setIfInBounds_toArray, List.set_cons_zero, List.set_cons_succ]
  have HF := hidMk hf
  clear hf HX
  go_wp2
  go_end0
  exact ⟨rfl, HF.out⟩
end
section
variable {w0 w : World} {B d : Nat} {X : Sls} {v : SlV} {pv : Value} {D : List (SlV × Sls)} {p : PlK} {sv : Value} {I : List IdK}
theorem rf_delete (h : RfP B w d X v pv D) (hB : B ≤ w.heap.size) (b0 : Below w0.heap.size w0 w) (h0 : w0.heap.size ≤ B) (hn : X.length + 1 ≤ 1500000000000) (hD : D.length + 1 ≤ 2200000000000) (hp : p.ok) (hI : SeenL w0 sv I) :
    Calls Tryd.prog 35 #[.pointer (some ⟨d, 0, none⟩), p.v, sv] w fun e w' => e = .returned (.tuple #[]) ∧ RfO B w d X v pv D p (Rg.res (inL I) (entF X p)) w' := by
  obtain ⟨wc, EA, na, bw⟩ := box_pl w p
  have bd : Below w.heap.size w wc.drew := bw.drew
  have hd := h.below bd
  obtain ⟨ps, hps⟩ := h.pastS
  have CC := hidMk (past_step hd (Nat.le_trans hB bd.size) (by omega) hD)
  have HC := hidMk hd.cell
  obtain ⟨ek, eln⟩ := ent_facts h.en p
  have NXT : Hid (∀ w1, PastE B wc.drew d X v pv D w1 → Np w.heap.size p w1.drew ∧ Calls Tryd.prog 64 #[.pointer (some ⟨d, 0, none⟩), p.v, sv] w1.drew fun e w2 => ∃ u, e = .returned u ∧ Np w.heap.size p w2 ∧ Calls Tryd.prog 65 #[.pointer (some ⟨d, 0, none⟩), p.v, u] w2 fun e w' => e = .returned (.tuple #[]) ∧ RfO B w d X v pv D p (Rg.res (inL I) (entF X p)) w') := by
    rintro w1 ⟨pv2, g, r1, hk, t1, q1, n1, n2⟩
    have kp : Np w.heap.size p w1 := hd.stays t1 na (by decide) (by decide)
    have b01 : Below w0.heap.size w0 w1 := hd.ltB t1 (b0.trans (bd.mono b0.size)) h0
    have d1 : Below w1.heap.size w1 w1.drew := (Below.refl _ _).drew
    refine ⟨kp.below d1, (rf_less (r1.below d1) (by omega) hp (hI.below b01.drew) eln ek).mono ?_⟩
    rintro e w2 ⟨u, rfl, ou, b2⟩
    have b12 : Below w1.heap.size w1 w2 := d1.trans b2
    have rl : (Rg.res (inL I) (entF X p)).length ≤ 2500000000000 := by have := Rg.res_len (inL I) (entF X p) 0; omega
    have okr : ∀ y ∈ Rg.res (inL I) (entF X p), y.ok := fun y hy => ek y (List.mem_filter.1 hy).1
    refine ⟨u, rfl, kp.below b12, ?_⟩
    obtain ⟨oa, oc, eo⟩ := ou.form
    have hB1 : B ≤ w1.heap.size := Nat.le_trans hB (Nat.le_trans bd.size t1.size)
    have hlo : RN.Lo w2 B u _ := ou.lo.mono hB1
    rw [eo] at hlo ⊢
    refine (rf_set (r1.below b12) (Nat.le_trans hB1 b12.size) hn hp hlo okr rl).mono ?_
    rintro e w' ⟨rfl, st⟩
    rw [← eo] at st
    exact ⟨rfl, RfO.from bd (rfo_of h.ok hk t1 q1 n1 n2 b12 st (fun j hj => Nat.le_trans t1.size (ou.cells hj).1))⟩
  have HEA := hidMk EA
  rw [hps] at CC HC NXT ⊢
  clear h hd na EA bw bd ek eln hps
  go_enter Tryd.func35, Tryd.ntmps35
  go_upto_region 2 with (first
    | (refine wpList_run rfl (exec_boxE (t := 52) (v := p.v) (u := .pointer (some ⟨w.heap.size, 0, none⟩)) (w2 := wc) rfl rfl HEA.out) ?_)
    | fail)
  refine rde2 (d := d) (pv := ps.v) (sv := v.v) (fun W => W.heap[d]? = some (.cells #[v.v, ps.v] 88 (0, 0))) (PastE B wc.drew d X v ps.v D) _ wc _ rfl rfl HC.out (fun W hW => ld_past hW) (fun W hW => ld_slots hW) CC.out ?_
  intro u bv pv2 a' w1 hf ha
  subst ha
  simp only [Act.put, List.setIfInBounds_toArray, List.set_cons_zero, List.set_cons_succ]
  have HN := hidMk (NXT.out w1 hf)
  clear hf NXT CC HC HEA
  go_upto_region 3 with fail
  refine rde3 (d := d) (pb := w.heap.size) (sv := sv) (p := p) (Np w.heap.size p) (RfO B w d X v ps.v D p (Rg.res (inL I) (entF X p))) _ w1 _ rfl rfl rfl rfl HN.out.1 (fun W hW => ld_pl hp (rng_cells hW)) HN.out.2 ?_
  intro u2 a' w5 hf ha
  subst ha
  simp only [Act.put, List.setIfInBounds_toArray, List.set_cons_zero, List.set_cons_succ]
  have HF := hidMk hf
  clear hf HN
  go_wp2
  go_end0
  exact ⟨rfl, HF.out⟩
end
def cuL (sn : EnV → Bool) (gv : VaV → VaV) (L : List EnV) (i : Nat) : List EnV := chs sn gv (L.take i) ++ L.drop i
theorem cuL_zero (sn : EnV → Bool) (gv : VaV → VaV) (L : List EnV) : cuL sn gv L 0 = L := by simp [cuL, chs]
theorem cuL_all (sn : EnV → Bool) (gv : VaV → VaV) {L : List EnV} {n : Nat} (h : L.length ≤ n) : cuL sn gv L n = chs sn gv L := by
  unfold cuL
  rw [List.take_of_length_le h, List.drop_of_length_le h, List.append_nil]
theorem cuL_at {sn : EnV → Bool} {gv : VaV → VaV} {L : List EnV} {i : Nat} {x : EnV} (h : L[i]? = some x) : (cuL sn gv L i)[i]? = some x := by
  have hi := (List.getElem?_eq_some_iff.1 h).1
  unfold cuL
  rw [List.getElem?_append_right (by simp [chs]; omega)]
  simp [chs, Nat.min_eq_left (Nat.le_of_lt hi), h]
theorem cuL_succ {sn : EnV → Bool} {gv : VaV → VaV} {L : List EnV} {i : Nat} {x : EnV} (h : L[i]? = some x) : cuL sn gv L (i + 1) = if sn x then (cuL sn gv L i).set i { x with v := gv x.v } else cuL sn gv L i := by
  have hi := (List.getElem?_eq_some_iff.1 h).1
  have e1 : L.take (i + 1) = L.take i ++ [x] := by rw [List.take_add_one, h]; rfl
  have e2 : L.drop i = x :: L.drop (i + 1) := by rw [List.drop_eq_getElem_cons hi, (List.getElem?_eq_some_iff.1 h).2]
  unfold cuL
  rw [e1, e2]
  have hl : (chs sn gv (L.take i)).length = i := by simp [chs]; omega
  unfold chs at hl ⊢
  rw [List.map_append, List.append_assoc]
  by_cases hs : sn x = true
  · rw [if_pos hs, List.set_append_right _ _ (by omega), hl, Nat.sub_self]
    simp [hs, chg]
  · rw [if_neg hs]
    simp [hs]
theorem cuL_ok {sn : EnV → Bool} {gv : VaV → VaV} (hg : ∀ v : VaV, v.ok → (gv v).ok) {L : List EnV} (ok : ∀ x ∈ L, x.ok) (i : Nat) : ∀ x ∈ cuL sn gv L i, x.ok := by
  intro x hx
  rcases List.mem_append.1 hx with hx | hx
  · obtain ⟨y, hy, rfl⟩ := List.mem_map.1 hx
    have := ok y (List.mem_of_mem_take hy)
    split
    · exact ⟨this.i, hg _ this.w⟩
    · exact this
  · exact ok x (List.mem_of_mem_drop hx)
theorem rright7 (n : Int) (f : Nat) (t : ByteArray) (w : World) : Calls Tryd.prog 77 #[.agg #[.int .u8 7, .int .i64 n, .float .f64 f, .string t]] w fun e w' => e = .returned (.bool ((f == 0) && (t.toList == ([] : List UInt8)))) ∧ Below w.heap.size w w' := by
  have hb : Below w.heap.size w (w.alloc (.cells #[.int .u8 7, .int .i64 n, .float .f64 f, .string t] 42)) := (Below.refl _ _).alloc (Nat.le_refl _) _
  have HB := hidMk hb
  clear hb
  generalize e2 : (t.toList == ([] : List UInt8)) = q2
  generalize e1 : (f == 0) = q1
  have E1 := hidMk e1
  have E2 := hidMk e2
  have ef : ((f : Int) == 0) = (f == 0) := by rw [Bool.eq_iff_iff]; simp
  rw [e1] at ef
  cases q1 <;> cases q2
  all_goals
    go_enter Tryd.func77, Tryd.ntmps77
    go_wp2_with (first
      | (refine wpList_val rfl (exec_ext1 rfl rfl (bits_runR _ _)) ?_)
      | fail)
    go_ret
    exact ⟨rfl, HB.out⟩
theorem rsum_any {x : VaV} (hx : x.ok) {n : Int} (hn : -9223372036854775808 ≤ n ∧ n ≤ 9223372036854775807) (w : World) : Calls Tryd.prog 66 #[x.v, .int .i64 n] w fun e w' => e = .returned (sumV n x).v ∧ Below w.heap.size w w' := by
  obtain ⟨w1, E1, n1, b1⟩ := box_va w x
  have b2 : Below w1.heap.size w1 (w1.alloc (.cells zVa.c.toArray 42)) := (Below.refl _ _).alloc (Nat.le_refl _) _
  have n2 : (w1.alloc (.cells zVa.c.toArray 42)).heap[w1.heap.size]? = some (.cells zVa.c.toArray 42 (0, 0)) := heap_alloc_new _ _
  have E2 : (Instr.alloc 42 true (.tuple #[])).run Tryd.prog w1 = .ok (.pointer (some ⟨w1.heap.size, 0, none⟩)) (w1.alloc (.cells zVa.c.toArray 42)) := by kernel_rfl
  generalize w1.alloc (.cells zVa.c.toArray 42) = w2 at *
  have n1' := (b2.block _ (Array.getElem?_eq_some_iff.1 n1).1).trans n1
  have bw : Below w.heap.size w w2 := b1.trans (b2.mono b1.size)
  have lt1 := (Array.getElem?_eq_some_iff.1 n1).1
  have hne : w.heap.size ≠ w1.heap.size := by omega
  have hz1 : w.heap.size ≤ w1.heap.size := b1.size
  have FIN : Hid (∀ (W : World) (y : VaV), Below w.heap.size w W → W.heap[w.heap.size]? = some (.cells y.c.toArray 42 (0, 0)) → W.heap[w1.heap.size]? = some (.cells zVa.c.toArray 42 (0, 0)) → ∃ W', (Instr.loadAt 42 (.pointer (some ⟨w.heap.size, 0, none⟩))).run Tryd.prog W = .ok y.v W ∧ (Instr.storeAt 42 (.pointer (some ⟨w1.heap.size, 0, none⟩)) y.v).run Tryd.prog W = .ok () W' ∧ W'.heap[w1.heap.size]? = some (.cells y.c.toArray 42 (0, 0)) ∧ Below w.heap.size w W') := by
    intro W y bW h1 h2
    refine ⟨_, ld_va (rng_cells h1), va_store (x := zVa) (u := y) h2, setRow_heap W w1.heap.size _ _ _ _ h2, bW.trans ((setRow_tch W w1.heap.size _).below bW.size (fun j e => by simp at e; omega))⟩
  have RI := hidMk rright7
  obtain ⟨k, m, f, t⟩ := x
  have HX := hidMk hx
  have c0 : w2.cell? ⟨w.heap.size, 0, none⟩ = some (.int .u8 k) := (cell_of_row _ _ 0 _ _ _ n1').trans rfl
  have LV := hidMk (ld_va (x := ⟨k, m, f, t⟩) (rng_cells n1'))
  have H1 := hidMk E1
  have H2 := hidMk E2
  have HS := hidMk (And.intro n1' (And.intro n2 bw))
  have hk0 := hx.k0
  have hk1 := hx.k1
  simp only at hk0 hk1
  clear hx E1 E2 n1 n1' n2 b1 b2 bw lt1
  obtain ⟨b, hb⟩ : ∃ b, w.heap.size = b := ⟨_, rfl⟩
  obtain ⟨c, hc⟩ : ∃ b, w1.heap.size = b := ⟨_, rfl⟩
  have HB := hidMk hb
  rw [hb] at c0 LV H1 HS FIN hne hz1
  rw [hc] at H2 HS FIN hne hz1
  clear hb hc
  by_cases hk : k = 7
  · subst hk
    obtain ⟨q, hq⟩ : ∃ q, ((f == 0) && (t.toList == ([] : List UInt8))) = q := ⟨_, rfl⟩
    have HQ := hidMk hq
    have CR : Hid (Calls Tryd.prog 77 #[VaV.v ⟨7, m, f, t⟩] w2 fun e w' => e = .returned (.bool q) ∧ Below w2.heap.size w2 w') := by
      rw [← hq]
      exact RI.out m f t w2
    clear hq RI
    cases q
    · go_enter Tryd.func66, Tryd.ntmps66
      go_upto_region 3 with (first
        | (refine wpList_run rfl (exec_boxE (t := 42) (v := VaV.v ⟨7, m, f, t⟩) (u := .pointer (some ⟨b, 0, none⟩)) (w2 := w1) rfl rfl H1.out) ?_)
        | (refine wpList_run rfl (exec_alloc (w2 := w2) rfl H2.out) ?_)
        | (refine wpList_val rfl (exec_load (t := 42) (v := VaV.v ⟨7, m, f, t⟩) rfl rfl LV.out) ?_)
        | (go_at_call 77; refine CR.out.mono ?_; rintro e w3 ⟨rfl, b3⟩)
        | fail)
      have z2 : b ≤ w2.heap.size := by have := HS.out.2.2.size; have := HB.out; omega
      obtain ⟨w4, l4, s4, n4, b4⟩ := FIN.out w3 ⟨7, m, f, t⟩ (HS.out.2.2.trans (b3.mono z2)) ((b3.block _ (Array.getElem?_eq_some_iff.1 HS.out.1).1).trans HS.out.1) ((b3.block _ (Array.getElem?_eq_some_iff.1 HS.out.2.1).1).trans HS.out.2.1)
      have L4 := hidMk l4
      have S4 := hidMk s4
      have N4 := hidMk (And.intro n4 b4)
      clear l4 s4 n4 b4 b3 CR LV FIN
      go_wp2_with (first
        | (refine wpList_val rfl (exec_load (t := 42) (v := VaV.v ⟨7, m, f, t⟩) rfl rfl L4.out) ?_)
        | (refine wpList_skip rfl rfl (exec_store (w2 := w4) rfl rfl rfl S4.out) ?_)
        | fail)
      refine bodyPost_ret (results_cell_row Tryd.results66 _ _ c _ _ _ _ rfl N4.out.1 Tryd.underlying42 rfl szVa) rfl ?_
      refine ⟨?_, by rw [HB.out]; exact N4.out.2⟩
      rw [sumV, if_neg]
      · rfl
      · rintro ⟨_, h⟩
        unfold rightC at h
        rw [HQ.out] at h
        cases h
    · go_enter Tryd.func66, Tryd.ntmps66
      go_upto_region 2 with (first
        | (refine wpList_run rfl (exec_boxE (t := 42) (v := VaV.v ⟨7, m, f, t⟩) (u := .pointer (some ⟨b, 0, none⟩)) (w2 := w1) rfl rfl H1.out) ?_)
        | (refine wpList_run rfl (exec_alloc (w2 := w2) rfl H2.out) ?_)
        | (refine wpList_val rfl (exec_load (t := 42) (v := VaV.v ⟨7, m, f, t⟩) rfl rfl LV.out) ?_)
        | (go_at_call 77; refine CR.out.mono ?_; rintro e w3 ⟨rfl, b3⟩)
        | fail)
      have z2 : b ≤ w2.heap.size := by have := HS.out.2.2.size; have := HB.out; omega
      have k1 := (b3.block _ (Array.getElem?_eq_some_iff.1 HS.out.1).1).trans HS.out.1
      have k2 := (b3.block _ (Array.getElem?_eq_some_iff.1 HS.out.2.1).1).trans HS.out.2.1
      have c1 : w3.cell? ⟨b, 1, none⟩ = some (.int .i64 m) := (cell_of_row _ _ 1 _ _ _ k1).trans rfl
      have f1 := frozen_of_row w3 b 1 _ _ k1
      have k1s := Go.heap_setCell_same w3 b 1 _ 42 (.int .i64 (IntKind.i64.wrap (m + n))) k1
      have k2s : (w3.setCell ⟨b, 1, none⟩ (.int .i64 (IntKind.i64.wrap (m + n)))).heap[c]? = _ := (Go.heap_setCell_other _ _ _ _ (fun e => hne e.symm)).trans k2
      have bs : Below b w (w3.setCell ⟨b, 1, none⟩ (.int .i64 (IntKind.i64.wrap (m + n)))) := (HS.out.2.2.trans (b3.mono z2)).trans (Tch.below (B := b) (show Tch (fun j => j = b) w3 (w3.setCell ⟨b, 1, none⟩ (.int .i64 (IntKind.i64.wrap (m + n)))) from ⟨rfl, rfl, rfl, by simp [World.setCell], fun j _ hj => Go.heap_setCell_other _ _ _ _ hj⟩) (Nat.le_trans z2 b3.size) (fun j e => by rw [e]; exact Nat.le_refl _))
      have ES : (Instr.storeAt 2 (.pointer (some ⟨b, 1, none⟩)) (.int .i64 (IntKind.i64.wrap (m + n)))).run Tryd.prog w3 = .ok () (w3.setCell ⟨b, 1, none⟩ (.int .i64 (IntKind.i64.wrap (m + n)))) := by go_simp
      obtain ⟨w4, l4, s4, n4, b4⟩ := FIN.out _ ⟨7, IntKind.i64.wrap (m + n), f, t⟩ bs k1s k2s
      generalize w3.setCell ⟨b, 1, none⟩ (.int .i64 (IntKind.i64.wrap (m + n))) = w5 at *
      have hsum : Hid ((binOp .add 2 (.int .i64 m) (.int .i64 n)).run Tryd.prog w3 = .ok (.int .i64 (IntKind.i64.wrap (m + n))) w3) := by
        show _ = _
        go_simp
      obtain ⟨s, hs⟩ : ∃ s, IntKind.i64.wrap (m + n) = s := ⟨_, rfl⟩
      have HSS := hidMk hs
      rw [hs] at ES l4 s4 n4 hsum
      clear hs
      have HES := hidMk ES
      have L4 := hidMk l4
      have S4 := hidMk s4
      have N4 := hidMk (And.intro n4 b4)
      clear l4 s4 n4 b4 b3 CR LV FIN ES bs k1 k2 k1s k2s f1
      go_wp2_with (first
        | (refine wpList_val rfl (exec_binOp (xv := .int .i64 m) (yv := .int .i64 n) rfl rfl rfl (by kernel_rfl) hsum.out) ?_)
        | (refine wpList_skip rfl rfl (exec_store (w2 := w5) rfl rfl rfl HES.out) ?_)
        | (refine wpList_val rfl (exec_load (t := 42) (v := VaV.v ⟨7, s, f, t⟩) rfl rfl L4.out) ?_)
        | (refine wpList_skip rfl rfl (exec_store (w2 := w4) rfl rfl rfl S4.out) ?_)
        | fail)
      refine bodyPost_ret (results_cell_row Tryd.results66 _ _ c _ _ _ _ rfl N4.out.1 Tryd.underlying42 rfl szVa) rfl ?_
      refine ⟨?_, by rw [HB.out]; exact N4.out.2⟩
      rw [sumV, if_pos ⟨rfl, HQ.out⟩, HSS.out]
      rfl
  · have e7 : (k == 7) = false := by simpa using hk
    have HK := hidMk hk
    obtain ⟨w4, l4, s4, n4, b4⟩ := FIN.out w2 ⟨k, m, f, t⟩ HS.out.2.2 HS.out.1 HS.out.2.1
    have L4 := hidMk l4
    have S4 := hidMk s4
    have N4 := hidMk (And.intro n4 b4)
    clear l4 s4 n4 b4 LV FIN RI hk
    go_enter Tryd.func66, Tryd.ntmps66
    go_wp2_with (first
      | (refine wpList_run rfl (exec_boxE (t := 42) (v := VaV.v ⟨k, m, f, t⟩) (u := .pointer (some ⟨b, 0, none⟩)) (w2 := w1) rfl rfl H1.out) ?_)
      | (refine wpList_run rfl (exec_alloc (w2 := w2) rfl H2.out) ?_)
      | (refine wpList_val rfl (exec_load (t := 42) (v := VaV.v ⟨k, m, f, t⟩) rfl rfl L4.out) ?_)
      | (refine wpList_skip rfl rfl (exec_store (w2 := w4) rfl rfl rfl S4.out) ?_)
      | fail)
    refine bodyPost_ret (results_cell_row Tryd.results66 _ _ c _ _ _ _ rfl N4.out.1 Tryd.underlying42 rfl szVa) rfl ?_
    refine ⟨?_, by rw [HB.out]; exact N4.out.2⟩
    rw [sumV, if_neg (fun h => HK.out h.1)]
    rfl
section
variable {w0 w : World} {B d : Nat} {X : Sls} {v : SlV} {pv : Value} {D : List (SlV × Sls)} {p : PlK} {sv : Value} {I : List IdK}
theorem own_val {W : World} {base : Nat} {u : Value} {L : List EnV} (o : RN.Own W base u L) (ok : ∀ x ∈ L, x.ok) {i : Nat} {x : EnV} (hx : L[i]? = some x) {y : VaV} (hy : y.ok) : ∃ g c W', u = .slice (some ⟨g, 0, none⟩) L.length c ∧ (Instr.storeAt 42 (.pointer (some ⟨g, 0 + 37 * i + 33, none⟩)) y.v).run Tryd.prog W = .ok () W' ∧ RN.Own W' base u (L.set i { x with v := y }) ∧ Tch (fun j => u.ownBlock = some j) W W' := by
  have hxo := ok x (List.mem_of_getElem? hx)
  have hl := IdK.len hxo.i
  obtain ⟨g, c, e, _, W', es, o', t', _⟩ := RowT.own_seg RN_is o ok (i := i) (y := x) (x := { x with v := y }) hx ⟨hxo.i, hy⟩ (q := 33) (n := 4) y.c rfl (by
    show x.id.c ++ y.c = (x.id.c ++ x.v.c).take 33 ++ y.c ++ (x.id.c ++ x.v.c).drop (33 + 4)
    rw [← hl, List.take_left, List.drop_of_length_le (by rw [List.length_append, VaV.len]; omega), List.append_nil]) (by decide) y.one (t := 42) (v := y.v) szVa rfl
  exact ⟨g, c, W', e, by rw [Nat.zero_add]; exact es, o', t'⟩
theorem rf_add (h : RfP B w d X v pv D) (hB : B ≤ w.heap.size) (b0 : Below w0.heap.size w0 w) (h0 : w0.heap.size ≤ B) (hn : X.length + 1 ≤ 1500000000000) (hD : D.length + 1 ≤ 2200000000000) (hp : p.ok) {m : Int} (hm : -9223372036854775808 ≤ m ∧ m ≤ 9223372036854775807) (hI : SeenL w0 sv I) :
    Calls Tryd.prog 36 #[.pointer (some ⟨d, 0, none⟩), p.v, .int .i64 m, sv] w fun e w' => e = .returned (.tuple #[]) ∧ RfO B w d X v pv D p (chs (inL I) (sumV m) (entF X p)) w' := by
  obtain ⟨wc, EA, na, bw⟩ := box_pl w p
  have bd : Below w.heap.size w wc.drew := bw.drew
  have hd := h.below bd
  obtain ⟨ps, hps⟩ := h.pastS
  have CC := hidMk (past_step hd (Nat.le_trans hB bd.size) (by omega) hD)
  have HC := hidMk hd.cell
  obtain ⟨ek, eln⟩ := ent_facts h.en p
  obtain ⟨L, hL⟩ : ∃ L, entF X p = L := ⟨_, rfl⟩
  have NXT : Hid (∀ w1, PastE B wc.drew d X v pv D w1 → Np w.heap.size p w1 ∧ SeenL w1 sv I ∧ Calls Tryd.prog 40 #[.pointer (some ⟨d, 0, none⟩), p.v] w1 (fun e w2 => ∃ u, e = .returned u ∧ RN.Own w2 w1.heap.size u L ∧ Below w1.heap.size w1 w2) ∧ ∀ w2 u, Below w1.heap.size w1 w2 → RN.Own w2 w1.heap.size u (chs (inL I) (sumV m) L) → Calls Tryd.prog 65 #[.pointer (some ⟨d, 0, none⟩), p.v, u] w2 fun e w' => e = .returned (.tuple #[]) ∧ RfO B w d X v pv D p (chs (inL I) (sumV m) L) w') := by
    rintro w1 ⟨pv2, g, r1, hk, t1, q1, n1, n2⟩
    have kp : Np w.heap.size p w1 := hd.stays t1 na (by decide) (by decide)
    have b01 : Below w0.heap.size w0 w1 := hd.ltB t1 (b0.trans (bd.mono b0.size)) h0
    have ce := rf_entries r1 (by omega) hp
    rw [hL] at ce
    refine ⟨kp, hI.below b01, ce, fun w2 u b2 ou => ?_⟩
    obtain ⟨oa, oc, eo⟩ := ou.form
    have hB1 : B ≤ w1.heap.size := Nat.le_trans hB (Nat.le_trans bd.size t1.size)
    have hlo : RN.Lo w2 B u _ := ou.lo.mono hB1
    rw [eo] at hlo ⊢
    have okc : ∀ y ∈ chs (inL I) (sumV m) L, y.ok := by
      have := cuL_ok (sn := inL I) (gv := sumV m) (fun v hv => sumV_ok hv) (L := L) (by rw [← hL]; exact ek) L.length
      rw [cuL_all _ _ (Nat.le_refl _)] at this
      exact this
    refine (rf_set (r1.below b2) (Nat.le_trans hB1 b2.size) hn hp hlo okc (by simp only [chs, List.length_map]; rw [← hL]; exact eln)).mono ?_
    rintro e w' ⟨rfl, st⟩
    rw [← eo] at st
    exact ⟨rfl, RfO.from bd (rfo_of h.ok hk t1 q1 n1 n2 b2 st (fun j hj => Nat.le_trans t1.size (ou.cells hj).1))⟩
  have HEA := hidMk EA
  rw [hL] at ek eln ⊢
  obtain ⟨n, hnn⟩ : ∃ n, L.length = n := ⟨_, rfl⟩
  have HO := hidMk (And.intro ek hnn)
  rw [hnn] at eln
  rw [hps] at CC HC NXT ⊢
  clear h hd na EA bw bd ek hps hL hnn
  go_enter Tryd.func36, Tryd.ntmps36
  go_upto_region 2 with (first
    | (refine wpList_run rfl (exec_boxE (t := 52) (v := p.v) (u := .pointer (some ⟨w.heap.size, 0, none⟩)) (w2 := wc) rfl rfl HEA.out) ?_)
    | fail)
  refine rad2 (d := d) (pv := ps.v) (sv := v.v) (fun W => W.heap[d]? = some (.cells #[v.v, ps.v] 88 (0, 0))) (PastE B wc.drew d X v ps.v D) _ wc _ rfl rfl HC.out (fun W hW => ld_past hW) (fun W hW => ld_slots hW) CC.out ?_
  intro u bv pv2 a' w1 hf ha
  subst ha
  simp only [Act.put, List.setIfInBounds_toArray, List.set_cons_zero, List.set_cons_succ]
  have HN := hidMk (NXT.out w1 hf)
  clear hf NXT CC HC HEA
  go_upto_region 3 with fail
  refine rad3 (d := d) (pb := w.heap.size) (p := p) (fun u w2 => RN.Own w2 w1.heap.size u L ∧ Below w1.heap.size w1 w2) _ w1 _ rfl rfl rfl (fun W e => by rw [e]; exact ld_pl hp (rng_cells HN.out.1)) HN.out.2.2.1 ?_
  intro u2 a' w2 hf ha
  subst ha
  simp only [Act.put, List.setIfInBounds_toArray, List.set_cons_zero, List.set_cons_succ]
  obtain ⟨oa, oc, eo⟩ := hf.1.form
  have H2 := hidMk hf
  clear hf
  subst eo
  rw [HO.out.2] at H2 ⊢
  go_wp2
  go_loopw [9] (fun v9 wr => ∃ i : Nat, v9 = .int .i64 (i : Int) ∧ i ≤ n ∧ Hid (RN.Own wr w1.heap.size (.slice oa n oc) (cuL (inL I) (sumV m) L i) ∧ Below w1.heap.size w1 wr)) (fun v9 wr => n - (match v9 with | .int _ i => i.toNat | _ => 0))
  case atStart => exact ⟨0, rfl, Nat.zero_le _, by rw [cuL_zero]; exact H2.out.1, H2.out.2⟩
  case round =>
    clear H2
    obtain ⟨i, rfl, hin, HI⟩ := hrel
    by_cases hi : i < n
    · obtain ⟨x, hxi⟩ : ∃ x, L[i]? = some x := ⟨_, List.getElem?_eq_getElem (by have := HO.out.2; omega)⟩
      have hx : x.ok := HO.out.1 x (List.mem_of_getElem? hxi)
      have okc := cuL_ok (sn := inL I) (gv := sumV m) (fun v hv => sumV_ok hv) HO.out.1 i
      have hci := cuL_at (sn := inL I) (gv := sumV m) hxi
      obtain ⟨ga, gc, ee, hat, _⟩ := HI.out.1.open RN_is okc
      obtain ⟨ea1, ea2⟩ : oa = ga ∧ oc = gc := by injection ee with e1 _ e3; exact ⟨e1, e3⟩
      subst ea1 ea2
      obtain ⟨g, o, rfl, lg, hr⟩ : ∃ g o, oa = some ⟨g, o, none⟩ ∧ g < wr.heap.size ∧ wr.rangeAt g (o + 37 * i) x.c := by
        rcases hat with h | ⟨g, o, e, h1, h2⟩
        · rw [h] at hci; cases hci
        · exact ⟨g, o, e, h1, h2 i x hci⟩
      have h63 : n ≤ 9223372036854775807 := by omega
      have CS : Hid (Calls Tryd.prog 33 #[sv, x.id.v] wr fun e w' => e = .returned (.bool (inL I x)) ∧ Below wr.heap.size wr w') := (HN.out.2.1.below HI.out.2).saw hx.i
      have HX := hidMk (And.intro hxi (And.intro hx (And.intro hr (And.intro lg (And.intro okc hci)))))
      clear hxi hx okc hci hat ee hr lg
      go_upto_region 7 with fail
      refine rad7 (g := g) (o := o) (n := n) (c := oc) (i := i) (x := x) (sv := sv) (r := inL I x) (fun w' => Below wr.heap.size wr w') _ wr _ rfl rfl rfl rfl hi h63 (fun W e => by rw [e]; exact en_id HX.out.2.1 HX.out.2.2.1) CS.out ?_
      intro a' w3 hf ha
      subst ha
      simp only [Act.put, List.setIfInBounds_toArray, List.set_cons_zero, List.set_cons_succ]
      have B3 := hidMk hf
      clear hf CS
      by_cases hs : inL I x = true
      · have HS := hidMk hs
        rw [hs]
        clear hs
        have CV : Hid (Calls Tryd.prog 66 #[x.v.v, .int .i64 m] w3 fun e w' => e = .returned (sumV m x.v).v ∧ ∃ w5, (Instr.storeAt 42 (.pointer (some ⟨g, o + 37 * i + 33, none⟩)) (sumV m x.v).v).run Tryd.prog w' = .ok () w5 ∧ (RN.Own w5 w1.heap.size (.slice (some ⟨g, o, none⟩) n oc) (cuL (inL I) (sumV m) L (i + 1)) ∧ Below w1.heap.size w1 w5)) := by
          refine (rsum_any HX.out.2.1.w hm w3).mono ?_
          rintro e w' ⟨rfl, b⟩
          have b3' := B3.out.trans (b.mono B3.out.size)
          have own' := HI.out.1.below b3'
          obtain ⟨g', c', w5, eg, es, o5, t5⟩ := own_val own' HX.out.2.2.2.2.1 HX.out.2.2.2.2.2 (sumV_ok HX.out.2.1.w)
          have eg2 : some (⟨g, o, none⟩ : Addr) = some ⟨g', 0, none⟩ := by injection eg
          injection eg2 with eg2
          injection eg2 with e1 e2
          subst e1 e2
          refine ⟨rfl, w5, es, ?_, ?_⟩
          · rw [cuL_succ HX.out.1, if_pos HS.out]
            exact o5
          · have bb := HI.out.2.trans (b3'.mono HI.out.2.size)
            exact bb.trans (t5.below bb.size (fun j e => (own'.cells e).1))
        have LW := hidMk (en_va HX.out.2.1 (rangeAt_keep HX.out.2.2.1 (B3.out.block _ HX.out.2.2.2.1)))
        go_upto_region 8 with fail
        refine rad8 (g := g) (o := o) (n := n) (c := oc) (i := i) (m := m) (x := x) (y := sumV m x.v) (fun w5 => RN.Own w5 w1.heap.size (.slice (some ⟨g, o, none⟩) n oc) (cuL (inL I) (sumV m) L (i + 1)) ∧ Below w1.heap.size w1 w5) _ w3 _ rfl rfl rfl rfl hi h63 (fun W e => by rw [e]; exact LW.out) CV.out ?_
        intro a' w5 hf ha
        subst ha
        simp only [Act.put, List.setIfInBounds_toArray, List.set_cons_zero, List.set_cons_succ]
        have H5 := hidMk hf
        clear hf CV LW B3 HX
        go_wp2
        rw [show ((i : Int) + 1) = ((i + 1 : Nat) : Int) by omega]
        refine ⟨⟨i + 1, rfl, hi, H5.out⟩, ?_⟩
        show n - ((i + 1 : Nat) : Int).toNat < n - (i : Int).toNat
        omega
      · have HS := hidMk hs
        rw [show inL I x = false by simpa using hs]
        clear hs
        go_wp2
        rw [show ((i : Int) + 1) = ((i + 1 : Nat) : Int) by omega]
        refine ⟨⟨i + 1, rfl, hi, ?_, HI.out.2.trans (B3.out.mono HI.out.2.size)⟩, ?_⟩
        · rw [cuL_succ HX.out.1, if_neg HS.out]
          exact HI.out.1.below B3.out
        · show n - ((i + 1 : Nat) : Int).toNat < n - (i : Int).toNat
          omega
    · obtain rfl : i = n := by omega
      have HI2 : Hid (RN.Own wr w1.heap.size (.slice oa i oc) (chs (inL I) (sumV m) L) ∧ Below w1.heap.size w1 wr) := by
        have h2 := HI.out
        rw [cuL_all _ _ (by have := HO.out.2; omega)] at h2
        exact h2
      have CS := hidMk (HN.out.2.2.2 wr _ HI2.out.2 HI2.out.1)
      have kp : Np w.heap.size p wr := HN.out.1.below HI2.out.2
      have LP := hidMk (ld_pl hp (rng_cells kp))
      clear HI HI2 HN kp hin hi
      go_upto_region 9 with fail
      refine rad9 (d := d) (pb := w.heap.size) (lv := .slice oa i oc) (p := p) (RfO B w d X v ps.v D p (chs (inL I) (sumV m) L)) _ wr _ rfl rfl rfl rfl (fun W e => by rw [e]; exact LP.out) CS.out ?_
      intro a' w5 hf ha
      subst ha
      simp only [Act.put, List.setIfInBounds_toArray, List.set_cons_zero, List.set_cons_succ]
      have HF := hidMk hf
      clear hf CS LP
      go_wp2
      go_end0
      exact ⟨rfl, HF.out⟩
end
theorem sl_ps {g n c k : Nat} (hk : k ≤ c) (W : World) : (Instr.sliceAt 86 (.slice (some ⟨g, 0, none⟩) n c) none (some (.int .i64 (k : Int))) none).run Tryd.prog W = .ok (.slice (some ⟨g, 0, none⟩) k c) W := by
  have h1 : (0 : Int) ≤ (k : Int) ∧ (k : Int) ≤ (c : Int) := by omega
  have hs : (sizeOf 85).run Tryd.prog W = .ok 1 W := by kernel_rfl
  simp only [Instr.sliceAt, Instr.slice, Instr.sliceBounds, Instr.sliceBound, run_underlying Tryd.underlying86, asIntOf, Sem.run_bind, Sem.run_pure, Result.andThen_ok, hs]
  rw [if_pos h1]
  simp only [Sem.run_bind, Sem.run_pure, Result.andThen_ok, Int.toNat_natCast]
  simp [Addr.add]
theorem ld_slv {W : World} {g k : Nat} {s : SlV} (h : W.cell? ⟨g, k, none⟩ = some s.v) : (Instr.loadAt 85 (.pointer (some ⟨g, k, none⟩))).run Tryd.prog W = .ok s.v W := by
  have hc : W.cell? ⟨g, k, none⟩ = some (.slice s.a s.n s.c) := h
  clear h
  have : (Instr.loadAt 85 (.pointer (some ⟨g, k, none⟩))).run Tryd.prog W = .ok (.slice s.a s.n s.c) W := by go_simp
  exact this
theorem rf_undo_ok {B : Nat} {w : World} {d : Nat} {X : Sls} {v : SlV} {pv : Value} {D : List (SlV × Sls)} {h1 : SlV × Sls} (h : RfP B w d X v pv (D ++ [h1])) (hn : D.length + 1 ≤ 2200000000000) :
    Calls Tryd.prog 68 #[.pointer (some ⟨d, 0, none⟩), .int .i64 ((D.length + 1 : Nat) : Int)] w fun e w' => e = .returned (.int .i64 0) ∧ ∃ pv2, RfP B w' d h1.2 h1.1 pv2 D ∧ Tch (fun j => j = d) w w' ∧ pv2.ownBlock = pv.ownBlock := by
  have hp := h.past
  rcases hp.2 with ⟨_, hz⟩ | ⟨g, cap, cur, epv, hbg, hg, hnc, hcm, hcs, htake⟩
  · simp at hz
  have hlen : ((D ++ [h1]).map (·.1.v)).length = D.length + 1 := by simp
  rw [hlen] at epv hnc htake
  rw [Nat.mul_one] at htake
  have hcell : w.cell? ⟨g, D.length, none⟩ = some h1.1.v := by
    rw [cell_of_row w g _ cur _ _ hg]
    have h2 : ((D ++ [h1]).map (·.1.v))[D.length]? = some h1.1.v := by simp
    rw [← htake, List.getElem?_take, if_pos (by omega)] at h2
    simpa using h2
  have gd : g ≠ d := fun e => by
    rw [e] at hg
    have := two_types hg h.cell
    revert this; decide
  obtain ⟨w1, E1, c1, t1⟩ := st_slots (sv := h1.1) h.cell ⟨v, rfl⟩
  have hpv1 : ∃ s : SlV, pv = s.v := ⟨⟨_, _, _⟩, epv⟩
  obtain ⟨w2, E2, c2, t2⟩ := st_past (s2 := ⟨some ⟨g, 0, none⟩, D.length, cap⟩) c1 hpv1
  have tt : Tch (fun j => j = d) w w2 := t1.trans' t2 (fun j _ e => e)
  have ks : ∀ {j : Nat} {c : Array Value} {ty : TypeId} {f : Nat × Nat}, w.heap[j]? = some (.cells c ty f) → ty ≠ 88 → w2.heap[j]? = w.heap[j]? := fun hj hne => tt.block _ (Array.getElem?_eq_some_iff.1 hj).1 (fun e => by rw [e] at hj; exact hne (two_types hj h.cell))
  have kR : ∀ {u : Value} {Z : List (PlK × SlV)}, RT.Own w B u Z → RT.Own w2 B u Z := fun hu => hu.keep (fun j hj => by
    obtain ⟨_, c4, hc4⟩ := hu.cells hj
    exact ks hc4 (by decide))
  have kS : ∀ {Z : Sls}, SlsAt w B Z → SlsAt w2 B Z := fun hZ q hq => ⟨(hZ q hq).1.keep (fun j hj => by
    obtain ⟨_, c4, hc4⟩ := (hZ q hq).1.cells hj
    exact ks hc4 (by decide)), (hZ q hq).2⟩
  have FIN : Hid (∃ pv2, RfP B w2 d h1.2 h1.1 pv2 D ∧ Tch (fun j => j = d) w w2 ∧ pv2.ownBlock = pv.ownBlock) := by
    have hh := h.ph h1 (by simp)
    have hap := h.ap2
    rw [List.pairwise_append] at hap
    refine ⟨.slice (some ⟨g, 0, none⟩) D.length cap, ⟨c2, kR hh.1, kS hh.2.1, ⟨by simp, .inr ⟨g, cap, cur, by simp, hbg, (ks hg (by decide)).trans hg, by rw [List.length_map]; omega, hcm, hcs, ?_⟩⟩, fun q hq => ?_, h.dB, fun q hq j hj => hap.2.2 q hq h1 (by simp) j hj, hap.1, hh.2.2⟩, tt, by rw [epv]; rfl⟩
    · rw [List.length_map, Nat.mul_one]
      have h3 := congrArg (List.take D.length) htake
      rw [List.take_take, Nat.min_eq_left (by omega)] at h3
      rw [h3, List.map_append, List.take_left' (by simp)]
    · have := h.ph q (by simp [hq])
      exact ⟨kR this.1, kS this.2.1, this.2.2⟩
  obtain ⟨k, hk⟩ : ∃ k, D.length = k := ⟨_, rfl⟩
  have L1 : Hid ((Instr.loadAt 86 (.pointer (some ⟨d, 0 + 1, none⟩))).run Tryd.prog w = .ok (.slice (some ⟨g, 0, none⟩) (k + 1) cap) w) := by
    have hc := h.cell
    rw [epv, hk] at hc
    exact ld_past (s := ⟨some ⟨g, 0, none⟩, k + 1, cap⟩) hc
  have L2 : Hid ((Instr.loadAt 85 (.pointer (some ⟨g, 0 + k, none⟩))).run Tryd.prog w = .ok h1.1.v w) := by
    rw [hk] at hcell
    rw [Nat.zero_add]
    exact ld_slv hcell
  have L3 : Hid ((Instr.loadAt 86 (.pointer (some ⟨d, 0 + 1, none⟩))).run Tryd.prog w1 = .ok (.slice (some ⟨g, 0, none⟩) (k + 1) cap) w1) := by
    have hc := c1
    rw [epv, hk] at hc
    exact ld_past (s := ⟨some ⟨g, 0, none⟩, k + 1, cap⟩) hc
  have cc : w.cell? ⟨d, 1, none⟩ = some (.slice (some ⟨g, 0, none⟩) (k + 1) cap) := by
    have hc := h.cell
    rw [epv, hk] at hc
    exact (cell_of_row w d 1 _ _ _ hc).trans rfl
  have HE1 := hidMk E1
  have HE2 : Hid ((Instr.storeAt 86 (.pointer (some ⟨d, 0 + 1, none⟩)) (.slice (some ⟨g, 0, none⟩) k cap)).run Tryd.prog w1 = .ok () w2) := by rw [← hk]; exact E2
  have hkc : k ≤ cap := by omega
  rw [hk] at hn ⊢
  clear h hp E1 E2 c1 c2 t1 t2 tt ks kR kS hpv1 gd hcell htake hg epv hnc hcs hcm hbg hlen hk
  have hne : ((k : Int) + 1 != (k : Int) + 1) = false := by simp
  have hlt : ¬ ((k : Int) + 1 < 1) := by omega
  go_enter Tryd.func68, Tryd.ntmps68
  obtain ⟨n, hkn⟩ : ∃ n, k + 1 = n := ⟨_, rfl⟩
  rw [hkn] at cc L1 L3 ⊢
  have hne2 : ((n : Int) != (n : Int)) = false := by simp
  have hlt2 : ¬ ((n : Int) < 1) := by omega
  clear hne hlt
  go_upto_region 5 with fail
  clear cc hne2 hlt2
  refine run5 (d := d) (g := g) (o := 0) (n := n) (c := cap) (k := k) (u := h1.1.v) (w1 := w1) _ w _ rfl rfl rfl hkn (by omega) (by omega) (by omega) (fun W e => by rw [e]; exact L1.out) (fun W e => by rw [e]; exact L2.out) HE1.out ?_
  intro a' w3 hf ha
  subst ha
  obtain rfl : w1 = w3 := hf.symm
  simp only [Act.put, List.setIfInBounds_toArray, List.set_cons_zero, List.set_cons_succ]
  clear L1 L2 HE1
  go_upto_region 6 with fail
  refine run6 (d := d) (g := g) (o := 0) (n := n) (c := cap) (k := k) (pv2 := .slice (some ⟨g, 0, none⟩) k cap) (w1 := w2) _ w1 _ rfl rfl rfl hkn (by omega) (fun W e => by rw [e]; exact L3.out) (fun W => sl_ps hkc W) HE2.out ?_
  intro a' w3 hf ha
  subst ha
  obtain rfl : w2 = w3 := hf.symm
  simp only [Act.put, List.setIfInBounds_toArray, List.set_cons_zero, List.set_cons_succ]
  clear L3 HE2
  go_wp2
  go_ret
  exact ⟨rfl, FIN.out⟩
theorem rf_top {B : Nat} {w : World} {d : Nat} {X : Sls} {v : SlV} {pv : Value} {D : List (SlV × Sls)} (h : RfP B w d X v pv D) (hn : X.length ≤ 1500000000000) {p : PlK} (hp : p.ok) :
    Calls Tryd.prog 43 #[.pointer (some ⟨d, 0, none⟩), p.v] w fun e w' => e = .returned (.tuple #[((entF X p).getLast?.getD zEn).a, .bool (!(entF X p).isEmpty)]) ∧ Below w.heap.size w w' := by
  obtain ⟨w1, E1, n1, b1⟩ := box_pl w p
  obtain ⟨w2, E2, n2, b2⟩ := en_box w1
  have b12 := b1.trans (b2.mono b1.size)
  have n12 := (b2.block _ (Array.getElem?_eq_some_iff.1 n1).1).trans n1
  have CE := hidMk (rf_entries (h.below b12) hn hp)
  obtain ⟨ek, eln⟩ := ent_facts h.en p
  have H1 := hidMk E1
  have H2 := hidMk E2
  have LP := hidMk (ld_pl hp (rng_cells n12))
  have HB := hidMk (And.intro b12 (And.intro n2 b1))
  obtain ⟨L, hL⟩ : ∃ L, entF X p = L := ⟨_, rfl⟩
  rw [hL] at ek eln CE ⊢
  clear h E1 E2 b1 b2 b12 n1 n2 n12 hL
  go_enter Tryd.func43, Tryd.ntmps43
  go_upto_region 1 with (first
    | (refine wpList_run rfl (exec_boxE (t := 52) (v := p.v) (u := .pointer (some ⟨w.heap.size, 0, none⟩)) (w2 := w1) rfl rfl H1.out) ?_)
    | (refine wpList_run rfl (exec_alloc (w2 := w2) rfl H2.out) ?_)
    | fail)
  refine rto1 (d := d) (pb := w.heap.size) (p := p) (fun u w' => RN.Own w' w2.heap.size u L ∧ Below w2.heap.size w2 w') _ w2 _ rfl rfl rfl (fun W e => by rw [e]; exact LP.out) CE.out ?_
  intro u a' w3 hf ha
  subst ha
  simp only [Act.put, List.setIfInBounds_toArray, List.set_cons_zero, List.set_cons_succ]
  obtain ⟨oa, oc, eo, hat, _⟩ := hf.1.open RN_is ek
  subst eo
  have bx3 : RN.Bx w3 w1.heap.size zEn := HB.out.2.1.below hf.2
  have bel3 : Below w.heap.size w w3 := HB.out.1.trans (hf.2.mono HB.out.1.size)
  have z1 : w.heap.size ≤ w1.heap.size := HB.out.2.2.size
  rcases List.eq_nil_or_concat L with rfl | ⟨M, z, hMz⟩
  · obtain ⟨w4, E4, n4, t4⟩ := en_put zEn_ok zEn_ok bx3
    have HE := hidMk E4
    have HF := hidMk (And.intro n4 (bel3.trans (t4.below bel3.size (fun j e => by rw [e]; exact z1))))
    clear E4 n4 t4 bx3 bel3 hf hat CE LP H1 H2 ek eln
    go_upto_region 3 with fail
    refine rto3 (eb := w1.heap.size) (w1 := w4) _ w3 _ rfl rfl HE.out ?_
    intro a' w5 hf ha
    subst ha
    obtain rfl : w4 = w5 := hf.symm
    simp only [Act.put, List.setIfInBounds_toArray, List.set_cons_zero, List.set_cons_succ]
    clear HE
    go_wp2
    refine bodyPost_ret (results_c2 rfl rfl (loadVar_en zEn_ok HF.out.1)) rfl ?_
    exact ⟨rfl, HF.out.2⟩
  · rw [List.concat_eq_append] at hMz
    subst hMz
    have hz : z.ok := ek z (by simp)
    have e1 : (M ++ [z]).getLast?.getD zEn = z := by simp
    have e2 : (!(M ++ [z]).isEmpty) = true := by simp
    have E12 := hidMk (And.intro e1 e2)
    obtain ⟨g, o, rfl, lg, hr⟩ : ∃ g o, oa = some ⟨g, o, none⟩ ∧ g < w3.heap.size ∧ w3.rangeAt g (o + 37 * M.length) z.c := by
      rcases hat with h | ⟨g, o, e, h1, h2⟩
      · simp at h
      · exact ⟨g, o, e, h1, h2 M.length z (by simp)⟩
    obtain ⟨w4, E4, n4, t4⟩ := en_put zEn_ok hz bx3
    have HE := hidMk E4
    have HF := hidMk (And.intro n4 (bel3.trans (t4.below bel3.size (fun j e => by rw [e]; exact z1))))
    have LX := hidMk (ld_en hz hr)
    obtain ⟨n, hnn⟩ : ∃ n, (M ++ [z]).length = n := ⟨_, rfl⟩
    have hd : M.length + 1 = n := by rw [← hnn]; simp
    rw [hnn] at eln ⊢
    have hpos : ((n : Int) == 0) = false := by simp; omega
    clear E4 n4 t4 bx3 bel3 hf hat CE LP H1 H2 ek hr lg e1 e2 hnn
    go_upto_region 4 with fail
    clear hpos
    refine rto4 (eb := w1.heap.size) (g := g) (o := o) (n := n) (lc := oc) (d := M.length) (x := z) (w1 := w4) _ w3 _ rfl rfl rfl hd (by omega) (by omega) (by omega) (fun W e => by rw [e]; exact LX.out) HE.out ?_
    intro a' w5 hf ha
    subst ha
    obtain rfl : w4 = w5 := hf.symm
    simp only [Act.put, List.setIfInBounds_toArray, List.set_cons_zero, List.set_cons_succ]
    clear HE LX
    go_wp2
    refine bodyPost_ret (results_c2 rfl rfl (loadVar_en hz HF.out.1)) rfl ?_
    refine ⟨?_, HF.out.2⟩
    rw [E12.out.2]
    rfl
end Go.Proofs.YtldlljobofnmmaaDoor
namespace Go.Proofs.YtldlljobofnmmaaDoor
open Go.Shelf
def keysA_ren : Go.Shelf.Ren := ⟨fun | 7 => 62 | 10 => 76 | n => n, fun | 23 => 97 | 26 => 9 | 3 => 99 | 28 => 115 | 0 => 0 | 27 => 114 | 33 => 128 | 4 => 4 | n => n, fun | n => n⟩
theorem keysA : Go.Proofs.SlLaysZ.n7 Tryd.prog keysA_ren := {
  mixed := by kernel_rfl
  f7 := ⟨Tryd.f62.name, by decide, Tryd.func62.trans (congrArg some (by kernel_rfl))⟩
  f10 := ⟨Tryd.f76.name, by decide, Tryd.func76.trans (congrArg some (by kernel_rfl))⟩
  t0 := Tryd.underlying0
  a0 := Tryd.isAgg0
  z0 := Tryd.sizeOf0
  v0 := Tryd.zeroValue0
  t4 := Tryd.underlying4
  a4 := Tryd.isAgg4
  z4 := Tryd.sizeOf4
  v4 := Tryd.zeroValue4
  t23 := Tryd.underlying97
  a23 := Tryd.isAgg97
  z23 := Tryd.sizeOf97
  v23 := Tryd.zeroValue97
  t26 := Tryd.underlying9
  a26 := Tryd.isAgg9
  z26 := Tryd.sizeOf9
  v26 := Tryd.zeroValue9
  t27 := Tryd.underlying114
  a27 := Tryd.isAgg114
  z27 := Tryd.sizeOf114
  v27 := Tryd.zeroValue114
  t28 := Tryd.underlying115
  a28 := Tryd.isAgg115
  z28 := Tryd.sizeOf115
  v28 := Tryd.zeroValue115
  t33 := Tryd.underlying128
  a33 := Tryd.isAgg128
  z33 := Tryd.sizeOf128
  v33 := Tryd.zeroValue128 }
def sortedA_ren : Go.Shelf.Ren := ⟨fun | 6 => 61 | 8 => 74 | 9 => 75 | 11 => 81 | 13 => 83 | 12 => 82 | 23 => 98 | 24 => 99 | 14 => 89 | 15 => 90 | 16 => 91 | 17 => 92 | 18 => 93 | 19 => 94 | 20 => 95 | 21 => 96 | 22 => 97 | 25 => 102 | 26 => 103 | 27 => 104 | 28 => 105 | 29 => 106 | 30 => 107 | 31 => 110 | n => n, fun | 26 => 9 | 28 => 115 | 24 => 67 | 0 => 0 | 3 => 3 | 37 => 117 | 48 => 151 | 50 => 129 | 4 => 4 | 40 => 143 | 39 => 142 | 45 => 148 | 5 => 5 | 9 => 9 | 51 => 155 | 55 => 159 | 57 => 163 | 58 => 164 | 33 => 128 | n => n, fun | n => n⟩
theorem sortedA : Go.Proofs.SlLaysZ.n6 Tryd.prog sortedA_ren := {
  mixed := by kernel_rfl
  f6 := ⟨Tryd.f61.name, by decide, Tryd.func61.trans (congrArg some (by kernel_rfl))⟩
  f8 := ⟨Tryd.f74.name, by decide, Tryd.func74.trans (congrArg some (by kernel_rfl))⟩
  f11 := ⟨Tryd.f81.name, by decide, Tryd.func81.trans (congrArg some (by kernel_rfl))⟩
  t0 := Tryd.underlying0
  a0 := Tryd.isAgg0
  z0 := Tryd.sizeOf0
  v0 := Tryd.zeroValue0
  t24 := Tryd.underlying67
  a24 := Tryd.isAgg67
  z24 := Tryd.sizeOf67
  v24 := Tryd.zeroValue67
  t26 := Tryd.underlying9
  a26 := Tryd.isAgg9
  z26 := Tryd.sizeOf9
  v26 := Tryd.zeroValue9
  t28 := Tryd.underlying115
  a28 := Tryd.isAgg115
  z28 := Tryd.sizeOf115
  v28 := Tryd.zeroValue115
  i26 := by kernel_rfl }
def sortA_ren : Go.Shelf.Ren := ⟨fun | 6 => 75 | 8 => 83 | 9 => 82 | 19 => 98 | 20 => 99 | 21 => 89 | 22 => 90 | 23 => 91 | 24 => 92 | 25 => 93 | 26 => 94 | 27 => 95 | 28 => 96 | 29 => 97 | 36 => 102 | 31 => 103 | 32 => 104 | 37 => 105 | 38 => 106 | 39 => 107 | 41 => 110 | n => n, fun | 27 => 67 | 29 => 9 | 3 => 3 | 32 => 117 | 26 => 67 | 0 => 0 | 44 => 151 | 46 => 129 | 4 => 4 | 36 => 143 | 35 => 142 | 41 => 148 | 5 => 5 | 9 => 9 | 53 => 155 | 57 => 159 | 63 => 163 | 64 => 164 | n => n, fun | n => n⟩
theorem sortA : Go.Proofs.SlLaysM.n6 Tryd.prog sortA_ren := {
  mixed := by kernel_rfl
  f6 := ⟨Tryd.f75.name, by decide, Tryd.func75.trans (congrArg some (by kernel_rfl))⟩
  f8 := Tryd.func83.trans (congrArg some (by kernel_rfl))
  f9 := ⟨Tryd.f82.name, by decide, Tryd.func82.trans (congrArg some (by kernel_rfl))⟩
  f19 := Tryd.func98.trans (congrArg some (by kernel_rfl))
  f20 := Tryd.func99.trans (congrArg some (by kernel_rfl))
  f21 := ⟨Tryd.f89.name, by decide, Tryd.func89.trans (congrArg some (by kernel_rfl))⟩
  f22 := ⟨Tryd.f90.name, by decide, Tryd.func90.trans (congrArg some (by kernel_rfl))⟩
  f23 := ⟨Tryd.f91.name, by decide, Tryd.func91.trans (congrArg some (by kernel_rfl))⟩
  f24 := ⟨Tryd.f92.name, by decide, Tryd.func92.trans (congrArg some (by kernel_rfl))⟩
  f25 := ⟨Tryd.f93.name, by decide, Tryd.func93.trans (congrArg some (by kernel_rfl))⟩
  f26 := ⟨Tryd.f94.name, by decide, Tryd.func94.trans (congrArg some (by kernel_rfl))⟩
  f27 := ⟨Tryd.f95.name, by decide, Tryd.func95.trans (congrArg some (by kernel_rfl))⟩
  f28 := ⟨Tryd.f96.name, by decide, Tryd.func96.trans (congrArg some (by kernel_rfl))⟩
  f29 := ⟨Tryd.f97.name, by decide, Tryd.func97.trans (congrArg some (by kernel_rfl))⟩
  f31 := Tryd.func103.trans (congrArg some (by kernel_rfl))
  f32 := Tryd.func104.trans (congrArg some (by kernel_rfl))
  f36 := ⟨Tryd.f102.name, by decide, Tryd.func102.trans (congrArg some (by kernel_rfl))⟩
  f37 := ⟨Tryd.f105.name, by decide, Tryd.func105.trans (congrArg some (by kernel_rfl))⟩
  f38 := ⟨Tryd.f106.name, by decide, Tryd.func106.trans (congrArg some (by kernel_rfl))⟩
  f39 := ⟨Tryd.f107.name, by decide, Tryd.func107.trans (congrArg some (by kernel_rfl))⟩
  f41 := ⟨Tryd.f110.name, by decide, Tryd.func110.trans (congrArg some (by kernel_rfl))⟩
  t0 := Tryd.underlying0
  a0 := Tryd.isAgg0
  z0 := Tryd.sizeOf0
  v0 := Tryd.zeroValue0
  t3 := Tryd.underlying3
  a3 := Tryd.isAgg3
  z3 := Tryd.sizeOf3
  v3 := Tryd.zeroValue3
  t4 := Tryd.underlying4
  a4 := Tryd.isAgg4
  z4 := Tryd.sizeOf4
  v4 := Tryd.zeroValue4
  t5 := Tryd.underlying5
  a5 := Tryd.isAgg5
  z5 := Tryd.sizeOf5
  v5 := Tryd.zeroValue5
  t9 := Tryd.underlying9
  a9 := Tryd.isAgg9
  z9 := Tryd.sizeOf9
  v9 := Tryd.zeroValue9
  t26 := Tryd.underlying67
  a26 := Tryd.isAgg67
  z26 := Tryd.sizeOf67
  v26 := Tryd.zeroValue67
  t27 := Tryd.underlying67
  a27 := Tryd.isAgg67
  z27 := Tryd.sizeOf67
  v27 := Tryd.zeroValue67
  t29 := Tryd.underlying9
  a29 := Tryd.isAgg9
  z29 := Tryd.sizeOf9
  v29 := Tryd.zeroValue9
  t32 := Tryd.underlying117
  a32 := Tryd.isAgg117
  z32 := Tryd.sizeOf117
  v32 := Tryd.zeroValue117
  t35 := Tryd.underlying142
  a35 := Tryd.isAgg142
  z35 := Tryd.sizeOf142
  v35 := Tryd.zeroValue142
  t36 := Tryd.underlying143
  a36 := Tryd.isAgg143
  z36 := Tryd.sizeOf143
  v36 := Tryd.zeroValue143
  t41 := Tryd.underlying148
  a41 := Tryd.isAgg148
  z41 := Tryd.sizeOf148
  v41 := Tryd.zeroValue148
  t44 := Tryd.underlying151
  a44 := Tryd.isAgg151
  z44 := Tryd.sizeOf151
  v44 := Tryd.zeroValue151
  t46 := Tryd.underlying129
  a46 := Tryd.isAgg129
  z46 := Tryd.sizeOf129
  v46 := Tryd.zeroValue129
  t53 := Tryd.underlying155
  a53 := Tryd.isAgg155
  z53 := Tryd.sizeOf155
  v53 := Tryd.zeroValue155
  t57 := Tryd.underlying159
  a57 := Tryd.isAgg159
  z57 := Tryd.sizeOf159
  v57 := Tryd.zeroValue159
  t63 := Tryd.underlying163
  a63 := Tryd.isAgg163
  z63 := Tryd.sizeOf163
  v63 := Tryd.zeroValue163
  t64 := Tryd.underlying164
  a64 := Tryd.isAgg164
  z64 := Tryd.sizeOf164
  v64 := Tryd.zeroValue164 }
end Go.Proofs.YtldlljobofnmmaaDoor
namespace Go.Proofs.YtldlljobofnmmaaDoor
open Go.RowKit
set_option linter.unusedVariables false
set_option linter.unusedSimpArgs false
theorem ix_txs {b o m c i : Nat} (hi : i < m) (hm : m ≤ 9223372036854775807) (W : World) : (Instr.indexAt 67 (.slice (some ⟨b, o, none⟩) m c) (.int .i64 (i : Int))).run Tryd.prog W = .ok (.pointer (some ⟨b, o + i, none⟩)) W := by
  go_simp
theorem ex_netx {w : World} {a : Act} {o : Oper} {x y : Operand} {s : ByteArray} (ho : o.op = .binOp .neq 9 x y 9) (hx : a.eval x = .string s) (hy : a.eval y = .string s) : (execOp a.eval o).run Tryd.prog w = .ok (.value (.bool false)) w := by
  refine exec_binOp ho hx hy ?_ ?_
  · kernel_rfl
  · have : (s.toList != s.toList) = false := by simp
    go_simp
def key3_o0 : Oper := ⟨some 7, .move (.tmp 0), 26, "regs.go:158", #[], none⟩
def key3_o1 : Oper := ⟨some 8, .nilCheck (.tmp 7), 0, "regs.go:158", #[⟨0, .data⟩], none⟩
def key3_o2 : Oper := ⟨some 9, .fieldAddr 84 (.tmp 8) 1, 0, "regs.go:158", #[⟨1, .data⟩], none⟩
def key3_o3 : Oper := ⟨some 10, .load 82 (.tmp 9), 82, "regs.go:158", #[⟨2, .data⟩], none⟩
def key3_o4 : Oper := ⟨some 11, .load 38 (.tmp 3), 38, "regs.go:158", #[], none⟩
def key3_o5 : Oper := ⟨some 12, .lookup 82 (.tmp 10) (.tmp 11) false, 97, "regs.go:158", #[⟨3, .data⟩, ⟨4, .data⟩], none⟩
def key3_o6 : Oper := ⟨some 13, .call { callee := Callee.value (Operand.func 62), args := #[.tmp 12], argTypes := #[97] }, 115, "regs.go:158", #[⟨5, .data⟩], none⟩
def key3_o7 : Oper := ⟨some 14, .call { callee := Callee.value (Operand.func 61), args := #[.tmp 13], argTypes := #[115] }, 67, "regs.go:158", #[⟨6, .data⟩, ⟨6, .chain⟩], none⟩
def key3_o8 : Oper := ⟨some 4, .assign (.tmp 14), 67, "regs.go:158", #[⟨7, .data⟩, ⟨7, .chain⟩, ⟨0, .phase⟩, ⟨1, .phase⟩, ⟨2, .phase⟩, ⟨3, .phase⟩, ⟨4, .phase⟩, ⟨5, .phase⟩, ⟨6, .phase⟩, ⟨7, .phase⟩], none⟩
def key3_ops : Array Oper := #[key3_o0, key3_o1, key3_o2, key3_o3, key3_o4, key3_o5, key3_o6, key3_o7, key3_o8]
theorem key3 {rb mb ob : Nat} {y : IdK} {mv : Value} (S : World → Prop) (Fin : Value → World → Prop) (a : Act) (w : World) (Q : Exit → Act → World → Prop) (zz : a.tmps.size = 15)
    (t0 : a.tmps.getD 0 undef = .pointer (some ⟨rb, 0, none⟩))
    (t3 : a.tmps.getD 3 undef = .pointer (some ⟨ob, 0, none⟩))
    (h0 : S w.drew) (L1 : ∀ W, S W → (Instr.loadAt 82 (.pointer (some ⟨rb, 0 + 1, none⟩))).run Tryd.prog W = .ok (.map (some mb)) W) (L2 : ∀ W, S W → (Instr.loadAt 38 (.pointer (some ⟨ob, 0, none⟩))).run Tryd.prog W = .ok (y.v) W) (LK : ∀ W, S W → (Instr.lookup 82 (.map (some mb)) y.v false).run Tryd.prog W = .ok mv W) (CK : Calls Tryd.prog 62 #[mv] w.drew fun e w1 => ∃ fv, e = .returned fv ∧ S w1 ∧ Calls Tryd.prog 61 #[fv] w1 fun e w' => ∃ u, e = .returned u ∧ S w' ∧ Fin u w')
    (h : ∀ (fv u : Value) (a' : Act) (w' : World), Fin u w' → a' = (((((((((a).put (some 7) (.pointer (some ⟨rb, 0, none⟩))).put (some 8) (.pointer (some ⟨rb, 0, none⟩))).put (some 9) (.pointer (some ⟨rb, 0 + 1, none⟩))).put (some 10) (.map (some mb))).put (some 11) (y.v)).put (some 12) (mv)).put (some 13) (fv)).put (some 14) (u)).put (some 4) (u) → Q .normal a' w') :
    (Code.region 3 key3_ops true).wp Tryd.prog Q a w := by
  refine y0 (fun w' => S w') (h0) (fun hHeld => ?_)
  refine yv 0 rfl rfl (fun w1 hw => exec_move rfl (zi t0 rfl)) hHeld ?_
  refine yv 1 rfl rfl (fun w1 hw => exec_nilCheck rfl (zg zz rfl)) hHeld ?_
  refine yv 2 rfl rfl (fun w1 hw => exec_fieldAt rfl (zg zz rfl) (fg_84_1 _ _ _)) hHeld ?_
  refine yv 3 rfl rfl (fun w1 hw => exec_load rfl (zg zz rfl) (L1 _ hw)) hHeld ?_
  refine yv 4 rfl rfl (fun w1 hw => exec_load rfl (zi t3 rfl) (L2 _ hw)) hHeld ?_
  refine yv (v := mv) 5 rfl rfl (fun w1 hw => exec_lookup rfl (zg zz rfl) (zg zz rfl) (LK _ hw)) hHeld ?_
  refine yc 6 rfl rfl (exec_c1 rfl (zg zz rfl)) (CK) (fun e x6 hx => ?_)
  obtain ⟨fv, rfl, S1, CS⟩ := hx
  replace h := h fv
  refine ⟨_, rfl, S1, fun hHeld => ?_⟩
  refine yc 7 rfl rfl (exec_c1 rfl (zg zz rfl)) (CS) (fun e x7 hx => ?_)
  obtain ⟨u, rfl, S2, HF⟩ := hx
  replace h := h u
  refine ⟨_, rfl, S2, fun hHeld => ?_⟩
  refine yv 8 rfl rfl (fun w1 hw => exec_assign rfl (zg zz rfl)) hHeld ?_
  exact ye rfl (h _ _ (HF) rfl)
def smt6_o0 : Oper := ⟨some 17, .move (.tmp 0), 67, "mem.go:153", #[], none⟩
def smt6_o1 : Oper := ⟨some 18, .move (.tmp 5), 3, "mem.go:153", #[], none⟩
def smt6_o2 : Oper := ⟨some 19, .indexAddr 67 (.tmp 17) (.tmp 18), 0, "mem.go:153", #[⟨0, .data⟩, ⟨1, .data⟩], none⟩
def smt6_o3 : Oper := ⟨some 20, .load 9 (.tmp 19), 9, "mem.go:153", #[⟨2, .data⟩], none⟩
def smt6_o4 : Oper := ⟨some 21, .move (.tmp 1), 67, "mem.go:153", #[], none⟩
def smt6_o5 : Oper := ⟨some 22, .move (.tmp 5), 3, "mem.go:153", #[], none⟩
def smt6_o6 : Oper := ⟨some 23, .indexAddr 67 (.tmp 21) (.tmp 22), 0, "mem.go:153", #[⟨4, .data⟩, ⟨5, .data⟩], none⟩
def smt6_o7 : Oper := ⟨some 24, .load 9 (.tmp 23), 9, "mem.go:153", #[⟨6, .data⟩], none⟩
def smt6_o8 : Oper := ⟨some 25, .binOp BinOp.neq 9 (.tmp 20) (.tmp 24) 9, 4, "mem.go:153", #[⟨3, .data⟩, ⟨7, .data⟩], none⟩
def smt6_ops : Array Oper := #[smt6_o0, smt6_o1, smt6_o2, smt6_o3, smt6_o4, smt6_o5, smt6_o6, smt6_o7, smt6_o8]
theorem smt6 {g o n c g2 o2 d i : Nat} {s : ByteArray} (a : Act) (w : World) (Q : Exit → Act → World → Prop) (zz : a.tmps.size = 26)
    (t0 : a.tmps.getD 0 undef = .slice (some ⟨g, o, none⟩) n c)
    (t1 : a.tmps.getD 1 undef = .slice (some ⟨g2, o2, none⟩) n d)
    (t5 : a.tmps.getD 5 undef = .int .i64 (i : Int))
    (hi : i < n) (hm : n ≤ 9223372036854775807) (L1 : ∀ W, W = w.drew → (Instr.loadAt 9 (.pointer (some ⟨g, o + i, none⟩))).run Tryd.prog W = .ok (.string s) W) (L2 : ∀ W, W = w.drew → (Instr.loadAt 9 (.pointer (some ⟨g2, o2 + i, none⟩))).run Tryd.prog W = .ok (.string s) W)
    (h : ∀ (a' : Act) (w' : World), w' = w.drew → a' = (((((((((a).put (some 17) (.slice (some ⟨g, o, none⟩) n c)).put (some 18) (.int .i64 (i : Int))).put (some 19) (.pointer (some ⟨g, o + i, none⟩))).put (some 20) (.string s)).put (some 21) (.slice (some ⟨g2, o2, none⟩) n d)).put (some 22) (.int .i64 (i : Int))).put (some 23) (.pointer (some ⟨g2, o2 + i, none⟩))).put (some 24) (.string s)).put (some 25) (.bool false) → Q .normal a' w') :
    (Code.region 6 smt6_ops true).wp Tryd.prog Q a w := by
  refine y0 (fun w' => w' = w.drew) (rfl) (fun hHeld => ?_)
  refine yv 0 rfl rfl (fun w1 hw => exec_move rfl (zi t0 rfl)) hHeld ?_
  refine yv 1 rfl rfl (fun w1 hw => exec_move rfl (zi t5 rfl)) hHeld ?_
  refine yv 2 rfl rfl (fun w1 hw => exec_indexAt rfl (zg zz rfl) (zg zz rfl) (ix_txs hi hm _)) hHeld ?_
  refine yv 3 rfl rfl (fun w1 hw => exec_load rfl (zg zz rfl) (L1 _ hw)) hHeld ?_
  refine yv 4 rfl rfl (fun w1 hw => exec_move rfl (zi t1 rfl)) hHeld ?_
  refine yv 5 rfl rfl (fun w1 hw => exec_move rfl (zi t5 rfl)) hHeld ?_
  refine yv 6 rfl rfl (fun w1 hw => exec_indexAt rfl (zg zz rfl) (zg zz rfl) (ix_txs hi hm _)) hHeld ?_
  refine yv 7 rfl rfl (fun w1 hw => exec_load rfl (zg zz rfl) (L2 _ hw)) hHeld ?_
  refine yv (v := .bool false) 8 rfl rfl (fun w1 hw => ex_netx rfl (zg zz rfl) (zg zz rfl)) hHeld ?_
  exact ye rfl (h _ _ (hHeld) rfl)
end Go.Proofs.YtldlljobofnmmaaDoor
namespace Go.Proofs.YtldlljobofnmmaaDoor
open Go.RowKit Go.Maps Go.Sort Go.Shelf
set_option linter.unusedVariables false
set_option linter.unusedSimpArgs false
theorem sortsA (m : Nat) : AnyZ.SortsIn Tryd.prog sortedA_ren Fence.wide m :=
  ⟨fun blk off cap ss W hH hblk hsz => callsIn_wide.2 (AnyM.slices_Sort_string sortA blk off cap ss W hH hblk hsz),
   fun p cap W => callsIn_wide.2 (AnyM.slices_Sort_string_none sortA p cap W)⟩
def srtT (l : List ByteArray) : List (List UInt8) := (l.map (·.data.toList)).mergeSort leB
theorem srtT_perm {l l' : List ByteArray} (h : l.Perm l') : srtT l = srtT l' := mergeSort_of_perm (h.map _)
theorem srtT_len (l : List ByteArray) : (srtT l).length = l.length := by simp [srtT]
def keyL (K : List (IdK × (Nat × List ByteArray))) (o : IdK) : List ByteArray := ((M.look K o).map (·.2)).getD []
def nilR : Value → Option (DataW Unit × List MemPlace) := fun _ => some (.nil, [])
theorem own_keys {w : World} {b : Nat} {l : List ByteArray} (h : M.MapAt w b tx txOk (entS l)) (hl : l.length ≤ maxLen) : ∃ D0 : DataW Unit, w.ownsMap Tryd.prog 9 nilR b l.length D0 ∧ (strKeys D0).Perm (l.map (·.data.toList)) ∧ Maps.size D0 = l.length := by
  obtain ⟨⟨es, clock, hb, hm, hst⟩, nd, hv⟩ := h
  have hk : es.toList.map (·.key) = l.map tx := by
    have := congrArg (List.map (·.1)) hm
    rw [List.map_map, List.map_map] at this
    have e1 : (entS l).map ((fun x => x.1) ∘ fun p => (tx p.1, p.2)) = l.map tx := by simp [entS, M.onV, Function.comp_def]
    rw [e1] at this
    exact this
  have hlen : es.size = l.length := by
    have := congrArg List.length hk
    simpa using this
  have hnd : l.Nodup := by
    have e1 : (entS l).map (·.1) = l := by simp [entS, M.onV, Function.comp_def]
    rw [e1] at nd
    exact nd
  have hkey : ∀ x ∈ es.toList, ∃ k ∈ l, x.key = .string k ∧ k.size ≤ maxLen := fun x hx => by
    have : x.key ∈ l.map tx := by rw [← hk]; exact List.mem_map.2 ⟨x, hx, rfl⟩
    obtain ⟨k, hkl, e⟩ := List.mem_map.1 this
    refine ⟨k, hkl, e.symm, ?_⟩
    have := hv (k, .agg #[]) (by simp [entS, M.onV]; exact hkl)
    exact this
  have hrd : ∀ x ∈ es.toList, ∀ k : ByteArray, x.key = .string k → k.size ≤ maxLen → Go.WideElems.rd Tryd.prog 9 nilR x = some (.string k.data.toList, .nil) := fun x hx k e hs => by
    unfold Go.WideElems.rd
    rw [e, Go.WideMaps.keyOf_string_mk Tryd.underlying9 hs]
    rfl
  refine ⟨.map ((es.toList.map (Go.WideElems.rg Tryd.prog 9 nilR)).foldr DataW.insert []), ⟨es, clock, hb, ⟨by rw [hlen]; exact hl, ⟨fun x hx => hst.1 _ (List.mem_map.2 ⟨x, hx, rfl⟩), hst.2, ?_⟩, fun x hx => ?_⟩, Nat.le_of_eq hlen, rfl⟩, ?_, ?_⟩
  · rw [hk]
    exact hnd.map (f := tx) (fun a b h e => h (by injection e))
  · obtain ⟨k, _, e, hs⟩ := hkey x hx
    exact ⟨_, hrd x hx k e hs⟩
  · show (((es.toList.map (Go.WideElems.rg Tryd.prog 9 nilR)).foldr DataW.insert []).map fun p => strOf p.1).Perm _
    refine (List.Perm.map _ (Go.WideShapes.sorted_perm _)).trans ?_
    rw [List.map_map]
    have : ∀ x ∈ es.toList, ((fun p : Lit × DataW Unit => strOf p.1) ∘ Go.WideElems.rg Tryd.prog 9 nilR) x = (match x.key with | .string k => k.data.toList | _ => []) := fun x hx => by
      obtain ⟨k, _, e, hs⟩ := hkey x hx
      have hrg : Go.WideElems.rg Tryd.prog 9 nilR x = (.string k.data.toList, .nil) := by
        unfold Go.WideElems.rg
        rw [hrd x hx k e hs]
        rfl
      rw [Function.comp_apply, hrg, e]
      rfl
    refine List.Perm.trans (List.Perm.of_eq (List.map_congr_left this)) ?_
    have e2 : es.toList.map (fun x => match x.key with | .string k => k.data.toList | _ => []) = (es.toList.map (·.key)).map (fun v => match v with | .string k => k.data.toList | _ => []) := by rw [List.map_map]; rfl
    rw [e2, hk, List.map_map]
    exact List.Perm.refl _
  · show ((es.toList.map (Go.WideElems.rg Tryd.prog 9 nilR)).foldr DataW.insert []).length = l.length
    rw [(Go.WideShapes.sorted_perm _).length_eq, List.length_map]
    simpa using hlen
theorem enc_own {w : World} {base : Nat} {v : Value} {ss : List (List UInt8)} {n : Nat} (hn : n = ss.length) (h : w.ownsRow base 9 1 v n (ss.map encStr)) : OwnV w base 9 v (ss.map encStr) := by
  unfold OwnV
  rw [List.length_map, ← hn]
  exact h
theorem keys_two {w : World} {b : Nat} {l : List ByteArray} {im : Option Nat} (h : (im = none ∧ l = []) ∨ (im = some b ∧ M.MapAt w b tx txOk (entS l))) (hl : l.length ≤ 8000000000000) (S : World → Prop) (hS : ∀ W, Below w.heap.size w W → S W) :
    Calls Tryd.prog 62 #[.map im] w fun e w1 => ∃ fv, e = .returned fv ∧ S w1 ∧ Calls Tryd.prog 61 #[fv] w1 fun e w' => ∃ u, e = .returned u ∧ S w' ∧ (OwnV w' w.heap.size 9 u ((srtT l).map encStr) ∧ Below w.heap.size w w') := by
  have cK : Calls Tryd.prog 62 #[.map im] w fun e w' => e = .returned (.func (.func 76) #[] #[.pointer (some ⟨w.heap.size, 0, none⟩)]) ∧ w' = w.alloc (.cells #[.map im] 97) := callsIn_wide.1 (AnyZ.keys_in keysA Fence.wide 5 trivial rfl im w)
  refine cK.mono ?_
  rintro e w1 ⟨rfl, rfl⟩
  have b1 : Below w.heap.size w (w.alloc (.cells #[.map im] 97)) := (Below.refl _ _).alloc (Nat.le_refl _) _
  refine ⟨_, rfl, hS _ b1, ?_⟩
  rcases h with ⟨rfl, rfl⟩ | ⟨rfl, hm⟩
  · have hseq : SeqGives Fence.wide 2 Tryd.prog 76 #[.pointer (some ⟨w.heap.size, 0, none⟩)] encStr (fun ss : List (List UInt8) => ss = []) 0 (w.alloc (.cells #[.map none] 97)) :=
      AnyZ.keys_gives_nil (ρ := keysA_ren) { keysA with } Fence.wide _ trivial rfl w.heap.size _ (by simp) (by simp)
    have cS := AnyZ.sorted_in sortedA Fence.wide 5 trivial trivial trivial trivial rfl (by omega) (sortsA _) (enters_of Tryd.func75 (by kernel_rfl) rfl) 76 #[.pointer (some ⟨w.heap.size, 0, none⟩)] trivial (enters_of Tryd.func76 (by kernel_rfl) rfl) _ 0 (Nat.zero_le _) (by omega) _ hseq
    change CallsIn _ _ Tryd.prog 61 _ _ _ at cS
    refine (callsIn_wide.1 cS).mono ?_
    rintro e w' ⟨v, ss, rfl, rfl, hrow, hnil, hb⟩
    have bb := b1.trans (hb.mono b1.size)
    exact ⟨v, rfl, hS _ bb, enc_own (by simp [srtT]) (ownsRow_base_a hrow b1.size), bb⟩
  · obtain ⟨D0, hown, hperm, hsz⟩ := own_keys hm (by unfold maxLen; omega)
    have hbl := hown.lt
    have hseq : SeqGives Fence.wide 2 Tryd.prog 76 #[.pointer (some ⟨w.heap.size, 0, none⟩)] encStr (fun ss => ss.Perm (strKeys D0)) (Maps.size D0) (w.alloc (.cells #[.map (some b)] 97)) :=
      AnyZ.keys_gives (ρ := keysA_ren) { keysA with } Fence.wide _ trivial rfl (by omega) w.heap.size b l.length D0 _ (by simp) (by simp) (by
        obtain ⟨es, clock, hb, Ft, hs, hD⟩ := hown
        exact ⟨es, clock, (Below.heap_alloc _ _ b hbl).trans hb, Ft, hs, hD⟩)
    have cS := AnyZ.sorted_in sortedA Fence.wide 5 trivial trivial trivial trivial rfl (by omega) (sortsA _) (enters_of Tryd.func75 (by kernel_rfl) rfl) 76 #[.pointer (some ⟨w.heap.size, 0, none⟩)] trivial (enters_of Tryd.func76 (by kernel_rfl) rfl) _ _ (by rw [hsz]; unfold maxLen; omega) (by rw [hsz]; omega) _ hseq
    change CallsIn _ _ Tryd.prog 61 _ _ _ at cS
    refine (callsIn_wide.1 cS).mono ?_
    rintro e w' ⟨v, ss, rfl, hp, hrow, hnil, hb⟩
    have bb := b1.trans (hb.mono b1.size)
    have e1 : ss.mergeSort leB = srtT l := mergeSort_of_perm (hp.trans hperm)
    have e2 : ss.length = (srtT l).length := by rw [← e1, List.length_mergeSort]
    have hr := ownsRow_base_a hrow b1.size
    change w'.ownsRow w.heap.size 9 1 v ss.length ((ss.mergeSort leB).map encStr) at hr
    rw [e1] at hr
    exact ⟨v, rfl, hS _ bb, enc_own e2 hr, bb⟩
theorem nodup_len {α : Type} [DecidableEq α] : ∀ {l l' : List α}, l.Nodup → (∀ x ∈ l, x ∈ l') → l.length ≤ l'.length
  | [], l', _, _ => Nat.zero_le _
  | x :: t, l', hn, h => by
    rw [List.nodup_cons] at hn
    have hx := h x (by simp)
    have ih := nodup_len (l := t) (l' := l'.erase x) hn.2 (fun y hy => (List.mem_erase_of_ne (fun e => hn.1 (by rw [← e]; exact hy))).2 (h y (by simp [hy])))
    rw [List.length_erase_of_mem hx] at ih
    have := List.length_pos_of_mem hx
    simp only [List.length_cons]
    omega
theorem key_case {w : World} {base : Nat} {s : Rs} (m : RgM w base s) (o : IdK) : ∃ b, ((M.look s.K o).map (·.1) = none ∧ keyL s.K o = []) ∨ ((M.look s.K o).map (·.1) = some b ∧ M.MapAt w b tx txOk (entS (keyL s.K o))) := by
  unfold keyL
  cases h : M.look s.K o with
  | none => exact ⟨0, .inl ⟨rfl, rfl⟩⟩
  | some q => exact ⟨q.1, .inr ⟨rfl, m.kr _ (M.look_mem h)⟩⟩
theorem keyL_mem {w : World} {base : Nat} {s : Rs} (m : RgM w base s) (kk : KeysOk s.K s.P) (o : IdK) (k : ByteArray) : k ∈ keyL s.K o ↔ liOf s.P ⟨o, k, zId⟩ ≠ [] := by
  have h1 : k ∈ keyL s.K o ↔ KHas s.K o k := by
    unfold keyL
    cases h : M.look s.K o with
    | none =>
      constructor
      · intro h2; cases h2
      · intro h2; exact absurd h2 (khas_no m.keys h k)
    | some q => exact (khas_of m.keys (M.look_mem h) k).symm
  rw [h1, kk.mem]
  unfold liOf
  cases h : M.look s.P ⟨o, k, zId⟩ with
  | none => simp
  | some q =>
    have := (m.en _ (M.look_mem h)).2.1
    simp only [Option.map_some, Option.getD_some, Option.isSome_some, true_iff]
    exact this
theorem keyL_nodup {w : World} {base : Nat} {s : Rs} (m : RgM w base s) (o : IdK) : (keyL s.K o).Nodup := by
  obtain ⟨b, ⟨_, h⟩ | ⟨_, h⟩⟩ := key_case m o
  · rw [h]; exact List.nodup_nil
  · have := h.2.1
    have e1 : (entS (keyL s.K o)).map (·.1) = keyL s.K o := by simp [entS, M.onV, Function.comp_def]
    rwa [e1] at this
theorem keyL_len {w : World} {base : Nat} {s : Rs} (m : RgM w base s) (kk : KeysOk s.K s.P) (o : IdK) : (keyL s.K o).length ≤ s.P.length := by
  have h1 : ((keyL s.K o).map (fun k => (⟨o, k, zId⟩ : PlK))).Nodup := (keyL_nodup m o).map (f := fun k => (⟨o, k, zId⟩ : PlK)) (fun a b h e => h (by injection e))
  have h2 : ∀ q ∈ (keyL s.K o).map (fun k => (⟨o, k, zId⟩ : PlK)), q ∈ s.P.map (·.1) := fun q hq => by
    obtain ⟨k, hk, rfl⟩ := List.mem_map.1 hq
    have := (keyL_mem m kk o k).1 hk
    unfold liOf at this
    cases h : M.look s.P ⟨o, k, zId⟩ with
    | none => rw [h] at this; exact absurd rfl this
    | some v => exact List.mem_map.2 ⟨_, M.look_mem h, rfl⟩
  have := nodup_len h1 h2
  simpa using this
theorem keys_any {w : World} {base : Nat} {s : Rs} (m : RgM w base s) {o : IdK} (ho : o.ok) (hl : (keyL s.K o).length ≤ 8000000000000) :
    Calls Tryd.prog 23 #[.pointer (some ⟨s.r, 0, none⟩), o.v] w fun e w' => ∃ u, e = .returned u ∧ OwnV w' w.heap.size 9 u ((srtT (keyL s.K o)).map encStr) ∧ Below w.heap.size w w' := by
  obtain ⟨w1, E1, n1, b1⟩ := box_id w o
  have H1 := hidMk E1
  have bd : Below w1.heap.size w1 w1.drew := (Below.refl w1.heap.size w1).drew
  have m1 := m.below b1
  have LD : Hid (∀ W, Below w1.heap.size w1 W → (Instr.loadAt 82 (.pointer (some ⟨s.r, 0 + 1, none⟩))).run Tryd.prog W = .ok (.map (some s.bk)) W ∧ (Instr.loadAt 38 (.pointer (some ⟨w.heap.size, 0, none⟩))).run Tryd.prog W = .ok o.v W ∧ (Instr.lookup 82 (.map (some s.bk)) o.v false).run Tryd.prog W = .ok (.map ((M.look s.K o).map (·.1))) W) := by
    refine fun W b => ⟨?_, load_id ho ((b.block _ (Array.getElem?_eq_some_iff.1 n1).1).trans n1), (m1.below b).lookK o ho⟩
    have := (m1.below b).c1
    go_simp
  obtain ⟨b, hc⟩ := key_case (m1.below bd) o
  have CK := hidMk (keys_two hc hl (fun W => Below w1.heap.size w1 W) (fun W h => bd.trans h))
  have HB := hidMk b1
  generalize srtT (keyL s.K o) = R at *
  generalize (M.look s.K o).map (·.1) = im at *
  clear m m1 hc E1 n1 b1 hl
  go_enter Tryd.func23, Tryd.ntmps23
  go_upto_region 3 with (first
    | (refine wpList_run rfl (exec_boxE (t := 38) (v := o.v) (u := .pointer (some ⟨w.heap.size, 0, none⟩)) (w2 := w1) rfl rfl H1.out) ?_)
    | fail)
  refine key3 (rb := s.r) (mb := s.bk) (ob := w.heap.size) (y := o) (mv := .map im) (fun W => Below w1.heap.size w1 W) (fun u w' => OwnV w' w1.drew.heap.size 9 u (R.map encStr) ∧ Below w1.drew.heap.size w1.drew w') _ w1 _ rfl rfl rfl bd (fun W h => (LD.out W h).1) (fun W h => (LD.out W h).2.1) (fun W h => (LD.out W h).2.2) CK.out ?_
  intro fv u a' w2 hf ha
  subst ha
  simp only [Act.put, List.setIfInBounds_toArray, List.set_cons_zero, List.set_cons_succ]
  have HF := hidMk hf
  clear hf CK LD H1
  go_wp2
  go_ret
  refine ⟨u, rfl, ?_, HB.out.trans ((bd.trans HF.out.2).mono HB.out.size)⟩
  have := HF.out.1
  exact ownsRow_base_a this HB.out.size
theorem OwnV.texts {w : World} {base : Nat} {u : Value} {R : List (List UInt8)} (h : OwnV w base 9 u (R.map encStr)) : ∃ a c, u = .slice a R.length c ∧ Vals w a (R.map encStr) := by
  obtain ⟨a, c, e, _, hv, _⟩ := h.open
  rw [List.length_map] at e
  exact ⟨a, c, e, hv⟩
theorem same_texts {w : World} {R : List (List UInt8)} (hn : R.length ≤ 9000000000000) {a b : Option Addr} {c d : Nat} (ha : Vals w a (R.map encStr)) (hb : Vals w b (R.map encStr)) :
    Calls Tryd.prog 41 #[.slice a R.length c, .slice b R.length d] w fun e w' => e = .returned (.bool true) ∧ Below w.heap.size w w' := by
  obtain ⟨n, hnn⟩ : ∃ n, R.length = n := ⟨_, rfl⟩
  have hcell : ∀ {p : Option Addr}, Vals w p (R.map encStr) → ∀ i, i < n → ∃ g o, p = some ⟨g, o, none⟩ ∧ ∀ W, Below w.heap.size w W → ∀ t, R[i]? = some t → (Instr.loadAt 9 (.pointer (some ⟨g, o + i, none⟩))).run Tryd.prog W = .ok (.string ⟨t.toArray⟩) W := fun {p} hv i hi => by
    rcases hv with h | ⟨g, o, e, hc⟩
    · have : R = [] := by simpa using h
      rw [this] at hnn
      simp at hnn
      omega
    · refine ⟨g, o, e, fun W bW t ht => ?_⟩
      have h1 := hc i (encStr t) (by rw [List.getElem?_map, ht]; rfl)
      have h2 : W.cell? ⟨g, o + i, none⟩ = some (.string ⟨t.toArray⟩) := (bW.cell (p := ⟨g, o + i, none⟩) (block_lt_of_cell h1)).trans h1
      go_simp
  have HA := hidMk (hcell ha)
  have HB := hidMk (hcell hb)
  have HN := hidMk hnn
  rw [hnn] at hn ⊢
  clear ha hb hcell hnn
  have hne : ((n : Int) != (n : Int)) = false := by simp
  go_enter Tryd.func41, Tryd.ntmps41
  go_wp2
  clear hne
  go_loopw [5] (fun v5 wr => ∃ i : Nat, v5 = .int .i64 (i : Int) ∧ i ≤ n ∧ Hid (Below w.heap.size w wr)) (fun v5 wr => n - (match v5 with | .int _ i => i.toNat | _ => 0))
  case atStart => exact ⟨0, rfl, Nat.zero_le _, Below.refl _ _⟩
  case round =>
    obtain ⟨i, rfl, hin, HI⟩ := hrel
    by_cases hi : i < n
    · obtain ⟨t, ht⟩ : ∃ t, R[i]? = some t := ⟨_, List.getElem?_eq_getElem (by have := HN.out; omega)⟩
      obtain ⟨g, o, rfl, l1⟩ := HA.out i hi
      obtain ⟨g2, o2, rfl, l2⟩ := HB.out i hi
      have bd : Below w.heap.size w wr.drew := HI.out.drew
      have L1 := hidMk (l1 _ bd t ht)
      have L2 := hidMk (l2 _ bd t ht)
      have HD := hidMk bd
      clear l1 l2 ht HI bd
      go_upto_region 6 with fail
      refine smt6 (g := g) (o := o) (n := n) (c := c) (g2 := g2) (o2 := o2) (d := d) (i := i) (s := ⟨t.toArray⟩) _ wr _ rfl rfl rfl rfl hi (by omega) (fun W e => by rw [e]; exact L1.out) (fun W e => by rw [e]; exact L2.out) ?_
      intro a' w2 hf ha
      subst ha
      subst hf
      simp only [Act.put, List.setIfInBounds_toArray, List.set_cons_zero, List.set_cons_succ]
      clear L1 L2
      go_wp2
      rw [show ((i : Int) + 1) = ((i + 1 : Nat) : Int) by omega]
      refine ⟨⟨i + 1, rfl, hi, HD.out⟩, ?_⟩
      show n - ((i + 1 : Nat) : Int).toNat < n - (i : Int).toNat
      omega
    · obtain rfl : i = n := by omega
      go_wp2
      go_ret
      exact ⟨rfl, HI.out⟩
end Go.Proofs.YtldlljobofnmmaaDoor
