import Derived.Test.YthfbolmfkilkjaaEa
import Derived.Deep.QuietTactic
import Derived.BigQuiet
import Derived.Laws.Externs
import Derived.WalkLawsBesides
import Derived.Deep.RegionHeld3
import Derived.Deep.Cut
import Derived.WalkSpells
namespace Go.Proofs.Ythfbolmfkilkjaa
open Go.RowKit
set_option linter.unusedVariables false
set_option linter.unusedSimpArgs false

@[go_sem] theorem bits_run (b : Nat) (w : World) : (callFunc 17 #[.float .f64 b]).run Try.prog w = .ok (.value (.int .u64 b)) w := by
  rw [run_callFunc_extern Try.func17 (by kernel_rfl) (by kernel_rfl) (by kernel_rfl) (e := Extern.MathFloatBits.float64bits) (by kernel_rfl)]
  rfl
@[go_sem] theorem run_store_float {P : Program} (w : World) (a : Addr) (m : Mode) (k : FloatKind) (b : Nat) : (store a (.float k b) m).run P w = stored P w a (.float k b) m := run_store P w a _ m rfl
theorem bel_box2 (w : World) (c d : Array Value) (t u : TypeId) : Below w.heap.size w ((w.alloc (.cells c t)).alloc (.cells d u)) := ((Below.refl _ _).alloc (Nat.le_refl _) _).alloc (by simp) _
def sameV (x y : EdV) : Bool := decide (x.vk = y.vk) && decide (x.vn = y.vn) && decide (x.vf = y.vf) && ((str x.vs).toList == (str y.vs).toList)
set_option maxRecDepth 100000 in
set_option maxHeartbeats 1000000 in
theorem vsame_any (k n : Int) (f : Nat) (s : ByteArray) (k' n' : Int) (f' : Nat) (s' : ByteArray) (w : World) :
    Calls Try.prog 20 #[.agg #[.int .u8 k, .int .i64 n, .float .f64 f, .string s], .agg #[.int .u8 k', .int .i64 n', .float .f64 f', .string s']] w fun e w' => e = .returned (.bool (decide (k = k') && decide (n = n') && decide (f = f') && (s.toList == s'.toList))) ∧ Below w.heap.size w w' := by
  by_cases h1 : k = k'
  · subst h1
    by_cases h2 : n = n'
    · subst h2
      by_cases h3 : f = f'
      · subst h3
        go_enter Try.func20, Try.ntmps20
        go_wp2
        go_quiet (fail)
        go_wp2
        go_ret
        exact ⟨by simp, below_drewN (bel_box2 _ _ _ _ _) _⟩
      · have e3 : ((f : Int) == (f' : Int)) = false := beq_eq_false_iff_ne.2 (by omega)
        go_enter Try.func20, Try.ntmps20
        go_wp2
        go_quiet (fail)
        go_wp2
        go_ret
        exact ⟨by simp [h3], below_drewN (bel_box2 _ _ _ _ _) _⟩
    · have e2 : (n == n') = false := by simpa using h2
      go_enter Try.func20, Try.ntmps20
      go_wp2
      go_quiet (fail)
      go_wp2
      go_ret
      exact ⟨by simp [h2], below_drewN (bel_box2 _ _ _ _ _) _⟩
  · have e1 : (k == k') = false := by simpa using h1
    go_enter Try.func20, Try.ntmps20
    go_wp2
    go_quiet (fail)
    go_wp2
    go_ret
    exact ⟨by simp [h1], below_drewN (bel_box2 _ _ _ _ _) _⟩

/-- Without its float. -/
def EdV.noF (x : EdV) : EdV := { x with vf := 0 }
/-- Without its value. -/
def EdV.noV (x : EdV) : EdV := { x with vk := 0, vn := 0, vf := 0, vs := [] }
theorem EdV.noF_ok {x : EdV} (h : x.ok) : x.noF.ok := ⟨h.l1, h.l2, h.l3⟩
theorem EdV.noV_ok {x : EdV} (h : x.ok) : x.noV.ok := ⟨h.l1, h.l2, h.l3⟩
theorem set_tail {A B : List Value} {off : Nat} (hA : A.length = off) (j : Nat) (v : Value) : (A ++ B).toArray.setIfInBounds (off + j) v = (A ++ B.set j v).toArray := by
  subst hA
  apply Array.toList_inj.1
  simp [List.set_append]
theorem EdV.setF (x : EdV) (h : x.ok) : x.c.setIfInBounds 107 (.float .f64 0) = x.noF.c := by
  obtain ⟨A, e, hA, eA⟩ := cut4 x h
  obtain ⟨A', e', hA', eA'⟩ := cut4 x.noF (EdV.noF_ok h)
  obtain rfl : A = A' := by rw [eA, eA']; rfl
  rw [EdV.c, EdV.c, e, e', show 107 = 103 + 4 from rfl, set_tail hA]
  rfl
theorem hs39 : (Try.prog.info? 39).map (·.size) = some 111 := by kernel_rfl
theorem eq_noF (x y : EdV) : (decide (x.vf = y.vf) && decide (x.noF = y.noF)) = decide (x = y) := by
  rw [← Bool.decide_and]
  refine decide_eq_decide.2 ?_
  obtain ⟨⟩ := x
  obtain ⟨⟩ := y
  simp only [EdV.noF, EdV.mk.injEq]
  constructor
  · rintro ⟨e, e0, e1, e2, e3, e4, e5, e6, e7, e8, e9, e10, e11, e12, e13, _, e14, e15, e16⟩
    exact ⟨e0, e1, e2, e3, e4, e5, e6, e7, e8, e9, e10, e11, e12, e13, e, e14, e15, e16⟩
  · rintro ⟨e0, e1, e2, e3, e4, e5, e6, e7, e8, e9, e10, e11, e12, e13, e, e14, e15, e16⟩
    exact ⟨e, e0, e1, e2, e3, e4, e5, e6, e7, e8, e9, e10, e11, e12, e13, trivial, e14, e15, e16⟩
theorem eq_noV (x y : EdV) : (decide (x.noV = y.noV) && (decide (x.vk = y.vk) && decide (x.vn = y.vn) && decide (x.vf = y.vf) && ((str x.vs).toList == (str y.vs).toList))) = decide (x = y) := by
  rw [str_list, str_list, show (x.vs == y.vs) = decide (x.vs = y.vs) by rw [Bool.eq_iff_iff]; simp, ← Bool.decide_and, ← Bool.decide_and, ← Bool.decide_and, ← Bool.decide_and]
  refine decide_eq_decide.2 ?_
  obtain ⟨⟩ := x
  obtain ⟨⟩ := y
  simp only [EdV.noV, EdV.mk.injEq]
  constructor
  · rintro ⟨⟨e0, e1, e2, e3, e4, e5, e6, e7, e8, e9, e10, e11, _, _, _, _, e15, e16⟩, ⟨⟨e12, e13⟩, e⟩, e14⟩
    exact ⟨e0, e1, e2, e3, e4, e5, e6, e7, e8, e9, e10, e11, e12, e13, e, e14, e15, e16⟩
  · rintro ⟨e0, e1, e2, e3, e4, e5, e6, e7, e8, e9, e10, e11, e12, e13, e, e14, e15, e16⟩
    exact ⟨⟨e0, e1, e2, e3, e4, e5, e6, e7, e8, e9, e10, e11, trivial, trivial, trivial, trivial, e15, e16⟩, ⟨⟨e12, e13⟩, e⟩, e14⟩

theorem wpList_load_v {P : Program} {ops : Array Oper} {rest : List Oper} {o : Oper} {a : Act} {w : World} {Q : Exit → Act → World → Prop} (t : TypeId) (x : Operand) (ho : o.op = .load t x) (p : Addr) (v : Value) (hp : a.eval x = .pointer (some p))
    (hl : (Instr.loadAt t (.pointer (some p))).run P w = .ok v w) (hw : Region.wanted o (yielded ops a.tmps) = true) (h : wpList P ops Q rest (a.put o.dst v) w) : wpList P ops Q (o :: rest) a w :=
  wpList_step fun K hK => by
    rw [if_pos hw]
    unfold Oper.wp execOp
    simp only [ho, hp, Sem.run_bind, hl, Result.andThen_ok, Sem.run_pure, Oper.upon]
    exact hK _ _ h
theorem loadE (w : World) (g : Nat) (x : EdV) (hx : x.ok) (fr : Nat × Nat) (hg : w.heap[g]? = some (.cells x.c 39 fr)) : (Instr.loadAt 39 (.pointer (some ⟨g, 0, none⟩))).run Try.prog w = .ok (.agg x.c) w := by
  have hr : w.rangeAt g 0 x.l := fun j v hv => by
    rw [Nat.zero_add, cell_of_row w g j _ _ _ hg]
    simpa [EdV.c] using hv
  exact run_loadAt_mid (P := Try.prog) w g 0 39 x.l _ hr Try.underlying39 rfl (by rw [EdV.len hx]; exact hs39)

set_option maxRecDepth 100000 in
set_option maxHeartbeats 1000000 in
theorem sameE_any (x y : EdV) (hx : x.ok) (hy : y.ok) (w : World) :
    Calls Try.prog 14 #[.agg x.c, .agg y.c] w fun e w' => e = .returned (.bool (decide (x = y))) ∧ Below w.heap.size w w' := by
  have b2 := bel_box2 w x.c y.c 39 39
  have g1 : ((w.alloc (.cells x.c 39)).alloc (.cells y.c 39)).heap[w.heap.size]? = some (.cells x.c 39 (0, 0)) := heap_alloc2_old _ _ _
  have g2 : ((w.alloc (.cells x.c 39)).alloc (.cells y.c 39)).heap[w.heap.size + 1]? = some (.cells y.c 39 (0, 0)) := heap_alloc2_new _ _ _
  have sx : Hid (x.c.size = 111) := EdV.size hx
  have sy : Hid (y.c.size = 111) := EdV.size hy
  have EQ : Hid ((decide (x.vf = y.vf) && decide (x.noF = y.noF)) = decide (x = y)) := eq_noF x y
  have T1 := x.tail hx 4
  have T2 := y.tail hy 4
  have hz1 : w.heap.size < ((w.alloc (.cells x.c 39)).alloc (.cells y.c 39)).heap.size := (Array.getElem?_eq_some_iff.1 g1).1
  go_enter Try.func14, Try.ntmps14
  go_upto_region 1 with fail
  generalize ((w.alloc (.cells x.c 39)).alloc (.cells y.c 39)) = W2 at *
  have q1 : W2.cell? ⟨w.heap.size, 107, none⟩ = some (.float .f64 x.vf) := (cell_of_row W2 w.heap.size 107 _ _ _ g1).trans T1
  have q2 : W2.cell? ⟨w.heap.size + 1, 107, none⟩ = some (.float .f64 y.vf) := (cell_of_row W2 (w.heap.size + 1) 107 _ _ _ g2).trans T2
  go_quiet (fail)
  have b3 : Below w.heap.size w (W2.drewN nq) := below_drewN b2 nq
  have g13 : (W2.drewN nq).heap[w.heap.size]? = some (.cells x.c 39 (0, 0)) := g1
  have g23 : (W2.drewN nq).heap[w.heap.size + 1]? = some (.cells y.c 39 (0, 0)) := g2
  generalize (W2.drewN nq) = W3 at *
  clear g1 g2 q1 q2 b2 hz1
  have p1 : W3.cell? ⟨w.heap.size, 107, none⟩ = some (.float .f64 x.vf) := (cell_of_row W3 w.heap.size 107 _ _ _ g13).trans T1
  have p2 : W3.cell? ⟨w.heap.size + 1, 107, none⟩ = some (.float .f64 y.vf) := (cell_of_row W3 (w.heap.size + 1) 107 _ _ _ g23).trans T2
  have f1 := frozen_of_row W3 w.heap.size 107 _ _ g13
  have f2 := frozen_of_row W3 (w.heap.size + 1) 107 _ _ g23
  have h1 : ((W3.setCell ⟨w.heap.size, 107, none⟩ (.float .f64 0)).setCell ⟨w.heap.size + 1, 107, none⟩ (.float .f64 0)).heap[w.heap.size]? = some (.cells x.noF.c 39 (0, 0)) := by
    rw [Below.heap_setCell _ _ _ _ (by show w.heap.size ≠ w.heap.size + 1; omega), heap_setCell_same W3 w.heap.size 107 _ 39 _ g13, EdV.setF x hx]
  have h2 : ((W3.setCell ⟨w.heap.size, 107, none⟩ (.float .f64 0)).setCell ⟨w.heap.size + 1, 107, none⟩ (.float .f64 0)).heap[w.heap.size + 1]? = some (.cells y.noF.c 39 (0, 0)) := by
    rw [heap_setCell_same _ (w.heap.size + 1) 107 y.c 39 _ (by rw [Below.heap_setCell _ _ _ _ (by show w.heap.size + 1 ≠ w.heap.size; omega)]; exact g23), EdV.setF y hy]
  have L1 := loadE _ _ x.noF (EdV.noF_ok hx) _ h1
  have L2 := loadE _ _ y.noF (EdV.noF_ok hy) _ h2
  have heq := fun wx => eqEd x.noF y.noF (EdV.noF_ok hx) (EdV.noF_ok hy) rfl rfl wx
  have BF : Hid (Below w.heap.size w ((W3.setCell ⟨w.heap.size, 107, none⟩ (.float .f64 0)).setCell ⟨w.heap.size + 1, 107, none⟩ (.float .f64 0))) := (b3.setCell (p := ⟨w.heap.size, 107, none⟩) (Nat.le_refl _) _).setCell (p := ⟨w.heap.size + 1, 107, none⟩) (Nat.le_succ _) _
  clear h1 h2 g13 g23 b3
  generalize hr : decide (x.noF = y.noF) = r at *
  by_cases hv : x.vf = y.vf
  · have eb : ((x.vf : Int) == (y.vf : Int)) = true := by simp [hv]
    have ER : Hid (r = decide (x = y)) := by show _ = _; rw [← EQ.out, decide_eq_true hv]; rfl
    simp only [eb]
    clear hr hv T1 T2
    go_wp2_with (first | (refine wpList_load_v 39 (.tmp 2) rfl ⟨w.heap.size, 0, none⟩ _ rfl L1 rfl ?_) | (refine wpList_load_v 39 (.tmp 3) rfl ⟨w.heap.size + 1, 0, none⟩ _ rfl L2 rfl ?_))
    go_ret
    exact ⟨by rw [← ER.out]; rfl, BF.out⟩
  · have eb : ((x.vf : Int) == (y.vf : Int)) = false := beq_eq_false_iff_ne.2 (by omega)
    have ER : Hid (false = decide (x = y)) := by show _ = _; rw [← EQ.out, decide_eq_false hv]; rfl
    simp only [eb]
    clear hr hv T1 T2
    go_wp2
    go_ret
    exact ⟨by rw [← ER.out]; rfl, BF.out⟩
end Go.Proofs.Ythfbolmfkilkjaa
