import Derived.Test.YtldlljobofnmmabDoorRgs
import Derived.Test.YtldlljobofnmmabDoorRgt0
namespace Go.Proofs.YtldlljobofnmmabDoor
open Go.RowKit
set_option linter.unusedVariables false
set_option linter.unusedSimpArgs false

theorem box_pl (w : World) (p : PlK) : ∃ w1, (Instr.box 34 p.v).run Tryd.prog w = .ok (.pointer (some ⟨w.heap.size, 0, none⟩)) w1 ∧ w1.heap[w.heap.size]? = some (.cells p.c.toArray 34 (0, 0)) ∧ Below w.heap.size w w1 := ⟨_, by rw [run_box]; rfl, heap_alloc_new _ _, (Below.refl _ _).alloc (Nat.le_refl _) _⟩
theorem box_id (w : World) (p : IdK) : ∃ w1, (Instr.box 32 p.v).run Tryd.prog w = .ok (.pointer (some ⟨w.heap.size, 0, none⟩)) w1 ∧ w1.heap[w.heap.size]? = some (.cells p.c.toArray 32 (0, 0)) ∧ Below w.heap.size w w1 := ⟨_, by rw [run_box]; rfl, heap_alloc_new _ _, (Below.refl _ _).alloc (Nat.le_refl _) _⟩
theorem box_va (w : World) (p : VaV) : ∃ w1, (Instr.box 39 p.v).run Tryd.prog w = .ok (.pointer (some ⟨w.heap.size, 0, none⟩)) w1 ∧ w1.heap[w.heap.size]? = some (.cells p.c.toArray 39 (0, 0)) ∧ Below w.heap.size w w1 := ⟨_, by rw [run_box]; rfl, heap_alloc_new _ _, (Below.refl _ _).alloc (Nat.le_refl _) _⟩
theorem box_nn (w : World) (n : Int) : ∃ w1, (Instr.box 2 (.int .i64 n)).run Tryd.prog w = .ok (.pointer (some ⟨w.heap.size, 0, none⟩)) w1 ∧ Below w.heap.size w w1 := ⟨_, by rw [run_box], (Below.refl _ _).alloc (Nat.le_refl _) _⟩
set_option maxRecDepth 100000 in
set_option maxHeartbeats 2000000 in
/-- New. -/
theorem newR_any (w : World) : Calls Tryd.prog 6 #[] w fun e w' => ∃ s : Rs, e = .returned (.pointer (some ⟨s.r, 0, none⟩)) ∧ RgAt w' w.heap.size s [] ∧ (∀ p, liOf s.P p = []) ∧ s.P = [] ∧ Below w.heap.size w w' := by
  go_enter Tryd.func6, Tryd.ntmps6
  go_wp2_with (first
    | (refine wpList_run rfl (exec_makeMap rfl (mk_map _ _)) ?_)
    | fail)
  go_ret
  have z : ((w.alloc (.map #[] 0)).alloc (.map #[] 0)).heap.size = w.heap.size + 1 + 1 := by simp
  refine ⟨⟨w.heap.size + 1 + 1, w.heap.size, w.heap.size + 1, [], [], none⟩, rfl, ⟨⟨?_, ⟨⟨#[], 0, ?_, rfl, ?_⟩, by simp [entP, M.onV], by simp [entP, M.onV]⟩, ⟨⟨#[], 0, ?_, rfl, ?_⟩, by simp [entK, M.onV], by simp [entK, M.onV]⟩, by simp, by simp, by simp [Rs.bl]; omega, by simp, by simp [Rs.bl]; omega⟩, ?_, rfl, trivial, fun p => rfl⟩, fun p => rfl, rfl, ?_⟩
  · have := heap_alloc_new ((w.alloc (.map #[] 0)).alloc (.map #[] 0)) (.cells #[.map (some w.heap.size), .map (some (w.heap.size + 1)), .pointer none] 69)
    rw [z] at this
    exact this
  · rw [Below.heap_alloc _ _ _ (by rw [z]; show w.heap.size < _; omega), Below.heap_alloc _ _ _ (by simp)]
    exact heap_alloc_new _ _
  · first | trivial | simp
  · have := heap_alloc_new (w.alloc (.map #[] 0)) (.map #[] 0)
    rw [Below.heap_alloc _ _ _ (by rw [z]; show w.heap.size + 1 < _; omega)]
    rw [show (w.alloc (.map #[] 0)).heap.size = w.heap.size + 1 by simp] at this
    exact this
  · first | trivial | simp
  · exact ⟨by simp [Full], fun o k => by simp [KHas, M.look]; rfl⟩
  · exact (((Below.refl _ _).alloc (Nat.le_refl _) _).alloc (by simp) _).alloc (by simp; omega) _
set_option maxRecDepth 100000 in
set_option maxHeartbeats 2000000 in
/-- Entries. -/
theorem entries_any {w : World} {base : Nat} {s : Rs} (m : RgM w base s) {p : PlK} (hp : p.ok) (hn : (liOf s.P p).length ≤ 2500000000000) :
    Calls Tryd.prog 10 #[.pointer (some ⟨s.r, 0, none⟩), p.v] w fun e w' => ∃ v, e = .returned v ∧ RN.Own w' w.heap.size v (liOf s.P p) ∧ Below w.heap.size w w' := by
  obtain ⟨w1, EB, n1, b1⟩ := box_pl w p
  have HEB := hidMk EB
  have m1 := m.below b1
  have bd : Below w1.heap.size w1 w1.drew := (Below.refl w1.heap.size w1).drew
  have LD : Hid ((∀ W, Below w1.heap.size w1 W → (Instr.loadAt 66 (.pointer (some ⟨s.r, 0 + 0, none⟩))).run Tryd.prog W = .ok (.map (some s.bp)) W) ∧ (∀ W, Below w1.heap.size w1 W → (Instr.loadAt 34 (.pointer (some ⟨w.heap.size, 0, none⟩))).run Tryd.prog W = .ok p.v W) ∧ (∀ W, Below w1.heap.size w1 W → (Instr.lookup 66 (.map (some s.bp)) p.v false).run Tryd.prog W = .ok (lvOf s.P p) W)) := by
    refine ⟨fun W b => ?_, fun W b => ?_, fun W b => (m1.below b).lookP p hp⟩
    · have := (m1.below b).c0
      go_simp
    · exact ld_pl hp (rng_cells ((b.block _ (Array.getElem?_eq_some_iff.1 n1).1).trans n1))
  have CA : Hid (Calls Tryd.prog 24 #[lvOf s.P p] w1.drew fun e w' => ∃ u, e = .returned u ∧ Below w1.heap.size w1 w' ∧ (RN.Own w' w.heap.size u (liOf s.P p) ∧ Below w.heap.size w w')) := by
    have hl := (m1.below bd).list p
    refine (clone_any hl.1 hl.2 hn).mono ?_
    rintro e w' ⟨v, rfl, o, b⟩
    have bb := bd.trans b
    exact ⟨v, rfl, bb, o.mono b1.size, b1.trans (bb.mono b1.size)⟩
  have HS := hidMk bd
  clear m m1 EB n1 b1 bd
  go_enter Tryd.func10, Tryd.ntmps10
  go_upto_region 3 with (first
    | (refine wpList_run rfl (exec_boxE (t := 34) (v := p.v) (u := .pointer (some ⟨w.heap.size, 0, none⟩)) (w2 := w1) rfl rfl HEB.out) ?_)
    | fail)
  refine ent3 (rb := s.r) (mb := s.bp) (pb := w.heap.size) (p := p) (lv := lvOf s.P p) (fun W => Below w1.heap.size w1 W) (fun u w' => RN.Own w' w.heap.size u (liOf s.P p) ∧ Below w.heap.size w w') _ w1 _ rfl rfl rfl HS.out LD.out.1 LD.out.2.1 LD.out.2.2 CA.out ?_
  intro u a' w2 hf ha
  subst ha
  simp only [Act.put, List.setIfInBounds_toArray, List.set_cons_zero, List.set_cons_succ]
  have HF := hidMk hf
  clear hf LD CA HS HEB
  go_wp2
  go_ret
  exact ⟨u, rfl, HF.out.1, HF.out.2⟩
set_option maxRecDepth 100000 in
set_option maxHeartbeats 2000000 in
/-- Len. -/
theorem len_any {w : World} {base : Nat} {s : Rs} (m : RgM w base s) :
    Calls Tryd.prog 11 #[.pointer (some ⟨s.r, 0, none⟩)] w fun e w' => e = .returned (.int .i64 (s.P.length : Int)) ∧ w' = w := by
  have c0 := m.c0
  have hm := M.run_mlen (ty := 3) (P := Tryd.prog) Tryd.underlying66 m.pl
  rw [show (entP s.P).length = s.P.length by simp [entP, M.onV]] at hm
  have HM := hidMk hm
  clear m hm
  go_enter Tryd.func11, Tryd.ntmps11
  go_wp2_with (first
    | (refine wpList_val rfl (exec_len rfl rfl HM.out) ?_)
    | fail)
  go_ret
  exact ⟨rfl, rfl⟩
set_option maxRecDepth 100000 in
set_option maxHeartbeats 2000000 in
theorem put_none (p : PlK) (i : IdK) (x : VaV) (f : Value) (w : World) : Calls Tryd.prog 15 #[.pointer none, p.v, i.v, x.v, f] w fun e w' => e = .returned (.pointer none) ∧ Below w.heap.size w w' := by
  obtain ⟨w1, E1, _, b1⟩ := box_pl w p
  obtain ⟨w2, E2, _, b2⟩ := box_id w1 i
  obtain ⟨w3, E3, _, b3⟩ := box_va w2 x
  have B := hidMk (b1.trans ((b2.trans (b3.mono b2.size)).mono b1.size))
  have H1 := hidMk E1
  have H2 := hidMk E2
  have H3 := hidMk E3
  clear E1 E2 E3 b1 b2 b3
  go_enter Tryd.func15, Tryd.ntmps15
  go_wp2_with (first
    | (refine wpList_run rfl (exec_boxE (t := 34) (v := p.v) (u := .pointer (some ⟨w.heap.size, 0, none⟩)) (w2 := w1) rfl rfl H1.out) ?_)
    | (refine wpList_run rfl (exec_boxE (t := 32) (v := i.v) (u := .pointer (some ⟨w1.heap.size, 0, none⟩)) (w2 := w2) rfl rfl H2.out) ?_)
    | (refine wpList_run rfl (exec_boxE (t := 39) (v := x.v) (u := .pointer (some ⟨w2.heap.size, 0, none⟩)) (w2 := w3) rfl rfl H3.out) ?_)
    | fail)
  go_ret
  exact ⟨rfl, B.out⟩
set_option maxRecDepth 100000 in
set_option maxHeartbeats 2000000 in
theorem delete_none (p : PlK) (f : Value) (w : World) : Calls Tryd.prog 22 #[.pointer none, p.v, f] w fun e w' => e = .returned (.pointer none) ∧ Below w.heap.size w w' := by
  obtain ⟨w1, E1, _, b1⟩ := box_pl w p
  have B := hidMk b1
  have H1 := hidMk E1
  clear E1 b1
  go_enter Tryd.func22, Tryd.ntmps22
  go_wp2_with (first
    | (refine wpList_run rfl (exec_boxE (t := 34) (v := p.v) (u := .pointer (some ⟨w.heap.size, 0, none⟩)) (w2 := w1) rfl rfl H1.out) ?_)
    | fail)
  go_ret
  exact ⟨rfl, B.out⟩
set_option maxRecDepth 100000 in
set_option maxHeartbeats 2000000 in
theorem add_none (p : PlK) (n : Int) (f : Value) (w : World) : Calls Tryd.prog 16 #[.pointer none, p.v, .int .i64 n, f] w fun e w' => e = .returned (.pointer none) ∧ Below w.heap.size w w' := by
  obtain ⟨w1, E1, _, b1⟩ := box_pl w p
  obtain ⟨w2, E2, b2⟩ := box_nn w1 n
  have B := hidMk (b1.trans (b2.mono b1.size))
  have H1 := hidMk E1
  have H2 := hidMk E2
  clear E1 E2 b1 b2
  go_enter Tryd.func16, Tryd.ntmps16
  go_wp2_with (first
    | (refine wpList_run rfl (exec_boxE (t := 34) (v := p.v) (u := .pointer (some ⟨w.heap.size, 0, none⟩)) (w2 := w1) rfl rfl H1.out) ?_)
    | (refine wpList_run rfl (exec_boxE (t := 2) (v := .int .i64 n) (u := .pointer (some ⟨w1.heap.size, 0, none⟩)) (w2 := w2) rfl rfl H2.out) ?_)
    | fail)
  go_ret
  exact ⟨rfl, B.out⟩
set_option maxRecDepth 100000 in
set_option maxHeartbeats 2000000 in
theorem entries_none (p : PlK) (w : World) : Calls Tryd.prog 10 #[.pointer none, p.v] w fun e w' => e = .returned (.slice none 0 0) ∧ Below w.heap.size w w' := by
  obtain ⟨w1, E1, _, b1⟩ := box_pl w p
  have B := hidMk b1
  have H1 := hidMk E1
  clear E1 b1
  go_enter Tryd.func10, Tryd.ntmps10
  go_wp2_with (first
    | (refine wpList_run rfl (exec_boxE (t := 34) (v := p.v) (u := .pointer (some ⟨w.heap.size, 0, none⟩)) (w2 := w1) rfl rfl H1.out) ?_)
    | fail)
  go_ret
  exact ⟨rfl, B.out⟩
set_option maxRecDepth 100000 in
set_option maxHeartbeats 2000000 in
theorem keys_none (i : IdK) (w : World) : Calls Tryd.prog 25 #[.pointer none, i.v] w fun e w' => e = .returned (.slice none 0 0) ∧ Below w.heap.size w w' := by
  obtain ⟨w1, E1, _, b1⟩ := box_id w i
  have B := hidMk b1
  have H1 := hidMk E1
  clear E1 b1
  go_enter Tryd.func25, Tryd.ntmps25
  go_wp2_with (first
    | (refine wpList_run rfl (exec_boxE (t := 32) (v := i.v) (u := .pointer (some ⟨w.heap.size, 0, none⟩)) (w2 := w1) rfl rfl H1.out) ?_)
    | fail)
  go_ret
  exact ⟨rfl, B.out⟩
set_option maxRecDepth 100000 in
set_option maxHeartbeats 2000000 in
theorem len_none (w : World) : Calls Tryd.prog 11 #[.pointer none] w fun e w' => e = .returned (.int .i64 0) ∧ w' = w := by
  go_enter Tryd.func11, Tryd.ntmps11
  go_wp2
  go_ret
  exact ⟨rfl, rfl⟩
end Go.Proofs.YtldlljobofnmmabDoor
