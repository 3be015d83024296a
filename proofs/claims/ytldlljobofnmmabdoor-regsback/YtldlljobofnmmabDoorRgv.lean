import Derived.Test.YtldlljobofnmmabDoorRgv0
import Derived.Test.YtldlljobofnmmabDoorRgo
import Derived.Shelf.Abstract
namespace Go.Proofs.YtldlljobofnmmabDoor
open Go.RowKit
set_option linter.unusedVariables false
set_option linter.unusedSimpArgs false

/-- A counter that is right. -/
def rightC (x : VaV) : Bool := (x.f == 0) && (x.s.toList == ([] : List UInt8))
def sumV (n : Int) (x : VaV) : VaV := if x.k = 7 ∧ rightC x = true then { x with n := IntKind.i64.wrap (x.n + n) } else x
theorem wrap_ok (z : Int) : -9223372036854775808 ≤ IntKind.i64.wrap z ∧ IntKind.i64.wrap z ≤ 9223372036854775807 := by rw [IntKind.wrap_i64]; omega
theorem sumV_ok {n : Int} {x : VaV} (h : x.ok) : (sumV n x).ok := by
  unfold sumV
  split
  · exact ⟨h.k0, h.k1, (wrap_ok _).1, (wrap_ok _).2, h.ff, h.ss⟩
  · exact h
set_option maxRecDepth 100000 in
set_option maxHeartbeats 4000000 in
theorem right7 (n : Int) (f : Nat) (t : ByteArray) (w : World) : Calls Tryd.prog 44 #[.agg #[.int .u8 7, .int .i64 n, .float .f64 f, .string t]] w fun e w' => e = .returned (.bool ((f == 0) && (t.toList == ([] : List UInt8)))) ∧ Below w.heap.size w w' := by
  obtain ⟨w1, hw1⟩ : ∃ w1, w.alloc (.cells #[.int .u8 7, .int .i64 n, .float .f64 f, .string t] 39) = w1 := ⟨_, rfl⟩
  have b1 : Below w.heap.size w w1 := by rw [← hw1]; exact (Below.refl _ _).alloc (Nat.le_refl _) _
  have n1 : w1.heap[w.heap.size]? = some (.cells #[.int .u8 7, .int .i64 n, .float .f64 f, .string t] 39 (0, 0)) := by rw [← hw1]; exact heap_alloc_new _ _
  have EB := hidMk (show (Instr.box 39 (.agg #[.int .u8 7, .int .i64 n, .float .f64 f, .string t])).run Tryd.prog w = .ok (.pointer (some ⟨w.heap.size, 0, none⟩)) w1 by rw [run_box, ← hw1]; rfl)
  have B1 := hidMk b1
  clear hw1 b1
  have c0 : w1.drew.cell? ⟨w.heap.size, 0, none⟩ = some (.int .u8 7) := (cell_of_row _ _ 0 _ _ _ n1).trans rfl
  have c1 : w1.drew.cell? ⟨w.heap.size, 1, none⟩ = some (.int .i64 n) := (cell_of_row _ _ 1 _ _ _ n1).trans rfl
  have c2 : w1.drew.cell? ⟨w.heap.size, 2, none⟩ = some (.float .f64 f) := (cell_of_row _ _ 2 _ _ _ n1).trans rfl
  have c3 : w1.drew.cell? ⟨w.heap.size, 3, none⟩ = some (.string t) := (cell_of_row _ _ 3 _ _ _ n1).trans rfl
  have d1 := hidMk (B1.out.drew)
  clear n1
  go_enter Tryd.func44, Tryd.ntmps44
  go_upto_region 1 with (first
    | (refine wpList_run rfl (exec_boxE (t := 39) (v := .agg #[.int .u8 7, .int .i64 n, .float .f64 f, .string t]) (u := .pointer (some ⟨w.heap.size, 0, none⟩)) (w2 := w1) rfl rfl EB.out) ?_)
    | fail)
  refine right1 (bx := w.heap.size) (f := f) (n := n) (t := t) _ w1 _ rfl rfl ?_ ?_ ?_ ?_
  · rintro W rfl; go_simp
  · rintro W rfl; go_simp
  · rintro W rfl; go_simp
  intro a' w' hw' ha
  subst ha
  subst hw'
  simp only [Act.put, List.setIfInBounds_toArray, List.set_cons_zero, List.set_cons_succ]
  clear c1 c2 c3 EB
  generalize w1.drew = w2 at *
  generalize e2 : (t.toList == ([] : List UInt8)) = q2
  generalize (n == 0) = q0
  generalize e1 : (f == 0) = q1
  have E1 := hidMk e1
  have E2 := hidMk e2
  clear e1 e2
  cases q1
  all_goals
    go_wp2
    go_ret
    exact ⟨by rw [E1.out, E2.out]; rfl, d1.out⟩
theorem va_store {W : World} {b : Nat} {x u : VaV} (h : W.heap[b]? = some (.cells x.c.toArray 39 (0, 0))) : (Instr.storeAt 39 (.pointer (some ⟨b, 0, none⟩)) u.v).run Tryd.prog W = .ok () (W.setRow b u.c.toArray) := by
  have e2 := run_storeVar_row (P := Tryd.prog) W b 39 39 x.c.toArray u.c.toArray h szVa rfl (by rw [List.all_toArray, List.all_eq_true]; exact u.one)
  simp only [Instr.storeAt, Instr.sureAddr, Sem.run_bind, Sem.run_pure, Result.andThen_ok, VaV.v, e2]
set_option maxRecDepth 100000 in
set_option maxHeartbeats 4000000 in
/-- Sum. -/
theorem sum_any {x : VaV} (hx : x.ok) {n : Int} (hn : -9223372036854775808 ≤ n ∧ n ≤ 9223372036854775807) (w : World) : Calls Tryd.prog 36 #[x.v, .int .i64 n] w fun e w' => e = .returned (sumV n x).v ∧ Below w.heap.size w w' := by
  obtain ⟨k, m, f, t⟩ := x
  have hk0 := hx.k0
  have hk1 := hx.k1
  simp only at hk0 hk1
  obtain ⟨b, hb⟩ : ∃ b, w.heap.size = b := ⟨_, rfl⟩
  have RI := hidMk (right7 m f t)
  have B0 : Below b w (w.alloc (.cells #[.int .u8 k, .int .i64 m, .float .f64 f, .string t] 39)) := (Below.refl _ _).alloc (by omega) _
  have n1 : (w.alloc (.cells #[.int .u8 k, .int .i64 m, .float .f64 f, .string t] 39)).heap[b]? = some (.cells #[.int .u8 k, .int .i64 m, .float .f64 f, .string t] 39 (0, 0)) := by rw [← hb]; exact heap_alloc_new _ _
  have EB := hidMk (show (Instr.box 39 (.agg #[.int .u8 k, .int .i64 m, .float .f64 f, .string t])).run Tryd.prog w = .ok (.pointer (some ⟨b, 0, none⟩)) (w.alloc (.cells #[.int .u8 k, .int .i64 m, .float .f64 f, .string t] 39)) by rw [run_box, ← hb]; rfl)
  generalize w.alloc (.cells #[.int .u8 k, .int .i64 m, .float .f64 f, .string t] 39) = w1 at *
  have l1 : b < w1.heap.size := (Array.getElem?_eq_some_iff.1 n1).1
  have B2 : Below b w1 (w1.alloc (.cells #[.int .u8 0, .int .i64 0, .float .f64 0, .string ⟨#[]⟩] 39)) := (Below.refl _ _).alloc (by omega) _
  have n2 : (w1.alloc (.cells #[.int .u8 0, .int .i64 0, .float .f64 0, .string ⟨#[]⟩] 39)).heap[w1.heap.size]? = some (.cells #[.int .u8 0, .int .i64 0, .float .f64 0, .string ⟨#[]⟩] 39 (0, 0)) := heap_alloc_new _ _
  have n1' : (w1.alloc (.cells #[.int .u8 0, .int .i64 0, .float .f64 0, .string ⟨#[]⟩] 39)).heap[b]? = some (.cells #[.int .u8 k, .int .i64 m, .float .f64 f, .string t] 39 (0, 0)) := (((Below.refl _ w1).alloc (Nat.le_refl _) _).block b l1).trans n1
  have EA := hidMk (show (Instr.alloc 39 true (.tuple #[])).run Tryd.prog w1 = .ok (.pointer (some ⟨w1.heap.size, 0, none⟩)) (w1.alloc (.cells #[.int .u8 0, .int .i64 0, .float .f64 0, .string ⟨#[]⟩] 39)) by kernel_rfl)
  obtain ⟨b2, hb2⟩ : ∃ b, w1.heap.size = b := ⟨_, rfl⟩
  rw [hb2] at EA n2 l1
  generalize w1.alloc (.cells #[.int .u8 0, .int .i64 0, .float .f64 0, .string ⟨#[]⟩] 39) = w2 at *
  have B02 := hidMk (B0.trans B2)
  have hne : b ≠ b2 := by omega
  have N1 := hidMk n1'
  have N2 := hidMk n2
  have HB := hidMk hb
  have HX := hidMk hx
  have HN := hidMk hn
  clear B0 B2 n1 n2 n1' hb hb2 hx hn
  show Calls Tryd.prog 36 #[.agg #[.int .u8 k, .int .i64 m, .float .f64 f, .string t], .int .i64 n] w _
  have c0 : w2.cell? ⟨b, 0, none⟩ = some (.int .u8 k) := (cell_of_row _ _ 0 _ _ _ N1.out).trans rfl
  have c1 : w2.cell? ⟨b, 1, none⟩ = some (.int .i64 m) := (cell_of_row _ _ 1 _ _ _ N1.out).trans rfl
  have c2 : w2.cell? ⟨b, 2, none⟩ = some (.float .f64 f) := (cell_of_row _ _ 2 _ _ _ N1.out).trans rfl
  have c3 : w2.cell? ⟨b, 3, none⟩ = some (.string t) := (cell_of_row _ _ 3 _ _ _ N1.out).trans rfl
  have LB : Hid (b ≤ w2.heap.size) := Nat.le_of_lt (Array.getElem?_eq_some_iff.1 N1.out).1
  have FINV : Hid (∀ (W : World) (x : VaV), Below b w W → W.heap[b2]? = some (.cells #[.int .u8 0, .int .i64 0, .float .f64 0, .string ⟨#[]⟩] 39 (0, 0)) → ∃ W', (Instr.storeAt 39 (.pointer (some ⟨b2, 0, none⟩)) x.v).run Tryd.prog W = .ok () W' ∧ W'.heap[b2]? = some (.cells x.c.toArray 39 (0, 0)) ∧ Below b w W') := by
    intro W x bW hW
    refine ⟨_, va_store (x := zVa) (u := x) hW, setRow_heap W b2 _ _ _ _ hW, bW.trans ((setRow_tch W b2 _).below (by have := bW.size; have := HB.out; omega) (fun j e => by simp at e; omega))⟩
  obtain ⟨q, hq⟩ : ∃ q, ((f == 0) && (t.toList == ([] : List UInt8))) = q := ⟨_, rfl⟩
  rw [hq] at RI
  have HQ := hidMk hq
  clear hq
  by_cases hk : k = 7
  · subst hk
    go_enter Tryd.func36, Tryd.ntmps36
    cases q
    · go_upto_region 3 with (first
        | (refine wpList_run rfl (exec_boxE (t := 39) (v := .agg #[.int .u8 7, .int .i64 m, .float .f64 f, .string t]) (u := .pointer (some ⟨b, 0, none⟩)) (w2 := w1) rfl rfl EB.out) ?_)
        | (refine wpList_run rfl (exec_alloc (w2 := w2) rfl EA.out) ?_)
        | (go_at_call 44; refine (RI.out _).mono ?_; rintro e w3 ⟨rfl, b3⟩; have N31 := hidMk ((b3.block b (Array.getElem?_eq_some_iff.1 N1.out).1).trans N1.out); have N32 := hidMk ((b3.block b2 (Array.getElem?_eq_some_iff.1 N2.out).1).trans N2.out); have B03 := hidMk (B02.out.trans (b3.mono LB.out)); clear b3 c0 c1 c2 c3)
        | fail)
      obtain ⟨w5, es, n5, b5⟩ := FINV.out w3 ⟨7, m, f, t⟩ B03.out N32.out
      refine sum3 (bx := b) (rx := b2) (x := ⟨7, m, f, t⟩) (w1 := w5) _ w3 _ rfl rfl rfl (fun W e => by rw [e]; exact ld_va (rng_cells N31.out)) es ?_
      intro a' w' hw' ha
      subst ha
      subst hw'
      simp only [Act.put, List.setIfInBounds_toArray, List.set_cons_zero, List.set_cons_succ]
      go_wp2
      refine bodyPost_ret (results_cell_row Tryd.results36 _ _ b2 _ _ _ _ rfl n5 Tryd.underlying39 rfl szVa) rfl ?_
      refine ⟨?_, by rw [HB.out]; exact b5⟩
      rw [sumV, if_neg]
      · rfl
      · rintro ⟨_, h⟩
        have := HQ.out
        unfold rightC at h
        rw [this] at h
        cases h
    · go_upto_region 2 with (first
        | (refine wpList_run rfl (exec_boxE (t := 39) (v := .agg #[.int .u8 7, .int .i64 m, .float .f64 f, .string t]) (u := .pointer (some ⟨b, 0, none⟩)) (w2 := w1) rfl rfl EB.out) ?_)
        | (refine wpList_run rfl (exec_alloc (w2 := w2) rfl EA.out) ?_)
        | (go_at_call 44; refine (RI.out _).mono ?_; rintro e w3 ⟨rfl, b3⟩; have N31 := hidMk ((b3.block b (Array.getElem?_eq_some_iff.1 N1.out).1).trans N1.out); have N32 := hidMk ((b3.block b2 (Array.getElem?_eq_some_iff.1 N2.out).1).trans N2.out); have B03 := hidMk (B02.out.trans (b3.mono LB.out)); clear b3 c0 c1 c2 c3)
        | fail)
      have c1 : w3.cell? ⟨b, 1, none⟩ = some (.int .i64 m) := (cell_of_row _ _ 1 _ _ _ N31.out).trans rfl
      have f1 := frozen_of_row w3 b 1 _ _ N31.out
      refine sum2 (bx := b) (n := n) (m := m) (w1 := w3.setCell ⟨b, 1, none⟩ (.int .i64 (IntKind.i64.wrap (m + n)))) _ w3 _ rfl rfl rfl (fun W e => by rw [e]; go_simp) (by go_simp) ?_
      intro a' w' hw' ha
      subst ha
      have N41 := hidMk ((Go.heap_setCell_same w3 b 1 _ 39 (.int .i64 (IntKind.i64.wrap (m + n))) N31.out))
      have N42 : Hid ((w3.setCell ⟨b, 1, none⟩ (.int .i64 (IntKind.i64.wrap (m + n)))).heap[b2]? = _) := (Go.heap_setCell_other _ _ _ _ (fun e => hne e.symm)).trans N32.out
      have B04 : Hid (Below b w (w3.setCell ⟨b, 1, none⟩ (.int .i64 (IntKind.i64.wrap (m + n))))) := B03.out.trans (Tch.below (B := b) (show Tch (fun j => j = b) w3 (w3.setCell ⟨b, 1, none⟩ (.int .i64 (IntKind.i64.wrap (m + n)))) from ⟨rfl, rfl, rfl, by simp [World.setCell], fun j _ hj => Go.heap_setCell_other _ _ _ _ hj⟩) (by have := B03.out.size; have := HB.out; omega) (fun j e => by rw [e]; exact Nat.le_refl _))
      rw [← hw'] at N41 N42 B04
      clear hw' c1 f1
      simp only [Act.put, List.setIfInBounds_toArray, List.set_cons_zero, List.set_cons_succ]
      obtain ⟨w5, es, n5, b5⟩ := FINV.out w' ⟨7, IntKind.i64.wrap (m + n), f, t⟩ B04.out N42.out
      go_upto_region 3 with fail
      refine sum3 (bx := b) (rx := b2) (x := ⟨7, IntKind.i64.wrap (m + n), f, t⟩) (w1 := w5) _ w' _ rfl rfl rfl (fun W e => by rw [e]; exact ld_va (rng_cells N41.out)) es ?_
      intro a' w' hw' ha
      subst ha
      subst hw'
      simp only [Act.put, List.setIfInBounds_toArray, List.set_cons_zero, List.set_cons_succ]
      go_wp2
      refine bodyPost_ret (results_cell_row Tryd.results36 _ _ b2 _ _ _ _ rfl n5 Tryd.underlying39 rfl szVa) rfl ?_
      refine ⟨?_, by rw [HB.out]; exact b5⟩
      rw [sumV, if_pos ⟨rfl, HQ.out⟩]
      rfl
  · have hk' : (k == 7) = false := by simpa using hk
    go_enter Tryd.func36, Tryd.ntmps36
    go_upto_region 3 with (first
      | (refine wpList_run rfl (exec_boxE (t := 39) (v := .agg #[.int .u8 k, .int .i64 m, .float .f64 f, .string t]) (u := .pointer (some ⟨b, 0, none⟩)) (w2 := w1) rfl rfl EB.out) ?_)
      | (refine wpList_run rfl (exec_alloc (w2 := w2) rfl EA.out) ?_)
      | fail)
    obtain ⟨w5, es, n5, b5⟩ := FINV.out w2 ⟨k, m, f, t⟩ B02.out N2.out
    refine sum3 (bx := b) (rx := b2) (x := ⟨k, m, f, t⟩) (w1 := w5) _ w2 _ rfl rfl rfl (fun W e => by rw [e]; exact ld_va (rng_cells N1.out)) es ?_
    intro a' w' hw' ha
    subst ha
    subst hw'
    simp only [Act.put, List.setIfInBounds_toArray, List.set_cons_zero, List.set_cons_succ]
    clear c0 c1 c2 c3
    go_wp2
    refine bodyPost_ret (results_cell_row Tryd.results36 _ _ b2 _ _ _ _ rfl n5 Tryd.underlying39 rfl szVa) rfl ?_
    exact ⟨by rw [sumV, if_neg (fun h => hk h.1)]; rfl, by rw [HB.out]; exact b5⟩
theorem va_boxes (w : World) (x : VaV) : ∃ w1 w2 b b2, b = w.heap.size ∧ b < b2 ∧ (Instr.box 39 x.v).run Tryd.prog w = .ok (.pointer (some ⟨b, 0, none⟩)) w1 ∧ (Instr.alloc 39 true (.tuple #[])).run Tryd.prog w1 = .ok (.pointer (some ⟨b2, 0, none⟩)) w2 ∧ w2.heap[b]? = some (.cells x.c.toArray 39 (0, 0)) ∧ w2.heap[b2]? = some (.cells zVa.c.toArray 39 (0, 0)) ∧ Below w.heap.size w w2 := by
  have B0 : Below w.heap.size w (w.alloc (.cells x.c.toArray 39)) := (Below.refl _ _).alloc (Nat.le_refl _) _
  have n1 : (w.alloc (.cells x.c.toArray 39)).heap[w.heap.size]? = some (.cells x.c.toArray 39 (0, 0)) := heap_alloc_new _ _
  have EB : (Instr.box 39 x.v).run Tryd.prog w = .ok (.pointer (some ⟨w.heap.size, 0, none⟩)) (w.alloc (.cells x.c.toArray 39)) := by rw [run_box]; rfl
  generalize w.alloc (.cells x.c.toArray 39) = w1 at *
  have l1 := (Array.getElem?_eq_some_iff.1 n1).1
  have B2 : Below w1.heap.size w1 (w1.alloc (.cells zVa.c.toArray 39)) := (Below.refl _ _).alloc (Nat.le_refl _) _
  exact ⟨w1, w1.alloc (.cells zVa.c.toArray 39), w.heap.size, w1.heap.size, rfl, l1, EB, by kernel_rfl, (B2.block _ l1).trans n1, heap_alloc_new _ _, B0.trans (B2.mono B0.size)⟩
set_option maxRecDepth 100000 in
set_option maxHeartbeats 4000000 in
/-- Add's closure. -/
theorem turns_add {w : World} {nb : Nat} {n : Int} (hn : -9223372036854775808 ≤ n ∧ n ≤ 9223372036854775807) (hb : w.heap[nb]? = some (.cells #[.int .i64 n] 2 (0, 0))) : Turns w 35 #[.pointer (some ⟨nb, 0, none⟩)] (sumV n) := by
  refine ⟨enters_of Tryd.func35 (by kernel_rfl) rfl, fun W bW x hx => ?_, fun x hx => sumV_ok hx⟩
  obtain ⟨w1, w2, b, b2, eb, hlt, EB, EA, N1, N2, B2⟩ := va_boxes W x
  have hW := (bW.block nb (Array.getElem?_eq_some_iff.1 hb).1).trans hb
  have hW2 := (B2.block nb (Array.getElem?_eq_some_iff.1 hW).1).trans hW
  have HEB := hidMk EB
  have HEA := hidMk EA
  have CS : Hid (Calls Tryd.prog 36 #[x.v, .int .i64 n] w2 fun e w' => e = .returned (sumV n x).v ∧ ∃ w3, (Instr.storeAt 39 (.pointer (some ⟨b2, 0, none⟩)) (sumV n x).v).run Tryd.prog w' = .ok () w3 ∧ (w3.heap[b2]? = some (.cells (sumV n x).c.toArray 39 (0, 0)) ∧ Below W.heap.size W w3)) := by
    refine (sum_any hx hn w2).mono ?_
    rintro e w' ⟨rfl, b'⟩
    have N2' := (b'.block b2 (Array.getElem?_eq_some_iff.1 N2).1).trans N2
    have Bw := B2.trans (b'.mono B2.size)
    refine ⟨rfl, _, va_store (x := zVa) N2', setRow_heap w' b2 _ _ _ _ N2', Bw.trans ((setRow_tch w' b2 _).below Bw.size (fun j e => by simp at e; omega))⟩
  have LV : Hid ((Instr.loadAt 39 (.pointer (some ⟨b, 0, none⟩))).run Tryd.prog w2 = .ok x.v w2) := ld_va (rng_cells N1)
  have LN : Hid ((Instr.loadAt 2 (.pointer (some ⟨nb, 0, none⟩))).run Tryd.prog w2 = .ok (.int .i64 n) w2) := by
    have c0 : w2.cell? ⟨nb, 0, none⟩ = some (.int .i64 n) := (cell_of_row w2 nb 0 _ _ _ hW2).trans rfl
    have : (Instr.loadAt 2 (.pointer (some ⟨nb, 0, none⟩))).run Tryd.prog w2 = .ok (.int .i64 n) w2 := by go_simp
    exact this
  obtain ⟨y, hy⟩ : ∃ y, sumV n x = y := ⟨_, rfl⟩
  rw [hy] at CS ⊢
  clear hy EB EA N1 N2 B2 hW hW2 eb hlt hb bW
  show Calls Tryd.prog 35 #[x.v, .pointer (some ⟨nb, 0, none⟩)] W _
  go_enter Tryd.func35, Tryd.ntmps35
  go_upto_region 1 with (first
    | (refine wpList_run rfl (exec_boxE (t := 39) (v := x.v) (u := .pointer (some ⟨b, 0, none⟩)) (w2 := w1) rfl rfl HEB.out) ?_)
    | (refine wpList_run rfl (exec_alloc (w2 := w2) rfl HEA.out) ?_)
    | fail)
  refine adda1 (nb := nb) (bx := b) (rx := b2) (x := x) (y := y) (n := n) (fun w3 => w3.heap[b2]? = some (.cells y.c.toArray 39 (0, 0)) ∧ Below W.heap.size W w3) _ w2 _ rfl rfl rfl rfl (fun W' e => by rw [e]; exact LV.out) (fun W' e => by rw [e]; exact LN.out) CS.out ?_
  intro a' w' hw' ha
  subst ha
  simp only [Act.put, List.setIfInBounds_toArray, List.set_cons_zero, List.set_cons_succ]
  have HF := hidMk hw'
  clear hw' CS LV LN HEB HEA
  go_wp2
  refine bodyPost_ret (results_cell_row Tryd.results35 _ _ b2 _ _ _ _ rfl HF.out.1 Tryd.underlying39 rfl szVa) rfl ?_
  exact ⟨rfl, HF.out.2⟩
set_option maxRecDepth 100000 in
set_option maxHeartbeats 4000000 in
/-- The closure of an Add's Back. -/
theorem turns_id (w : World) : Turns w 38 #[] (fun x => x) := by
  refine ⟨enters_of Tryd.func38 (by kernel_rfl) rfl, fun W bW x hx => ?_, fun x hx => hx⟩
  obtain ⟨w1, w2, b, b2, eb, hlt, EB, EA, N1, N2, B2⟩ := va_boxes W x
  have HEB := hidMk EB
  have HEA := hidMk EA
  have ES := hidMk (va_store (x := zVa) (u := x) N2)
  have F2 := hidMk (And.intro (setRow_heap w2 b2 _ x.c.toArray _ _ N2) (B2.trans ((setRow_tch w2 b2 x.c.toArray).below B2.size (fun j e => by simp at e; omega))))
  have LV : Hid ((Instr.loadAt 39 (.pointer (some ⟨b, 0, none⟩))).run Tryd.prog w2 = .ok x.v w2) := ld_va (rng_cells N1)
  clear EB EA N1 N2 B2 eb hlt bW
  generalize w2.setRow b2 x.c.toArray = w3 at *
  show Calls Tryd.prog 38 #[x.v] W _
  go_enter Tryd.func38, Tryd.ntmps38
  go_upto_region 1 with (first
    | (refine wpList_run rfl (exec_boxE (t := 39) (v := x.v) (u := .pointer (some ⟨b, 0, none⟩)) (w2 := w1) rfl rfl HEB.out) ?_)
    | (refine wpList_run rfl (exec_alloc (w2 := w2) rfl HEA.out) ?_)
    | fail)
  refine addi1 (bx := b) (rx := b2) (x := x) (w1 := w3) _ w2 _ rfl rfl rfl (fun W' e => by rw [e]; exact LV.out) ES.out ?_
  intro a' w' hw' ha
  subst ha
  subst hw'
  simp only [Act.put, List.setIfInBounds_toArray, List.set_cons_zero, List.set_cons_succ]
  clear LV HEB HEA ES
  go_wp2
  refine bodyPost_ret (results_cell_row Tryd.results38 _ _ b2 _ _ _ _ rfl F2.out.1 Tryd.underlying39 rfl szVa) rfl ?_
  exact ⟨rfl, F2.out.2⟩
end Go.Proofs.YtldlljobofnmmabDoor
