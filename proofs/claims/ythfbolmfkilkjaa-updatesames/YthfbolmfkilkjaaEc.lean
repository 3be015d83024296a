import Derived.Test.YthfbolmfkilkjaaEb
namespace Go.Proofs.Ythfbolmfkilkjaa
open Go.RowKit
set_option linter.unusedVariables false
set_option linter.unusedSimpArgs false

theorem EdV.setV (x : EdV) (h : x.ok) : (((x.c.setIfInBounds 105 (.int .u8 0)).setIfInBounds 106 (.int .i64 0)).setIfInBounds 107 (.float .f64 0)).setIfInBounds 108 (.string ⟨#[]⟩) = x.noV.c := by
  obtain ⟨A, e, hA, eA⟩ := cut4 x h
  obtain ⟨A', e', hA', eA'⟩ := cut4 x.noV (EdV.noV_ok h)
  obtain rfl : A = A' := by rw [eA, eA']; rfl
  rw [EdV.c, EdV.c, e, e', show 105 = 103 + 2 from rfl, show 106 = 103 + 3 from rfl, show 107 = 103 + 4 from rfl, show 108 = 103 + 5 from rfl, set_tail hA, set_tail hA, set_tail hA, set_tail hA]
  rfl
theorem set4 {w : World} {g : Nat} {c : Array Value} (h : w.heap[g]? = some (.cells c 39 (0, 0))) (a b d e : Value) : ((((w.setCell ⟨g, 105, none⟩ a).setCell ⟨g, 106, none⟩ b).setCell ⟨g, 107, none⟩ d).setCell ⟨g, 108, none⟩ e).heap[g]? = some (.cells ((((c.setIfInBounds 105 a).setIfInBounds 106 b).setIfInBounds 107 d).setIfInBounds 108 e) 39 (0, 0)) :=
  heap_setCell_same _ g 108 _ 39 _ (heap_setCell_same _ g 107 _ 39 _ (heap_setCell_same _ g 106 _ 39 _ (heap_setCell_same _ g 105 _ 39 _ h)))
theorem set4_other {w : World} {g k : Nat} (hk : k ≠ g) (a b d e : Value) : ((((w.setCell ⟨g, 105, none⟩ a).setCell ⟨g, 106, none⟩ b).setCell ⟨g, 107, none⟩ d).setCell ⟨g, 108, none⟩ e).heap[k]? = w.heap[k]? := by
  rw [Below.heap_setCell _ _ _ _ hk, Below.heap_setCell _ _ _ _ hk, Below.heap_setCell _ _ _ _ hk, Below.heap_setCell _ _ _ _ hk]
set_option maxRecDepth 100000 in
set_option maxHeartbeats 2000000 in
theorem rsameE_any (x y : EdV) (hx : x.ok) (hy : y.ok) (w : World) :
    Calls Try.prog 18 #[.agg x.c, .agg y.c] w fun e w' => e = .returned (.bool (decide (x = y))) ∧ Below w.heap.size w w' := by
  have b2 := bel_box2 w x.c y.c 39 39
  have g1 : ((w.alloc (.cells x.c 39)).alloc (.cells y.c 39)).heap[w.heap.size]? = some (.cells x.c 39 (0, 0)) := heap_alloc2_old _ _ _
  have g2 : ((w.alloc (.cells x.c 39)).alloc (.cells y.c 39)).heap[w.heap.size + 1]? = some (.cells y.c 39 (0, 0)) := heap_alloc2_new _ _ _
  have hz : ((w.alloc (.cells x.c 39)).alloc (.cells y.c 39)).heap.size = w.heap.size + 2 := by simp
  have EQ : Hid ((decide (x.noV = y.noV) && (decide (x.vk = y.vk) && decide (x.vn = y.vn) && decide (x.vf = y.vf) && ((str x.vs).toList == (str y.vs).toList))) = decide (x = y)) := eq_noV x y
  have TX : Hid (∀ j, x.c[103 + j]? = [Value.string (str x.key), .int .i64 x.sides, .int .u8 x.vk, .int .i64 x.vn, .float .f64 x.vf, .string (str x.vs), .int .i64 x.n, .int .i64 x.who][j]?) := x.tail hx
  have TY : Hid (∀ j, y.c[103 + j]? = [Value.string (str y.key), .int .i64 y.sides, .int .u8 y.vk, .int .i64 y.vn, .float .f64 y.vf, .string (str y.vs), .int .i64 y.n, .int .i64 y.who][j]?) := y.tail hy
  have SX : Hid (∀ W : World, ∀ g, W.heap[g]? = some (.cells x.c 39 (0, 0)) → ((W.cell? ⟨g, 105, none⟩ = some (.int .u8 x.vk) ∧ W.cell? ⟨g, 106, none⟩ = some (.int .i64 x.vn) ∧ W.cell? ⟨g, 107, none⟩ = some (.float .f64 x.vf) ∧ W.cell? ⟨g, 108, none⟩ = some (.string (str x.vs))) ∧ (W.frozen? ⟨g, 105, none⟩ = false ∧ W.frozen? ⟨g, 106, none⟩ = false ∧ W.frozen? ⟨g, 107, none⟩ = false ∧ W.frozen? ⟨g, 108, none⟩ = false))) := fun W g h =>
    ⟨⟨(cell_of_row W g 105 _ _ _ h).trans (TX.out 2), (cell_of_row W g 106 _ _ _ h).trans (TX.out 3), (cell_of_row W g 107 _ _ _ h).trans (TX.out 4), (cell_of_row W g 108 _ _ _ h).trans (TX.out 5)⟩, frozen_of_row W g 105 _ _ h, frozen_of_row W g 106 _ _ h, frozen_of_row W g 107 _ _ h, frozen_of_row W g 108 _ _ h⟩
  have SY : Hid (∀ W : World, ∀ g, W.heap[g]? = some (.cells y.c 39 (0, 0)) → ((W.cell? ⟨g, 105, none⟩ = some (.int .u8 y.vk) ∧ W.cell? ⟨g, 106, none⟩ = some (.int .i64 y.vn) ∧ W.cell? ⟨g, 107, none⟩ = some (.float .f64 y.vf) ∧ W.cell? ⟨g, 108, none⟩ = some (.string (str y.vs))) ∧ (W.frozen? ⟨g, 105, none⟩ = false ∧ W.frozen? ⟨g, 106, none⟩ = false ∧ W.frozen? ⟨g, 107, none⟩ = false ∧ W.frozen? ⟨g, 108, none⟩ = false))) := fun W g h =>
    ⟨⟨(cell_of_row W g 105 _ _ _ h).trans (TY.out 2), (cell_of_row W g 106 _ _ _ h).trans (TY.out 3), (cell_of_row W g 107 _ _ _ h).trans (TY.out 4), (cell_of_row W g 108 _ _ _ h).trans (TY.out 5)⟩, frozen_of_row W g 105 _ _ h, frozen_of_row W g 106 _ _ h, frozen_of_row W g 107 _ _ h, frozen_of_row W g 108 _ _ h⟩
  go_enter Try.func18, Try.ntmps18
  go_upto_region 1 with fail
  rename_i K aK
  have CONT : ∀ (p q : Nat) (W3 : World), W3.heap[w.heap.size]? = some (.cells x.c 39 (0, 0)) → W3.heap[w.heap.size + 1]? = some (.cells y.c 39 (0, 0)) → W3.heap[p]? = some (.cells #[.int .u8 x.vk, .int .i64 x.vn, .float .f64 x.vf, .string (str x.vs)] 37 (0, 0)) → W3.heap[q]? = some (.cells #[.int .u8 y.vk, .int .i64 y.vn, .float .f64 y.vf, .string (str y.vs)] 37 (0, 0)) →
      p ≠ w.heap.size → p ≠ w.heap.size + 1 → q ≠ w.heap.size → q ≠ w.heap.size + 1 → Below w.heap.size w W3 →
      K { tmps := #[.agg x.c, .agg y.c, .pointer (some ⟨w.heap.size, 0, none⟩), .pointer (some ⟨w.heap.size + 1, 0, none⟩), .bool false, .pointer (some ⟨p, 0, none⟩), .pointer (some ⟨q, 0, none⟩), .pointer (some ⟨w.heap.size, 105, none⟩), .agg #[.int .u8 x.vk, .int .i64 x.vn, .float .f64 x.vf, .string (str x.vs)], .pointer (some ⟨w.heap.size + 1, 105, none⟩), .agg #[.int .u8 y.vk, .int .i64 y.vn, .float .f64 y.vf, .string (str y.vs)],
          undef, undef, undef, undef, undef, undef, undef, undef, undef, undef, undef, undef], defers := [] } W3 := by
    clear g1 g2 hz b2
    intro p q W3 g1 g2 gp gq n1 n2 n3 n4 bb
    refine aK _ _ ?_
    clear aK
    obtain ⟨⟨a1, a2, a3, a4⟩, fa1, fa2, fa3, fa4⟩ := SX.out W3 _ g1
    obtain ⟨⟨b1, b2', b3, b4⟩, fb1, fb2, fb3, fb4⟩ := SY.out W3 _ g2
    have h1 : ((((((((W3.setCell ⟨w.heap.size, 105, none⟩ (.int .u8 0)).setCell ⟨w.heap.size, 106, none⟩ (.int .i64 0)).setCell ⟨w.heap.size, 107, none⟩ (.float .f64 0)).setCell ⟨w.heap.size, 108, none⟩ (.string ⟨#[]⟩)).setCell ⟨(w.heap.size + 1), 105, none⟩ (.int .u8 0)).setCell ⟨(w.heap.size + 1), 106, none⟩ (.int .i64 0)).setCell ⟨(w.heap.size + 1), 107, none⟩ (.float .f64 0)).setCell ⟨(w.heap.size + 1), 108, none⟩ (.string ⟨#[]⟩)).heap[w.heap.size]? = some (.cells x.noV.c 39 (0, 0)) := by
      rw [set4_other (by omega), set4 g1, EdV.setV x hx]
    have h2 : ((((((((W3.setCell ⟨w.heap.size, 105, none⟩ (.int .u8 0)).setCell ⟨w.heap.size, 106, none⟩ (.int .i64 0)).setCell ⟨w.heap.size, 107, none⟩ (.float .f64 0)).setCell ⟨w.heap.size, 108, none⟩ (.string ⟨#[]⟩)).setCell ⟨(w.heap.size + 1), 105, none⟩ (.int .u8 0)).setCell ⟨(w.heap.size + 1), 106, none⟩ (.int .i64 0)).setCell ⟨(w.heap.size + 1), 107, none⟩ (.float .f64 0)).setCell ⟨(w.heap.size + 1), 108, none⟩ (.string ⟨#[]⟩)).heap[w.heap.size + 1]? = some (.cells y.noV.c 39 (0, 0)) := by
      rw [set4 (c := y.c) (by rw [set4_other (by omega)]; exact g2), EdV.setV y hy]
    have h3 : ((((((((W3.setCell ⟨w.heap.size, 105, none⟩ (.int .u8 0)).setCell ⟨w.heap.size, 106, none⟩ (.int .i64 0)).setCell ⟨w.heap.size, 107, none⟩ (.float .f64 0)).setCell ⟨w.heap.size, 108, none⟩ (.string ⟨#[]⟩)).setCell ⟨(w.heap.size + 1), 105, none⟩ (.int .u8 0)).setCell ⟨(w.heap.size + 1), 106, none⟩ (.int .i64 0)).setCell ⟨(w.heap.size + 1), 107, none⟩ (.float .f64 0)).setCell ⟨(w.heap.size + 1), 108, none⟩ (.string ⟨#[]⟩)).heap[p]? = some (.cells #[.int .u8 x.vk, .int .i64 x.vn, .float .f64 x.vf, .string (str x.vs)] 37 (0, 0)) := by rw [set4_other n2, set4_other n1]; exact gp
    have h4 : ((((((((W3.setCell ⟨w.heap.size, 105, none⟩ (.int .u8 0)).setCell ⟨w.heap.size, 106, none⟩ (.int .i64 0)).setCell ⟨w.heap.size, 107, none⟩ (.float .f64 0)).setCell ⟨w.heap.size, 108, none⟩ (.string ⟨#[]⟩)).setCell ⟨(w.heap.size + 1), 105, none⟩ (.int .u8 0)).setCell ⟨(w.heap.size + 1), 106, none⟩ (.int .i64 0)).setCell ⟨(w.heap.size + 1), 107, none⟩ (.float .f64 0)).setCell ⟨(w.heap.size + 1), 108, none⟩ (.string ⟨#[]⟩)).heap[q]? = some (.cells #[.int .u8 y.vk, .int .i64 y.vn, .float .f64 y.vf, .string (str y.vs)] 37 (0, 0)) := by rw [set4_other n4, set4_other n3]; exact gq
    have BF : Below w.heap.size w ((((((((W3.setCell ⟨w.heap.size, 105, none⟩ (.int .u8 0)).setCell ⟨w.heap.size, 106, none⟩ (.int .i64 0)).setCell ⟨w.heap.size, 107, none⟩ (.float .f64 0)).setCell ⟨w.heap.size, 108, none⟩ (.string ⟨#[]⟩)).setCell ⟨(w.heap.size + 1), 105, none⟩ (.int .u8 0)).setCell ⟨(w.heap.size + 1), 106, none⟩ (.int .i64 0)).setCell ⟨(w.heap.size + 1), 107, none⟩ (.float .f64 0)).setCell ⟨(w.heap.size + 1), 108, none⟩ (.string ⟨#[]⟩)) :=
      ((((((((bb.setCell (p := ⟨w.heap.size, 105, none⟩) (Nat.le_refl _) _).setCell (p := ⟨w.heap.size, 106, none⟩) (Nat.le_refl _) _).setCell (p := ⟨w.heap.size, 107, none⟩) (Nat.le_refl _) _).setCell (p := ⟨w.heap.size, 108, none⟩) (Nat.le_refl _) _).setCell (p := ⟨w.heap.size + 1, 105, none⟩) (Nat.le_succ _) _).setCell (p := ⟨w.heap.size + 1, 106, none⟩) (Nat.le_succ _) _).setCell (p := ⟨w.heap.size + 1, 107, none⟩) (Nat.le_succ _) _).setCell (p := ⟨w.heap.size + 1, 108, none⟩) (Nat.le_succ _) _)
    clear g1 g2 gp gq n1 n2 n3 n4 bb
    go_upto_region 3 with fail
    generalize ((((((((W3.setCell ⟨w.heap.size, 105, none⟩ (.int .u8 0)).setCell ⟨w.heap.size, 106, none⟩ (.int .i64 0)).setCell ⟨w.heap.size, 107, none⟩ (.float .f64 0)).setCell ⟨w.heap.size, 108, none⟩ (.string ⟨#[]⟩)).setCell ⟨(w.heap.size + 1), 105, none⟩ (.int .u8 0)).setCell ⟨(w.heap.size + 1), 106, none⟩ (.int .i64 0)).setCell ⟨(w.heap.size + 1), 107, none⟩ (.float .f64 0)).setCell ⟨(w.heap.size + 1), 108, none⟩ (.string ⟨#[]⟩)) = W5 at *
    have L1 := loadE _ _ x.noV (EdV.noV_ok hx) _ h1
    have L2 := loadE _ _ y.noV (EdV.noV_ok hy) _ h2
    have c30 := cell_of_row W5 p 0 _ _ _ h3
    have c31 := cell_of_row W5 p 1 _ _ _ h3
    have c32 := cell_of_row W5 p 2 _ _ _ h3
    have c33 := cell_of_row W5 p 3 _ _ _ h3
    have c40 := cell_of_row W5 q 0 _ _ _ h4
    have c41 := cell_of_row W5 q 1 _ _ _ h4
    have c42 := cell_of_row W5 q 2 _ _ _ h4
    have c43 := cell_of_row W5 q 3 _ _ _ h4
    simp only [List.getElem?_toArray, List.getElem?_cons_zero, List.getElem?_cons_succ] at c30 c31 c32 c33 c40 c41 c42 c43
    have heq := fun wx => eqEd x.noV y.noV (EdV.noV_ok hx) (EdV.noV_ok hy) rfl rfl wx
    clear h1 h2 h3 h4 a1 a2 a3 a4 b1 b2' b3 b4 fa1 fa2 fa3 fa4 fb1 fb2 fb3 fb4
    have BH : Hid (Below w.heap.size w W5) := BF
    clear BF
    by_cases hv : x.noV = y.noV
    · rw [decide_eq_true hv] at heq EQ
      clear hv
      go_wp2_with (first | (refine wpList_load_v 39 (.tmp 2) rfl ⟨w.heap.size, 0, none⟩ _ rfl L1 rfl ?_) | (refine wpList_load_v 39 (.tmp 3) rfl ⟨w.heap.size + 1, 0, none⟩ _ rfl L2 rfl ?_) | fail)
      refine (vsame_any x.vk x.vn x.vf (str x.vs) y.vk y.vn y.vf (str y.vs) W5).mono ?_
      rintro e w6 ⟨rfl, b6⟩
      have EB := EQ.out
      rw [Bool.true_and] at EB
      rw [EB]
      clear EQ EB
      have BG : Hid (Below w.heap.size w w6) := BH.out.trans (b6.mono BH.out.size)
      clear b6 BH
      go_wp2
      go_ret
      exact ⟨rfl, BG.out⟩
    · rw [decide_eq_false hv] at heq EQ
      have EB : Hid (false = decide (x = y)) := by show _ = _; rw [← EQ.out]; rfl
      clear hv EQ
      go_wp2_with (first | (refine wpList_load_v 39 (.tmp 2) rfl ⟨w.heap.size, 0, none⟩ _ rfl L1 rfl ?_) | (refine wpList_load_v 39 (.tmp 3) rfl ⟨w.heap.size + 1, 0, none⟩ _ rfl L2 rfl ?_))
      go_ret
      exact ⟨by rw [← EB.out]; rfl, BH.out⟩
  generalize ((w.alloc (.cells x.c 39)).alloc (.cells y.c 39)) = W2 at *
  obtain ⟨⟨a1, a2, a3, a4⟩, _⟩ := SX.out W2 _ g1
  obtain ⟨⟨b1, b2', b3, b4⟩, _⟩ := SY.out W2 _ g2
  go_region_held3 (fun w' => w'.cell? ⟨w.heap.size, 105, none⟩ = some (.int .u8 x.vk) ∧ w'.cell? ⟨w.heap.size, 106, none⟩ = some (.int .i64 x.vn) ∧ w'.cell? ⟨w.heap.size, 107, none⟩ = some (.float .f64 x.vf) ∧ w'.cell? ⟨w.heap.size, 108, none⟩ = some (.string (str x.vs)) ∧ w'.cell? ⟨w.heap.size + 1, 105, none⟩ = some (.int .u8 y.vk) ∧ w'.cell? ⟨w.heap.size + 1, 106, none⟩ = some (.int .i64 y.vn) ∧ w'.cell? ⟨w.heap.size + 1, 107, none⟩ = some (.float .f64 y.vf) ∧ w'.cell? ⟨w.heap.size + 1, 108, none⟩ = some (.string (str y.vs))) (first | assumption | go_keep) (fail)
  · have o1 := heap_alloc2_old W2 (.cells #[.int .u8 x.vk, .int .i64 x.vn, .float .f64 x.vf, .string (str x.vs)] 37) (.cells #[.int .u8 y.vk, .int .i64 y.vn, .float .f64 y.vf, .string (str y.vs)] 37)
    have o2 := heap_alloc2_new W2 (.cells #[.int .u8 x.vk, .int .i64 x.vn, .float .f64 x.vf, .string (str x.vs)] 37) (.cells #[.int .u8 y.vk, .int .i64 y.vn, .float .f64 y.vf, .string (str y.vs)] 37)
    rw [hz] at o1 o2
    have bb : Below W2.heap.size W2 ((W2.alloc (.cells #[.int .u8 x.vk, .int .i64 x.vn, .float .f64 x.vf, .string (str x.vs)] 37)).alloc (.cells #[.int .u8 y.vk, .int .i64 y.vn, .float .f64 y.vf, .string (str y.vs)] 37)) := bel_box2 _ _ _ _ _
    exact CONT (w.heap.size + 2) (w.heap.size + 2 + 1) _ ((bb.block _ (by omega)).trans g1) ((bb.block _ (by omega)).trans g2) o1 o2 (by omega) (by omega) (by omega) (by omega) (b2.trans (bb.mono (by omega))).drew
  · have o1 := heap_alloc2_old W2 (.cells #[.int .u8 y.vk, .int .i64 y.vn, .float .f64 y.vf, .string (str y.vs)] 37) (.cells #[.int .u8 x.vk, .int .i64 x.vn, .float .f64 x.vf, .string (str x.vs)] 37)
    have o2 := heap_alloc2_new W2 (.cells #[.int .u8 y.vk, .int .i64 y.vn, .float .f64 y.vf, .string (str y.vs)] 37) (.cells #[.int .u8 x.vk, .int .i64 x.vn, .float .f64 x.vf, .string (str x.vs)] 37)
    rw [hz] at o1 o2
    have bb : Below W2.heap.size W2 ((W2.alloc (.cells #[.int .u8 y.vk, .int .i64 y.vn, .float .f64 y.vf, .string (str y.vs)] 37)).alloc (.cells #[.int .u8 x.vk, .int .i64 x.vn, .float .f64 x.vf, .string (str x.vs)] 37)) := bel_box2 _ _ _ _ _
    exact CONT (w.heap.size + 2 + 1) (w.heap.size + 2) _ ((bb.block _ (by omega)).trans g1) ((bb.block _ (by omega)).trans g2) o2 o1 (by omega) (by omega) (by omega) (by omega) (b2.trans (bb.mono (by omega))).drew
end Go.Proofs.Ythfbolmfkilkjaa
