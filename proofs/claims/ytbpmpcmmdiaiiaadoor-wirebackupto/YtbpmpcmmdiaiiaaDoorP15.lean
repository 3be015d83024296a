import Derived.Test.YtbpmpcmmdiaiiaaDoorP13
import Derived.Test.YtbpmpcmmdiaiiaaDoorP14
import Derived.Test.YtbpmpcmmdiaiiaaDoorP11
namespace Go.Proofs.YtbpmpcmmdiaiiaaDoor
open Go.RowKit
set_option linter.unusedVariables false
set_option linter.unusedSimpArgs false

theorem told_blocks (G : Array Value) (o : OpV) (hh : o.h.length = 32) (k : Int) (w : World) : ∃ wx, wx = ((w.alloc (.cells G 42)).alloc (.cells (o.c k) 35)).alloc (.cells gz 42) ∧ Below w.heap.size w wx ∧ wx.heap.size = w.heap.size + 3 ∧ wx.heap[w.heap.size]? = some (.cells G 42 (0, 0)) ∧ wx.heap[w.heap.size + 2]? = some (.cells gz 42 (0, 0)) ∧ OpAt wx (w.heap.size + 1) (.int .i64 k) (.int .u8 o.b) (.bool o.v) (.int .u64 (o.u : Int)) (.int .i64 o.n) (.float .f64 o.f) (.string o.s) (.slice o.ra o.rn o.rc) o.h (.slice o.la o.ln o.lc) (.int .i64 o.e) := by
  obtain ⟨h1, h2, h3, h4⟩ := alloc3 w (.cells G 42) (.cells (o.c k) 35) (.cells gz 42)
  exact ⟨_, rfl, bel3 _ _ _ _, h4, h1, h3, opAt_row hh h2 rfl⟩
theorem alloc2_size (w : World) (a b : Obj) : ((w.alloc a).alloc b).heap.size = w.heap.size + 2 := by simp

set_option maxRecDepth 100000 in
set_option maxHeartbeats 2000000 in
theorem told_0 (G : Array Value) (hGs : G.size = 40) (o : OpV) (hh : o.h.length = 32) (w : World) (HS : Hid (∀ wx, Below w.heap.size w wx → Calls Tryd.prog 10 #[.agg G, .agg (gC (.int .u8 o.b) (.bool false) (.int .u64 0) (.int .i64 0) (.float .f64 0) (.string ⟨#[]⟩) (.slice none 0 0) z32 (.slice none 0 0))] wx fun e w' => e = .returned (.bool true) ∧ Below wx.heap.size wx w')) :
    Calls Tryd.prog 18 #[.agg G, .agg (o.c 0)] w fun e w' => e = .returned (.bool true) ∧ Below w.heap.size w w' := by
  obtain ⟨wx, hwx, bx, sx, g0, g2, ⟨r0, r1, r2, r3, r4, r5, r6, r7, rh, r40, r41⟩⟩ := told_blocks G o hh 0 w
  have ec : gz.setIfInBounds 0 (.int .u8 o.b) = gC (.int .u8 o.b) (.bool false) (.int .u64 0) (.int .i64 0) (.float .f64 0) (.string ⟨#[]⟩) (.slice none 0 0) z32 (.slice none 0 0) := rfl
  have Q2 : Hid ((wx.setCell ⟨w.heap.size + 2, 0, none⟩ (.int .u8 o.b)).heap[w.heap.size + 2]? = some (.cells (gC (.int .u8 o.b) (.bool false) (.int .u64 0) (.int .i64 0) (.float .f64 0) (.string ⟨#[]⟩) (.slice none 0 0) z32 (.slice none 0 0)) 42 (0, 0))) := by show _ = _; rw [heap_setCell_same wx _ 0 _ 42 _ g2, ec]
  have Q0 : Hid ((wx.setCell ⟨w.heap.size + 2, 0, none⟩ (.int .u8 o.b)).heap[w.heap.size]? = some (.cells G 42 (0, 0))) := by show _ = _; rw [Below.heap_setCell _ _ _ _ (by show w.heap.size ≠ w.heap.size + 2; omega)]; exact g0
  have BY : Hid (Below w.heap.size w (wx.setCell ⟨w.heap.size + 2, 0, none⟩ (.int .u8 o.b))) := bx.setCell (by show w.heap.size ≤ w.heap.size + 2; omega) _
  have c2 := (cell_of_row wx (w.heap.size + 2) 0 _ _ _ g2).trans (rfl : gz[0]? = some (.int .u8 0))
  have f2 := frozen_of_row wx (w.heap.size + 2) 0 _ _ g2
  have hcz : (gC (.int .u8 o.b) (.bool false) (.int .u64 0) (.int .i64 0) (.float .f64 0) (.string ⟨#[]⟩) (.slice none 0 0) z32 (.slice none 0 0)).size = 40 := gC_size z32_len
  have hbg := hbG
  have hgo : gz.all (·.oneCell') = true := gC_one rfl rfl rfl rfl rfl rfl rfl rfl
  have HA2 := K.Hid.mk' (alloc2_size w (.cells G 42) (.cells (o.c 0) 35))
  clear bx sx g0 g2 rh ec
  generalize gC (.int .u8 o.b) (.bool false) (.int .u64 0) (.int .i64 0) (.float .f64 0) (.string ⟨#[]⟩) (.slice none 0 0) z32 (.slice none 0 0) = EX at *
  generalize o.c 0 = C at *
  go_enter Tryd.func18, Tryd.ntmps18
  go_upto_region 2 with (first
    | (refine wpList_build_row rfl 42 rfl gz hbg ?_)
    | (refine wpList_alloc_row rfl 42 rfl gz (hzG _) ?_)
    | (refine wpList_store_row rfl 42 _ _ rfl ((w.alloc (.cells G 42)).alloc (.cells C 35)).heap.size gz rfl rfl 42 gz (heap_alloc_new _ _) (by rw [gz_size]; exact sizeGot) rfl hgo ?_; rw [World.setRow_alloc_new, ← hwx])
    | fail)
  simp only [Act.put, List.setIfInBounds_toArray, List.set_cons_zero, List.set_cons_succ]
  rw [HA2.out]
  clear hwx HA2 hbg hgo
  go_wp2_with (first
    | (refine wpList_load_arr rfl 42 _ rfl w.heap.size rfl 42 G (0, 0) _ Q0.out Tryd.underlying42 rfl (by rw [hGs]; exact sizeGot) ?_)
    | (refine wpList_load_arr rfl 42 _ rfl (w.heap.size + 2) rfl 42 EX (0, 0) _ Q2.out Tryd.underlying42 rfl (by rw [hcz]; exact sizeGot) ?_)
    | fail)
  refine (HS.out _ BY.out).mono ?_
  rintro e w4 ⟨rfl, b4⟩
  have B4 : Hid (Below w.heap.size w w4) := BY.out.trans (b4.mono BY.out.size)
  clear b4 HS
  go_wp2
  go_ret
  exact ⟨rfl, B4.out⟩

set_option maxRecDepth 100000 in
set_option maxHeartbeats 2000000 in
theorem told_1 (G : Array Value) (hGs : G.size = 40) (o : OpV) (hh : o.h.length = 32) (w : World) (HS : Hid (∀ wx, Below w.heap.size w wx → Calls Tryd.prog 10 #[.agg G, .agg (gC (.int .u8 0) (.bool o.v) (.int .u64 0) (.int .i64 0) (.float .f64 0) (.string ⟨#[]⟩) (.slice none 0 0) z32 (.slice none 0 0))] wx fun e w' => e = .returned (.bool true) ∧ Below wx.heap.size wx w')) :
    Calls Tryd.prog 18 #[.agg G, .agg (o.c 1)] w fun e w' => e = .returned (.bool true) ∧ Below w.heap.size w w' := by
  obtain ⟨wx, hwx, bx, sx, g0, g2, ⟨r0, r1, r2, r3, r4, r5, r6, r7, rh, r40, r41⟩⟩ := told_blocks G o hh 1 w
  have ec : gz.setIfInBounds 1 (.bool o.v) = gC (.int .u8 0) (.bool o.v) (.int .u64 0) (.int .i64 0) (.float .f64 0) (.string ⟨#[]⟩) (.slice none 0 0) z32 (.slice none 0 0) := rfl
  have Q2 : Hid ((wx.setCell ⟨w.heap.size + 2, 1, none⟩ (.bool o.v)).heap[w.heap.size + 2]? = some (.cells (gC (.int .u8 0) (.bool o.v) (.int .u64 0) (.int .i64 0) (.float .f64 0) (.string ⟨#[]⟩) (.slice none 0 0) z32 (.slice none 0 0)) 42 (0, 0))) := by show _ = _; rw [heap_setCell_same wx _ 1 _ 42 _ g2, ec]
  have Q0 : Hid ((wx.setCell ⟨w.heap.size + 2, 1, none⟩ (.bool o.v)).heap[w.heap.size]? = some (.cells G 42 (0, 0))) := by show _ = _; rw [Below.heap_setCell _ _ _ _ (by show w.heap.size ≠ w.heap.size + 2; omega)]; exact g0
  have BY : Hid (Below w.heap.size w (wx.setCell ⟨w.heap.size + 2, 1, none⟩ (.bool o.v))) := bx.setCell (by show w.heap.size ≤ w.heap.size + 2; omega) _
  have c2 := (cell_of_row wx (w.heap.size + 2) 1 _ _ _ g2).trans (rfl : gz[1]? = some (.bool false))
  have f2 := frozen_of_row wx (w.heap.size + 2) 1 _ _ g2
  have hcz : (gC (.int .u8 0) (.bool o.v) (.int .u64 0) (.int .i64 0) (.float .f64 0) (.string ⟨#[]⟩) (.slice none 0 0) z32 (.slice none 0 0)).size = 40 := gC_size z32_len
  have hbg := hbG
  have hgo : gz.all (·.oneCell') = true := gC_one rfl rfl rfl rfl rfl rfl rfl rfl
  have HA2 := K.Hid.mk' (alloc2_size w (.cells G 42) (.cells (o.c 1) 35))
  clear bx sx g0 g2 rh ec
  generalize gC (.int .u8 0) (.bool o.v) (.int .u64 0) (.int .i64 0) (.float .f64 0) (.string ⟨#[]⟩) (.slice none 0 0) z32 (.slice none 0 0) = EX at *
  generalize o.c 1 = C at *
  go_enter Tryd.func18, Tryd.ntmps18
  go_upto_region 2 with (first
    | (refine wpList_build_row rfl 42 rfl gz hbg ?_)
    | (refine wpList_alloc_row rfl 42 rfl gz (hzG _) ?_)
    | (refine wpList_store_row rfl 42 _ _ rfl ((w.alloc (.cells G 42)).alloc (.cells C 35)).heap.size gz rfl rfl 42 gz (heap_alloc_new _ _) (by rw [gz_size]; exact sizeGot) rfl hgo ?_; rw [World.setRow_alloc_new, ← hwx])
    | fail)
  simp only [Act.put, List.setIfInBounds_toArray, List.set_cons_zero, List.set_cons_succ]
  rw [HA2.out]
  clear hwx HA2 hbg hgo
  go_wp2_with (first
    | (refine wpList_load_arr rfl 42 _ rfl w.heap.size rfl 42 G (0, 0) _ Q0.out Tryd.underlying42 rfl (by rw [hGs]; exact sizeGot) ?_)
    | (refine wpList_load_arr rfl 42 _ rfl (w.heap.size + 2) rfl 42 EX (0, 0) _ Q2.out Tryd.underlying42 rfl (by rw [hcz]; exact sizeGot) ?_)
    | fail)
  refine (HS.out _ BY.out).mono ?_
  rintro e w4 ⟨rfl, b4⟩
  have B4 : Hid (Below w.heap.size w w4) := BY.out.trans (b4.mono BY.out.size)
  clear b4 HS
  go_wp2
  go_ret
  exact ⟨rfl, B4.out⟩

set_option maxRecDepth 100000 in
set_option maxHeartbeats 2000000 in
theorem told_2 (G : Array Value) (hGs : G.size = 40) (o : OpV) (hh : o.h.length = 32) (w : World) (HS : Hid (∀ wx, Below w.heap.size w wx → Calls Tryd.prog 10 #[.agg G, .agg (gC (.int .u8 0) (.bool false) (.int .u64 ((o.u : Int) % 4294967296)) (.int .i64 0) (.float .f64 0) (.string ⟨#[]⟩) (.slice none 0 0) z32 (.slice none 0 0))] wx fun e w' => e = .returned (.bool true) ∧ Below wx.heap.size wx w')) :
    Calls Tryd.prog 18 #[.agg G, .agg (o.c 2)] w fun e w' => e = .returned (.bool true) ∧ Below w.heap.size w w' := by
  obtain ⟨wx, hwx, bx, sx, g0, g2, ⟨r0, r1, r2, r3, r4, r5, r6, r7, rh, r40, r41⟩⟩ := told_blocks G o hh 2 w
  have ec : gz.setIfInBounds 2 (.int .u64 ((o.u : Int) % 4294967296)) = gC (.int .u8 0) (.bool false) (.int .u64 ((o.u : Int) % 4294967296)) (.int .i64 0) (.float .f64 0) (.string ⟨#[]⟩) (.slice none 0 0) z32 (.slice none 0 0) := rfl
  have Q2 : Hid ((wx.setCell ⟨w.heap.size + 2, 2, none⟩ (.int .u64 ((o.u : Int) % 4294967296))).heap[w.heap.size + 2]? = some (.cells (gC (.int .u8 0) (.bool false) (.int .u64 ((o.u : Int) % 4294967296)) (.int .i64 0) (.float .f64 0) (.string ⟨#[]⟩) (.slice none 0 0) z32 (.slice none 0 0)) 42 (0, 0))) := by show _ = _; rw [heap_setCell_same wx _ 2 _ 42 _ g2, ec]
  have Q0 : Hid ((wx.setCell ⟨w.heap.size + 2, 2, none⟩ (.int .u64 ((o.u : Int) % 4294967296))).heap[w.heap.size]? = some (.cells G 42 (0, 0))) := by show _ = _; rw [Below.heap_setCell _ _ _ _ (by show w.heap.size ≠ w.heap.size + 2; omega)]; exact g0
  have BY : Hid (Below w.heap.size w (wx.setCell ⟨w.heap.size + 2, 2, none⟩ (.int .u64 ((o.u : Int) % 4294967296)))) := bx.setCell (by show w.heap.size ≤ w.heap.size + 2; omega) _
  have c2 := (cell_of_row wx (w.heap.size + 2) 2 _ _ _ g2).trans (rfl : gz[2]? = some (.int .u64 0))
  have f2 := frozen_of_row wx (w.heap.size + 2) 2 _ _ g2
  have hcz : (gC (.int .u8 0) (.bool false) (.int .u64 ((o.u : Int) % 4294967296)) (.int .i64 0) (.float .f64 0) (.string ⟨#[]⟩) (.slice none 0 0) z32 (.slice none 0 0)).size = 40 := gC_size z32_len
  have hbg := hbG
  have hgo : gz.all (·.oneCell') = true := gC_one rfl rfl rfl rfl rfl rfl rfl rfl
  have HA2 := K.Hid.mk' (alloc2_size w (.cells G 42) (.cells (o.c 2) 35))
  clear bx sx g0 g2 rh ec
  generalize gC (.int .u8 0) (.bool false) (.int .u64 ((o.u : Int) % 4294967296)) (.int .i64 0) (.float .f64 0) (.string ⟨#[]⟩) (.slice none 0 0) z32 (.slice none 0 0) = EX at *
  generalize o.c 2 = C at *
  go_enter Tryd.func18, Tryd.ntmps18
  go_upto_region 2 with (first
    | (refine wpList_build_row rfl 42 rfl gz hbg ?_)
    | (refine wpList_alloc_row rfl 42 rfl gz (hzG _) ?_)
    | (refine wpList_store_row rfl 42 _ _ rfl ((w.alloc (.cells G 42)).alloc (.cells C 35)).heap.size gz rfl rfl 42 gz (heap_alloc_new _ _) (by rw [gz_size]; exact sizeGot) rfl hgo ?_; rw [World.setRow_alloc_new, ← hwx])
    | fail)
  simp only [Act.put, List.setIfInBounds_toArray, List.set_cons_zero, List.set_cons_succ]
  rw [HA2.out]
  clear hwx HA2 hbg hgo
  go_wp2_with (first
    | (refine wpList_load_arr rfl 42 _ rfl w.heap.size rfl 42 G (0, 0) _ Q0.out Tryd.underlying42 rfl (by rw [hGs]; exact sizeGot) ?_)
    | (refine wpList_load_arr rfl 42 _ rfl (w.heap.size + 2) rfl 42 EX (0, 0) _ Q2.out Tryd.underlying42 rfl (by rw [hcz]; exact sizeGot) ?_)
    | fail)
  refine (HS.out _ BY.out).mono ?_
  rintro e w4 ⟨rfl, b4⟩
  have B4 : Hid (Below w.heap.size w w4) := BY.out.trans (b4.mono BY.out.size)
  clear b4 HS
  go_wp2
  go_ret
  exact ⟨rfl, B4.out⟩

set_option maxRecDepth 100000 in
set_option maxHeartbeats 2000000 in
theorem told_3 (G : Array Value) (hGs : G.size = 40) (o : OpV) (hh : o.h.length = 32) (w : World) (HS : Hid (∀ wx, Below w.heap.size w wx → Calls Tryd.prog 10 #[.agg G, .agg (gC (.int .u8 0) (.bool false) (.int .u64 (o.u : Int)) (.int .i64 0) (.float .f64 0) (.string ⟨#[]⟩) (.slice none 0 0) z32 (.slice none 0 0))] wx fun e w' => e = .returned (.bool true) ∧ Below wx.heap.size wx w')) :
    Calls Tryd.prog 18 #[.agg G, .agg (o.c 3)] w fun e w' => e = .returned (.bool true) ∧ Below w.heap.size w w' := by
  obtain ⟨wx, hwx, bx, sx, g0, g2, ⟨r0, r1, r2, r3, r4, r5, r6, r7, rh, r40, r41⟩⟩ := told_blocks G o hh 3 w
  have ec : gz.setIfInBounds 2 (.int .u64 (o.u : Int)) = gC (.int .u8 0) (.bool false) (.int .u64 (o.u : Int)) (.int .i64 0) (.float .f64 0) (.string ⟨#[]⟩) (.slice none 0 0) z32 (.slice none 0 0) := rfl
  have Q2 : Hid ((wx.setCell ⟨w.heap.size + 2, 2, none⟩ (.int .u64 (o.u : Int))).heap[w.heap.size + 2]? = some (.cells (gC (.int .u8 0) (.bool false) (.int .u64 (o.u : Int)) (.int .i64 0) (.float .f64 0) (.string ⟨#[]⟩) (.slice none 0 0) z32 (.slice none 0 0)) 42 (0, 0))) := by show _ = _; rw [heap_setCell_same wx _ 2 _ 42 _ g2, ec]
  have Q0 : Hid ((wx.setCell ⟨w.heap.size + 2, 2, none⟩ (.int .u64 (o.u : Int))).heap[w.heap.size]? = some (.cells G 42 (0, 0))) := by show _ = _; rw [Below.heap_setCell _ _ _ _ (by show w.heap.size ≠ w.heap.size + 2; omega)]; exact g0
  have BY : Hid (Below w.heap.size w (wx.setCell ⟨w.heap.size + 2, 2, none⟩ (.int .u64 (o.u : Int)))) := bx.setCell (by show w.heap.size ≤ w.heap.size + 2; omega) _
  have c2 := (cell_of_row wx (w.heap.size + 2) 2 _ _ _ g2).trans (rfl : gz[2]? = some (.int .u64 0))
  have f2 := frozen_of_row wx (w.heap.size + 2) 2 _ _ g2
  have hcz : (gC (.int .u8 0) (.bool false) (.int .u64 (o.u : Int)) (.int .i64 0) (.float .f64 0) (.string ⟨#[]⟩) (.slice none 0 0) z32 (.slice none 0 0)).size = 40 := gC_size z32_len
  have hbg := hbG
  have hgo : gz.all (·.oneCell') = true := gC_one rfl rfl rfl rfl rfl rfl rfl rfl
  have HA2 := K.Hid.mk' (alloc2_size w (.cells G 42) (.cells (o.c 3) 35))
  clear bx sx g0 g2 rh ec
  generalize gC (.int .u8 0) (.bool false) (.int .u64 (o.u : Int)) (.int .i64 0) (.float .f64 0) (.string ⟨#[]⟩) (.slice none 0 0) z32 (.slice none 0 0) = EX at *
  generalize o.c 3 = C at *
  go_enter Tryd.func18, Tryd.ntmps18
  go_upto_region 2 with (first
    | (refine wpList_build_row rfl 42 rfl gz hbg ?_)
    | (refine wpList_alloc_row rfl 42 rfl gz (hzG _) ?_)
    | (refine wpList_store_row rfl 42 _ _ rfl ((w.alloc (.cells G 42)).alloc (.cells C 35)).heap.size gz rfl rfl 42 gz (heap_alloc_new _ _) (by rw [gz_size]; exact sizeGot) rfl hgo ?_; rw [World.setRow_alloc_new, ← hwx])
    | fail)
  simp only [Act.put, List.setIfInBounds_toArray, List.set_cons_zero, List.set_cons_succ]
  rw [HA2.out]
  clear hwx HA2 hbg hgo
  go_wp2_with (first
    | (refine wpList_load_arr rfl 42 _ rfl w.heap.size rfl 42 G (0, 0) _ Q0.out Tryd.underlying42 rfl (by rw [hGs]; exact sizeGot) ?_)
    | (refine wpList_load_arr rfl 42 _ rfl (w.heap.size + 2) rfl 42 EX (0, 0) _ Q2.out Tryd.underlying42 rfl (by rw [hcz]; exact sizeGot) ?_)
    | fail)
  refine (HS.out _ BY.out).mono ?_
  rintro e w4 ⟨rfl, b4⟩
  have B4 : Hid (Below w.heap.size w w4) := BY.out.trans (b4.mono BY.out.size)
  clear b4 HS
  go_wp2
  go_ret
  exact ⟨rfl, B4.out⟩

set_option maxRecDepth 100000 in
set_option maxHeartbeats 2000000 in
theorem told_4 (G : Array Value) (hGs : G.size = 40) (o : OpV) (hh : o.h.length = 32) (w : World) (HS : Hid (∀ wx, Below w.heap.size w wx → Calls Tryd.prog 10 #[.agg G, .agg (gC (.int .u8 0) (.bool false) (.int .u64 0) (.int .i64 o.n) (.float .f64 0) (.string ⟨#[]⟩) (.slice none 0 0) z32 (.slice none 0 0))] wx fun e w' => e = .returned (.bool true) ∧ Below wx.heap.size wx w')) :
    Calls Tryd.prog 18 #[.agg G, .agg (o.c 4)] w fun e w' => e = .returned (.bool true) ∧ Below w.heap.size w w' := by
  obtain ⟨wx, hwx, bx, sx, g0, g2, ⟨r0, r1, r2, r3, r4, r5, r6, r7, rh, r40, r41⟩⟩ := told_blocks G o hh 4 w
  have ec : gz.setIfInBounds 3 (.int .i64 o.n) = gC (.int .u8 0) (.bool false) (.int .u64 0) (.int .i64 o.n) (.float .f64 0) (.string ⟨#[]⟩) (.slice none 0 0) z32 (.slice none 0 0) := rfl
  have Q2 : Hid ((wx.setCell ⟨w.heap.size + 2, 3, none⟩ (.int .i64 o.n)).heap[w.heap.size + 2]? = some (.cells (gC (.int .u8 0) (.bool false) (.int .u64 0) (.int .i64 o.n) (.float .f64 0) (.string ⟨#[]⟩) (.slice none 0 0) z32 (.slice none 0 0)) 42 (0, 0))) := by show _ = _; rw [heap_setCell_same wx _ 3 _ 42 _ g2, ec]
  have Q0 : Hid ((wx.setCell ⟨w.heap.size + 2, 3, none⟩ (.int .i64 o.n)).heap[w.heap.size]? = some (.cells G 42 (0, 0))) := by show _ = _; rw [Below.heap_setCell _ _ _ _ (by show w.heap.size ≠ w.heap.size + 2; omega)]; exact g0
  have BY : Hid (Below w.heap.size w (wx.setCell ⟨w.heap.size + 2, 3, none⟩ (.int .i64 o.n))) := bx.setCell (by show w.heap.size ≤ w.heap.size + 2; omega) _
  have c2 := (cell_of_row wx (w.heap.size + 2) 3 _ _ _ g2).trans (rfl : gz[3]? = some (.int .i64 0))
  have f2 := frozen_of_row wx (w.heap.size + 2) 3 _ _ g2
  have hcz : (gC (.int .u8 0) (.bool false) (.int .u64 0) (.int .i64 o.n) (.float .f64 0) (.string ⟨#[]⟩) (.slice none 0 0) z32 (.slice none 0 0)).size = 40 := gC_size z32_len
  have hbg := hbG
  have hgo : gz.all (·.oneCell') = true := gC_one rfl rfl rfl rfl rfl rfl rfl rfl
  have HA2 := K.Hid.mk' (alloc2_size w (.cells G 42) (.cells (o.c 4) 35))
  clear bx sx g0 g2 rh ec
  generalize gC (.int .u8 0) (.bool false) (.int .u64 0) (.int .i64 o.n) (.float .f64 0) (.string ⟨#[]⟩) (.slice none 0 0) z32 (.slice none 0 0) = EX at *
  generalize o.c 4 = C at *
  go_enter Tryd.func18, Tryd.ntmps18
  go_upto_region 2 with (first
    | (refine wpList_build_row rfl 42 rfl gz hbg ?_)
    | (refine wpList_alloc_row rfl 42 rfl gz (hzG _) ?_)
    | (refine wpList_store_row rfl 42 _ _ rfl ((w.alloc (.cells G 42)).alloc (.cells C 35)).heap.size gz rfl rfl 42 gz (heap_alloc_new _ _) (by rw [gz_size]; exact sizeGot) rfl hgo ?_; rw [World.setRow_alloc_new, ← hwx])
    | fail)
  simp only [Act.put, List.setIfInBounds_toArray, List.set_cons_zero, List.set_cons_succ]
  rw [HA2.out]
  clear hwx HA2 hbg hgo
  go_wp2_with (first
    | (refine wpList_load_arr rfl 42 _ rfl w.heap.size rfl 42 G (0, 0) _ Q0.out Tryd.underlying42 rfl (by rw [hGs]; exact sizeGot) ?_)
    | (refine wpList_load_arr rfl 42 _ rfl (w.heap.size + 2) rfl 42 EX (0, 0) _ Q2.out Tryd.underlying42 rfl (by rw [hcz]; exact sizeGot) ?_)
    | fail)
  refine (HS.out _ BY.out).mono ?_
  rintro e w4 ⟨rfl, b4⟩
  have B4 : Hid (Below w.heap.size w w4) := BY.out.trans (b4.mono BY.out.size)
  clear b4 HS
  go_wp2
  go_ret
  exact ⟨rfl, B4.out⟩

set_option maxRecDepth 100000 in
set_option maxHeartbeats 2000000 in
theorem told_5 (G : Array Value) (hGs : G.size = 40) (o : OpV) (hh : o.h.length = 32) (hz : (FloatKind.f64.format.order o.f 0 == some .eq) = false) (w : World) (HS : Hid (∀ wx, Below w.heap.size w wx → Calls Tryd.prog 10 #[.agg G, .agg (gC (.int .u8 0) (.bool false) (.int .u64 0) (.int .i64 0) (.float .f64 o.f) (.string ⟨#[]⟩) (.slice none 0 0) z32 (.slice none 0 0))] wx fun e w' => e = .returned (.bool true) ∧ Below wx.heap.size wx w')) :
    Calls Tryd.prog 18 #[.agg G, .agg (o.c 5)] w fun e w' => e = .returned (.bool true) ∧ Below w.heap.size w w' := by
  obtain ⟨wx, hwx, bx, sx, g0, g2, ⟨r0, r1, r2, r3, r4, r5, r6, r7, rh, r40, r41⟩⟩ := told_blocks G o hh 5 w
  have ec : gz.setIfInBounds 4 (.float .f64 o.f) = gC (.int .u8 0) (.bool false) (.int .u64 0) (.int .i64 0) (.float .f64 o.f) (.string ⟨#[]⟩) (.slice none 0 0) z32 (.slice none 0 0) := rfl
  have Q2 : Hid ((wx.setCell ⟨w.heap.size + 2, 4, none⟩ (.float .f64 o.f)).heap[w.heap.size + 2]? = some (.cells (gC (.int .u8 0) (.bool false) (.int .u64 0) (.int .i64 0) (.float .f64 o.f) (.string ⟨#[]⟩) (.slice none 0 0) z32 (.slice none 0 0)) 42 (0, 0))) := by show _ = _; rw [heap_setCell_same wx _ 4 _ 42 _ g2, ec]
  have Q0 : Hid ((wx.setCell ⟨w.heap.size + 2, 4, none⟩ (.float .f64 o.f)).heap[w.heap.size]? = some (.cells G 42 (0, 0))) := by show _ = _; rw [Below.heap_setCell _ _ _ _ (by show w.heap.size ≠ w.heap.size + 2; omega)]; exact g0
  have BY : Hid (Below w.heap.size w (wx.setCell ⟨w.heap.size + 2, 4, none⟩ (.float .f64 o.f))) := bx.setCell (by show w.heap.size ≤ w.heap.size + 2; omega) _
  have c2 := (cell_of_row wx (w.heap.size + 2) 4 _ _ _ g2).trans (rfl : gz[4]? = some (.float .f64 0))
  have f2 := frozen_of_row wx (w.heap.size + 2) 4 _ _ g2
  have hcz : (gC (.int .u8 0) (.bool false) (.int .u64 0) (.int .i64 0) (.float .f64 o.f) (.string ⟨#[]⟩) (.slice none 0 0) z32 (.slice none 0 0)).size = 40 := gC_size z32_len
  have hbg := hbG
  have hgo : gz.all (·.oneCell') = true := gC_one rfl rfl rfl rfl rfl rfl rfl rfl
  have HA2 := K.Hid.mk' (alloc2_size w (.cells G 42) (.cells (o.c 5) 35))
  clear bx sx g0 g2 rh ec
  generalize gC (.int .u8 0) (.bool false) (.int .u64 0) (.int .i64 0) (.float .f64 o.f) (.string ⟨#[]⟩) (.slice none 0 0) z32 (.slice none 0 0) = EX at *
  generalize o.c 5 = C at *
  go_enter Tryd.func18, Tryd.ntmps18
  go_upto_region 2 with (first
    | (refine wpList_build_row rfl 42 rfl gz hbg ?_)
    | (refine wpList_alloc_row rfl 42 rfl gz (hzG _) ?_)
    | (refine wpList_store_row rfl 42 _ _ rfl ((w.alloc (.cells G 42)).alloc (.cells C 35)).heap.size gz rfl rfl 42 gz (heap_alloc_new _ _) (by rw [gz_size]; exact sizeGot) rfl hgo ?_; rw [World.setRow_alloc_new, ← hwx])
    | fail)
  simp only [Act.put, List.setIfInBounds_toArray, List.set_cons_zero, List.set_cons_succ]
  rw [HA2.out]
  clear hwx HA2 hbg hgo
  go_wp2_with (first
    | (refine wpList_load_arr rfl 42 _ rfl w.heap.size rfl 42 G (0, 0) _ Q0.out Tryd.underlying42 rfl (by rw [hGs]; exact sizeGot) ?_)
    | (refine wpList_load_arr rfl 42 _ rfl (w.heap.size + 2) rfl 42 EX (0, 0) _ Q2.out Tryd.underlying42 rfl (by rw [hcz]; exact sizeGot) ?_)
    | fail)
  refine (HS.out _ BY.out).mono ?_
  rintro e w4 ⟨rfl, b4⟩
  have B4 : Hid (Below w.heap.size w w4) := BY.out.trans (b4.mono BY.out.size)
  clear b4 HS
  go_wp2
  go_ret
  exact ⟨rfl, B4.out⟩

set_option maxRecDepth 100000 in
set_option maxHeartbeats 2000000 in
theorem told_6 (G : Array Value) (hGs : G.size = 40) (o : OpV) (hh : o.h.length = 32) (w : World) (HS : Hid (∀ wx, Below w.heap.size w wx → Calls Tryd.prog 10 #[.agg G, .agg (gC (.int .u8 0) (.bool false) (.int .u64 0) (.int .i64 0) (.float .f64 0) (.string o.s) (.slice none 0 0) z32 (.slice none 0 0))] wx fun e w' => e = .returned (.bool true) ∧ Below wx.heap.size wx w')) :
    Calls Tryd.prog 18 #[.agg G, .agg (o.c 6)] w fun e w' => e = .returned (.bool true) ∧ Below w.heap.size w w' := by
  obtain ⟨wx, hwx, bx, sx, g0, g2, ⟨r0, r1, r2, r3, r4, r5, r6, r7, rh, r40, r41⟩⟩ := told_blocks G o hh 6 w
  have ec : gz.setIfInBounds 5 (.string o.s) = gC (.int .u8 0) (.bool false) (.int .u64 0) (.int .i64 0) (.float .f64 0) (.string o.s) (.slice none 0 0) z32 (.slice none 0 0) := rfl
  have Q2 : Hid ((wx.setCell ⟨w.heap.size + 2, 5, none⟩ (.string o.s)).heap[w.heap.size + 2]? = some (.cells (gC (.int .u8 0) (.bool false) (.int .u64 0) (.int .i64 0) (.float .f64 0) (.string o.s) (.slice none 0 0) z32 (.slice none 0 0)) 42 (0, 0))) := by show _ = _; rw [heap_setCell_same wx _ 5 _ 42 _ g2, ec]
  have Q0 : Hid ((wx.setCell ⟨w.heap.size + 2, 5, none⟩ (.string o.s)).heap[w.heap.size]? = some (.cells G 42 (0, 0))) := by show _ = _; rw [Below.heap_setCell _ _ _ _ (by show w.heap.size ≠ w.heap.size + 2; omega)]; exact g0
  have BY : Hid (Below w.heap.size w (wx.setCell ⟨w.heap.size + 2, 5, none⟩ (.string o.s))) := bx.setCell (by show w.heap.size ≤ w.heap.size + 2; omega) _
  have c2 := (cell_of_row wx (w.heap.size + 2) 5 _ _ _ g2).trans (rfl : gz[5]? = some (.string ⟨#[]⟩))
  have f2 := frozen_of_row wx (w.heap.size + 2) 5 _ _ g2
  have hcz : (gC (.int .u8 0) (.bool false) (.int .u64 0) (.int .i64 0) (.float .f64 0) (.string o.s) (.slice none 0 0) z32 (.slice none 0 0)).size = 40 := gC_size z32_len
  have hbg := hbG
  have hgo : gz.all (·.oneCell') = true := gC_one rfl rfl rfl rfl rfl rfl rfl rfl
  have HA2 := K.Hid.mk' (alloc2_size w (.cells G 42) (.cells (o.c 6) 35))
  clear bx sx g0 g2 rh ec
  generalize gC (.int .u8 0) (.bool false) (.int .u64 0) (.int .i64 0) (.float .f64 0) (.string o.s) (.slice none 0 0) z32 (.slice none 0 0) = EX at *
  generalize o.c 6 = C at *
  go_enter Tryd.func18, Tryd.ntmps18
  go_upto_region 2 with (first
    | (refine wpList_build_row rfl 42 rfl gz hbg ?_)
    | (refine wpList_alloc_row rfl 42 rfl gz (hzG _) ?_)
    | (refine wpList_store_row rfl 42 _ _ rfl ((w.alloc (.cells G 42)).alloc (.cells C 35)).heap.size gz rfl rfl 42 gz (heap_alloc_new _ _) (by rw [gz_size]; exact sizeGot) rfl hgo ?_; rw [World.setRow_alloc_new, ← hwx])
    | fail)
  simp only [Act.put, List.setIfInBounds_toArray, List.set_cons_zero, List.set_cons_succ]
  rw [HA2.out]
  clear hwx HA2 hbg hgo
  go_wp2_with (first
    | (refine wpList_load_arr rfl 42 _ rfl w.heap.size rfl 42 G (0, 0) _ Q0.out Tryd.underlying42 rfl (by rw [hGs]; exact sizeGot) ?_)
    | (refine wpList_load_arr rfl 42 _ rfl (w.heap.size + 2) rfl 42 EX (0, 0) _ Q2.out Tryd.underlying42 rfl (by rw [hcz]; exact sizeGot) ?_)
    | fail)
  refine (HS.out _ BY.out).mono ?_
  rintro e w4 ⟨rfl, b4⟩
  have B4 : Hid (Below w.heap.size w w4) := BY.out.trans (b4.mono BY.out.size)
  clear b4 HS
  go_wp2
  go_ret
  exact ⟨rfl, B4.out⟩

set_option maxRecDepth 100000 in
set_option maxHeartbeats 2000000 in
theorem told_7 (G : Array Value) (hGs : G.size = 40) (o : OpV) (hh : o.h.length = 32) (w : World) (HS : Hid (∀ wx, Below w.heap.size w wx → Calls Tryd.prog 10 #[.agg G, .agg (gC (.int .u8 0) (.bool false) (.int .u64 0) (.int .i64 0) (.float .f64 0) (.string ⟨#[]⟩) (.slice o.ra o.rn o.rc) z32 (.slice none 0 0))] wx fun e w' => e = .returned (.bool true) ∧ Below wx.heap.size wx w')) :
    Calls Tryd.prog 18 #[.agg G, .agg (o.c 7)] w fun e w' => e = .returned (.bool true) ∧ Below w.heap.size w w' := by
  obtain ⟨wx, hwx, bx, sx, g0, g2, ⟨r0, r1, r2, r3, r4, r5, r6, r7, rh, r40, r41⟩⟩ := told_blocks G o hh 7 w
  have ec : gz.setIfInBounds 6 (.slice o.ra o.rn o.rc) = gC (.int .u8 0) (.bool false) (.int .u64 0) (.int .i64 0) (.float .f64 0) (.string ⟨#[]⟩) (.slice o.ra o.rn o.rc) z32 (.slice none 0 0) := rfl
  have Q2 : Hid ((wx.setCell ⟨w.heap.size + 2, 6, none⟩ (.slice o.ra o.rn o.rc)).heap[w.heap.size + 2]? = some (.cells (gC (.int .u8 0) (.bool false) (.int .u64 0) (.int .i64 0) (.float .f64 0) (.string ⟨#[]⟩) (.slice o.ra o.rn o.rc) z32 (.slice none 0 0)) 42 (0, 0))) := by show _ = _; rw [heap_setCell_same wx _ 6 _ 42 _ g2, ec]
  have Q0 : Hid ((wx.setCell ⟨w.heap.size + 2, 6, none⟩ (.slice o.ra o.rn o.rc)).heap[w.heap.size]? = some (.cells G 42 (0, 0))) := by show _ = _; rw [Below.heap_setCell _ _ _ _ (by show w.heap.size ≠ w.heap.size + 2; omega)]; exact g0
  have BY : Hid (Below w.heap.size w (wx.setCell ⟨w.heap.size + 2, 6, none⟩ (.slice o.ra o.rn o.rc))) := bx.setCell (by show w.heap.size ≤ w.heap.size + 2; omega) _
  have c2 := (cell_of_row wx (w.heap.size + 2) 6 _ _ _ g2).trans (rfl : gz[6]? = some (.slice none 0 0))
  have f2 := frozen_of_row wx (w.heap.size + 2) 6 _ _ g2
  have hcz : (gC (.int .u8 0) (.bool false) (.int .u64 0) (.int .i64 0) (.float .f64 0) (.string ⟨#[]⟩) (.slice o.ra o.rn o.rc) z32 (.slice none 0 0)).size = 40 := gC_size z32_len
  have hbg := hbG
  have hgo : gz.all (·.oneCell') = true := gC_one rfl rfl rfl rfl rfl rfl rfl rfl
  have HA2 := K.Hid.mk' (alloc2_size w (.cells G 42) (.cells (o.c 7) 35))
  clear bx sx g0 g2 rh ec
  generalize gC (.int .u8 0) (.bool false) (.int .u64 0) (.int .i64 0) (.float .f64 0) (.string ⟨#[]⟩) (.slice o.ra o.rn o.rc) z32 (.slice none 0 0) = EX at *
  generalize o.c 7 = C at *
  go_enter Tryd.func18, Tryd.ntmps18
  go_upto_region 2 with (first
    | (refine wpList_build_row rfl 42 rfl gz hbg ?_)
    | (refine wpList_alloc_row rfl 42 rfl gz (hzG _) ?_)
    | (refine wpList_store_row rfl 42 _ _ rfl ((w.alloc (.cells G 42)).alloc (.cells C 35)).heap.size gz rfl rfl 42 gz (heap_alloc_new _ _) (by rw [gz_size]; exact sizeGot) rfl hgo ?_; rw [World.setRow_alloc_new, ← hwx])
    | fail)
  simp only [Act.put, List.setIfInBounds_toArray, List.set_cons_zero, List.set_cons_succ]
  rw [HA2.out]
  clear hwx HA2 hbg hgo
  go_wp2_with (first
    | (refine wpList_load_arr rfl 42 _ rfl w.heap.size rfl 42 G (0, 0) _ Q0.out Tryd.underlying42 rfl (by rw [hGs]; exact sizeGot) ?_)
    | (refine wpList_load_arr rfl 42 _ rfl (w.heap.size + 2) rfl 42 EX (0, 0) _ Q2.out Tryd.underlying42 rfl (by rw [hcz]; exact sizeGot) ?_)
    | fail)
  refine (HS.out _ BY.out).mono ?_
  rintro e w4 ⟨rfl, b4⟩
  have B4 : Hid (Below w.heap.size w w4) := BY.out.trans (b4.mono BY.out.size)
  clear b4 HS
  go_wp2
  go_ret
  exact ⟨rfl, B4.out⟩
end Go.Proofs.YtbpmpcmmdiaiiaaDoor

namespace Go.Proofs.YtbpmpcmmdiaiiaaDoor
open Go.RowKit
set_option linter.unusedVariables false
set_option linter.unusedSimpArgs false

/-- A hash written into a block of zeros. -/
theorem got_hash {w : World} {g : Nat} {h : List UInt8} (hh : h.length = 32) (hg : w.heap[g]? = some (.cells gz 42 (0, 0))) : w.there g 7 32 ∧ (w.setCells g 7 (hcs h)).rangeAt g 0 (gL (.int .u8 0) (.bool false) (.int .u64 0) (.int .i64 0) (.float .f64 0) (.string ⟨#[]⟩) (.slice none 0 0) h (.slice none 0 0)) := by
  have GA := gotAt_row z32_len hg (show gz = _ from rfl)
  have hth : w.there g 0 40 := fun j hj => by
    rw [cell_of_row w g (0 + j) _ _ _ hg, Array.getElem?_eq_getElem (by rw [gz_size]; omega)]
    exact ⟨rfl, frozen_of_row w g (0 + j) _ _ hg⟩
  have HT : w.there g 7 32 := by have := there_part (m := 32) (i := 7) hth (by omega); rwa [Nat.zero_add] at this
  refine ⟨HT, ?_⟩
  have ap : ∀ i x, w.cell? ⟨g, i, none⟩ = some x → (i < 7 ∨ 39 ≤ i) → (w.setCells g 7 (hcs h)).cell? ⟨g, i, none⟩ = some x := fun i x hx hi => by
    have hra : w.rangeAt g i [x] := fun j v hv => by
      have hj : j = 0 := by have := (List.getElem?_eq_some_iff.1 hv).1; simp at this; omega
      subst hj
      simp at hv
      subst hv
      exact hx
    have := World.rangeAt_setCells_apart hra g 7 (hcs h) (by rw [hcs_len, hh]; simp; omega)
    exact this 0 x rfl
  have hhx : (w.setCells g 7 (hcs h)).rangeAt g 7 (hcs h) := World.rangeAt_setCells_same _ _ _ _ (by rw [hcs_len, hh]; exact HT)
  intro j v hv
  rw [Nat.zero_add]
  by_cases h7 : j < 7
  · have : j = 0 ∨ j = 1 ∨ j = 2 ∨ j = 3 ∨ j = 4 ∨ j = 5 ∨ j = 6 := by omega
    rcases this with e | e | e | e | e | e | e <;> subst e <;> simp [gL] at hv <;> subst hv
    · exact ap _ _ GA.c0 (by omega)
    · exact ap _ _ GA.c1 (by omega)
    · exact ap _ _ GA.c2 (by omega)
    · exact ap _ _ GA.c3 (by omega)
    · exact ap _ _ GA.c4 (by omega)
    · exact ap _ _ GA.c5 (by omega)
    · exact ap _ _ GA.c6 (by omega)
  · obtain ⟨i, rfl⟩ : ∃ i, j = i + 7 := ⟨j - 7, by omega⟩
    simp only [gL, List.getElem?_cons_succ] at hv
    by_cases hi : i < 32
    · rw [List.getElem?_append_left (by rw [hcs_len, hh]; exact hi)] at hv
      rw [show i + 7 = 7 + i by omega]
      exact hhx i v hv
    · rw [List.getElem?_append_right (by rw [hcs_len, hh]; omega), hcs_len, hh] at hv
      have hi2 : i - 32 = 0 := by have := (List.getElem?_eq_some_iff.1 hv).1; simp at this; omega
      rw [hi2] at hv
      simp at hv
      subst hv
      rw [show i + 7 = 39 by omega]
      exact ap _ _ GA.c39 (by omega)
set_option maxRecDepth 100000 in
set_option maxHeartbeats 2000000 in
theorem told_8 (G : Array Value) (hGs : G.size = 40) (o : OpV) (hh : o.h.length = 32) (w : World) (HS : Hid (∀ wx, Below w.heap.size w wx → Calls Tryd.prog 10 #[.agg G, .agg (gC (.int .u8 0) (.bool false) (.int .u64 0) (.int .i64 0) (.float .f64 0) (.string ⟨#[]⟩) (.slice none 0 0) o.h (.slice none 0 0))] wx fun e w' => e = .returned (.bool true) ∧ Below wx.heap.size wx w')) :
    Calls Tryd.prog 18 #[.agg G, .agg (o.c 8)] w fun e w' => e = .returned (.bool true) ∧ Below w.heap.size w w' := by
  obtain ⟨wx, hwx, bx, sx, g0, g2, ⟨r0, r1, r2, r3, r4, r5, r6, r7, rh, r40, r41⟩⟩ := told_blocks G o hh 8 w
  have hbg := hbG
  have hgo : gz.all (·.oneCell') = true := gC_one rfl rfl rfl rfl rfl rfl rfl rfl
  have HA2 := K.Hid.mk' (alloc2_size w (.cells G 42) (.cells (o.c 8) 35))
  have G0 := K.Hid.mk' g0
  have G2 := K.Hid.mk' g2
  have BX := K.Hid.mk' bx
  have SX := K.Hid.mk' sx
  have HRH := K.Hid.mk' rh
  obtain ⟨ht, hr⟩ := got_hash (h := o.h) hh g2
  have HT := K.Hid.mk' ht
  have RG := K.Hid.mk' hr
  have Q0 : Hid ((wx.setCells (w.heap.size + 2) 7 (hcs o.h)).heap[w.heap.size]? = some (.cells G 42 (0, 0))) := by
    show _ = _
    have := (below_setCells (Below.refl (w.heap.size + 1) wx) (g := w.heap.size + 2) (by omega) 7 (hcs o.h)).block w.heap.size (by omega)
    rw [this]; exact g0
  have BY : Hid (Below w.heap.size w (wx.setCells (w.heap.size + 2) 7 (hcs o.h))) := below_setCells bx (by omega) _ _
  have HLL : Hid ((gL (.int .u8 0) (.bool false) (.int .u64 0) (.int .i64 0) (.float .f64 0) (.string ⟨#[]⟩) (.slice none 0 0) o.h (.slice none 0 0)).length = 40) := gL_len hh
  have HEQ : Hid ((gL (.int .u8 0) (.bool false) (.int .u64 0) (.int .i64 0) (.float .f64 0) (.string ⟨#[]⟩) (.slice none 0 0) o.h (.slice none 0 0)).toArray = gC (.int .u8 0) (.bool false) (.int .u64 0) (.int .i64 0) (.float .f64 0) (.string ⟨#[]⟩) (.slice none 0 0) o.h (.slice none 0 0)) := (rfl : _ = _)
  clear ht hr
  generalize gC (.int .u8 0) (.bool false) (.int .u64 0) (.int .i64 0) (.float .f64 0) (.string ⟨#[]⟩) (.slice none 0 0) o.h (.slice none 0 0) = EX at *
  generalize gL (.int .u8 0) (.bool false) (.int .u64 0) (.int .i64 0) (.float .f64 0) (.string ⟨#[]⟩) (.slice none 0 0) o.h (.slice none 0 0) = CL at *
  clear bx sx g0 g2 rh
  generalize o.c 8 = C at *
  go_enter Tryd.func18, Tryd.ntmps18
  go_upto_region 2 with (first
    | (refine wpList_build_row rfl 42 rfl gz hbg ?_)
    | (refine wpList_alloc_row rfl 42 rfl gz (hzG _) ?_)
    | (refine wpList_store_row rfl 42 _ _ rfl ((w.alloc (.cells G 42)).alloc (.cells C 35)).heap.size gz rfl rfl 42 gz (heap_alloc_new _ _) (by rw [gz_size]; exact sizeGot) rfl hgo ?_; rw [World.setRow_alloc_new, ← hwx])
    | fail)
  simp only [Act.put, List.setIfInBounds_toArray, List.set_cons_zero, List.set_cons_succ]
  rw [HA2.out]
  clear hwx HA2 hbg hgo
  go_wp2_with (first
    | (refine wpList_load_midG rfl 31 _ rfl (w.heap.size + 1) 8 rfl (hcs o.h) _ HRH.out Tryd.underlying31 rfl (by rw [hcs_len, hh]; exact hsH) ?_; rw [hcs_arr])
    | (refine wpList_store_mid rfl 31 _ _ rfl (w.heap.size + 2) 7 (bs o.h) rfl rfl (by rw [bs_size, hh]; exact HT.out) (by rw [bs_size, hh]; exact hsH) (bs_one _) ?_)
    | (refine wpList_load_arr rfl 42 _ rfl w.heap.size rfl 42 G (0, 0) _ Q0.out Tryd.underlying42 rfl (by rw [hGs]; exact sizeGot) ?_)
    | (refine wpList_load_midG rfl 42 _ rfl (w.heap.size + 2) 0 rfl CL _ RG.out Tryd.underlying42 rfl (by rw [HLL.out]; exact sizeGot) ?_; rw [HEQ.out])
    | fail)
  refine (HS.out _ BY.out).mono ?_
  rintro e w4 ⟨rfl, b4⟩
  have B4 : Hid (Below w.heap.size w w4) := BY.out.trans (b4.mono BY.out.size)
  clear b4 HS
  go_wp2
  go_ret
  exact ⟨rfl, B4.out⟩
set_option maxRecDepth 100000 in
set_option maxHeartbeats 2000000 in
theorem told_9 (G : Array Value) (hGs : G.size = 40) (o : OpV) (hh : o.h.length = 32) (L D : List (List UInt8)) (hL : All32 L) (hD : Srt L D) (hLn : L.length = o.ln) (hln : o.ln ≤ 4398046510976) (w : World) (hl : Hl w o.la L)
    (HS : Hid (∀ wx a' c', Below w.heap.size w wx → Hl wx a' D → Calls Tryd.prog 10 #[.agg G, .agg (gC (.int .u8 0) (.bool false) (.int .u64 0) (.int .i64 0) (.float .f64 0) (.string ⟨#[]⟩) (.slice none 0 0) z32 (.slice a' D.length c'))] wx fun e w' => e = .returned (.bool true) ∧ Below wx.heap.size wx w')) :
    Calls Tryd.prog 18 #[.agg G, .agg (o.c 9)] w fun e w' => e = .returned (.bool true) ∧ Below w.heap.size w w' := by
  obtain ⟨wx, hwx, bx, sx, g0, g2, ⟨r0, r1, r2, r3, r4, r5, r6, r7, rh, r40, r41⟩⟩ := told_blocks G o hh 9 w
  have hbg := hbG
  have hgo : gz.all (·.oneCell') = true := gC_one rfl rfl rfl rfl rfl rfl rfl rfl
  have HA2 := K.Hid.mk' (alloc2_size w (.cells G 42) (.cells (o.c 9) 35))
  have G0 := K.Hid.mk' g0
  have G2 := K.Hid.mk' g2
  have BX := K.Hid.mk' bx
  have SX := K.Hid.mk' sx
  have HRS : Hid (Calls Tryd.prog 53 #[.slice o.la o.ln o.lc] wx fun e w' => ∃ a' c', e = .returned (.slice a' D.length c') ∧ Hl w' a' D ∧ (∀ ad, a' = some ad → w.heap.size + 3 ≤ ad.block) ∧ Below wx.heap.size wx w') := by
    have := rising_any o.la L o.lc wx hL (by omega) (hl.below hL bx)
    rw [hLn] at this
    refine this.mono fun e w' h => ?_
    obtain ⟨v, D', h1, ⟨s1, s2, s3⟩, h3, h4⟩ := h
    obtain rfl : D' = D := SRise.unique D' D s2 s1 hD.1 (fun x => (s3 x).trans (hD.2.2 x).symm)
    rcases h3.open with ⟨rfl, rfl⟩ | ⟨g, cp, rfl, _, hb, _, hs, _⟩
    · exact ⟨none, 0, h1, .inl rfl, fun ad e => (by cases e), h4⟩
    · exact ⟨_, cp, h1, .inr ⟨g, 0, rfl, hs⟩, fun ad e => (by cases e; show w.heap.size + 3 ≤ g; omega), h4⟩
  clear bx sx g0 g2 rh
  generalize o.c 9 = C at *
  go_enter Tryd.func18, Tryd.ntmps18
  go_upto_region 2 with (first
    | (refine wpList_build_row rfl 42 rfl gz hbg ?_)
    | (refine wpList_alloc_row rfl 42 rfl gz (hzG _) ?_)
    | (refine wpList_store_row rfl 42 _ _ rfl ((w.alloc (.cells G 42)).alloc (.cells C 35)).heap.size gz rfl rfl 42 gz (heap_alloc_new _ _) (by rw [gz_size]; exact sizeGot) rfl hgo ?_; rw [World.setRow_alloc_new, ← hwx])
    | fail)
  simp only [Act.put, List.setIfInBounds_toArray, List.set_cons_zero, List.set_cons_succ]
  rw [HA2.out]
  clear hwx HA2 hbg hgo
  clear hl
  go_wp2_with fail
  refine HRS.out.mono ?_
  rintro e w1 ⟨a', c', rfl, hl1, hfr, b1⟩
  have g2 : w1.heap[w.heap.size + 2]? = some (.cells gz 42 (0, 0)) := by rw [b1.block _ (by rw [SX.out]; omega)]; exact G2.out
  have g0 : w1.heap[w.heap.size]? = some (.cells G 42 (0, 0)) := by rw [b1.block _ (by rw [SX.out]; omega)]; exact G0.out
  have ec : gz.setIfInBounds 39 (.slice a' D.length c') = gC (.int .u8 0) (.bool false) (.int .u64 0) (.int .i64 0) (.float .f64 0) (.string ⟨#[]⟩) (.slice none 0 0) z32 (.slice a' D.length c') := by unfold gz gC gL; simp; rw [List.set_append_right _ _ (by rw [hcs_len, z32_len]; omega), hcs_len, z32_len]; rfl
  have Q2 : Hid ((w1.setCell ⟨w.heap.size + 2, 39, none⟩ (.slice a' D.length c')).heap[w.heap.size + 2]? = some (.cells (gC (.int .u8 0) (.bool false) (.int .u64 0) (.int .i64 0) (.float .f64 0) (.string ⟨#[]⟩) (.slice none 0 0) z32 (.slice a' D.length c')) 42 (0, 0))) := by show _ = _; rw [heap_setCell_same w1 _ 39 _ 42 _ g2, ec]
  have Q0 : Hid ((w1.setCell ⟨w.heap.size + 2, 39, none⟩ (.slice a' D.length c')).heap[w.heap.size]? = some (.cells G 42 (0, 0))) := by show _ = _; rw [Below.heap_setCell _ _ _ _ (by show w.heap.size ≠ w.heap.size + 2; omega)]; exact g0
  have bw1 : Below w.heap.size w w1 := BX.out.trans (b1.mono (by rw [SX.out]; omega))
  have BY : Hid (Below w.heap.size w (w1.setCell ⟨w.heap.size + 2, 39, none⟩ (.slice a' D.length c'))) := bw1.setCell (by show w.heap.size ≤ w.heap.size + 2; omega) _
  have HL2 : Hid (Hl (w1.setCell ⟨w.heap.size + 2, 39, none⟩ (.slice a' D.length c')) a' D) := by
    rcases hl1 with e | ⟨b, off, e, hs⟩
    · exact .inl e
    · subst e
      have := hfr _ rfl
      simp only at this
      exact .inr ⟨b, off, rfl, fun i x hx j v hv => (World.cell?_setCell_far _ ⟨w.heap.size + 2, 39, none⟩ _ _ (by show w.heap.size + 2 ≠ b; omega)).trans (hs i x hx j v hv)⟩
  have HSS := K.Hid.mk' (HS.out _ a' c' BY.out HL2.out)
  have c2 := (cell_of_row w1 (w.heap.size + 2) 39 _ _ _ g2).trans (gC_39 z32_len : gz[39]? = some (.slice none 0 0))
  have f2 := frozen_of_row w1 (w.heap.size + 2) 39 _ _ g2
  have hcz : (gC (.int .u8 0) (.bool false) (.int .u64 0) (.int .i64 0) (.float .f64 0) (.string ⟨#[]⟩) (.slice none 0 0) z32 (.slice a' D.length c')).size = 40 := gC_size z32_len
  clear g0 g2 ec hl1 hfr b1 bw1 HL2 HS HRS
  generalize gC (.int .u8 0) (.bool false) (.int .u64 0) (.int .i64 0) (.float .f64 0) (.string ⟨#[]⟩) (.slice none 0 0) z32 (.slice a' D.length c') = EX at *
  generalize D.length = dn at *
  go_wp2_with (first
    | (refine wpList_load_arr rfl 42 _ rfl w.heap.size rfl 42 G (0, 0) _ Q0.out Tryd.underlying42 rfl (by rw [hGs]; exact sizeGot) ?_)
    | (refine wpList_load_arr rfl 42 _ rfl (w.heap.size + 2) rfl 42 EX (0, 0) _ Q2.out Tryd.underlying42 rfl (by rw [hcz]; exact sizeGot) ?_)
    | fail)
  refine HSS.out.mono ?_
  rintro e w4 ⟨rfl, b4⟩
  have B4 : Hid (Below w.heap.size w w4) := BY.out.trans (b4.mono BY.out.size)
  clear b4 HSS
  go_wp2
  go_ret
  exact ⟨rfl, B4.out⟩
set_option maxRecDepth 100000 in
set_option maxHeartbeats 2000000 in
/-- A float that is 0. -/
theorem told_z (G : Array Value) (o : OpV) (hh : o.h.length = 32) (hz : (FloatKind.f64.format.order o.f 0 == some .eq) = true) (w : World) (h4 : G[4]? = some (.float .f64 0)) (h5 : G[5]? = some (.string ⟨#[]⟩)) :
    Calls Tryd.prog 18 #[.agg G, .agg (o.c 5)] w fun e w' => e = .returned (.bool true) ∧ Below w.heap.size w w' := by
  have z1 : (FloatKind.f64.format.order 0 0 == some .eq) = true := by decide +kernel
  have z3 : (FloatKind.f64.format.order 9218868437227405312 0 == some .gt) = true := by decide +kernel
  have hq : ∀ W, (binOp .quo 28 (.float .f64 4607182418800017408) (.float .f64 0)).run Tryd.prog W = .ok (.float .f64 9218868437227405312) W := fun W => run_float_arith W .quo 28 .f64 _ _ _ (by decide +kernel)
  obtain ⟨wx, hwx, bx, sx, g0, g2, ⟨r0, r1, r2, r3, r4, r5, r6, r7, rh, r40, r41⟩⟩ := told_blocks G o hh 5 w
  have hbg := hbG
  have hgo : gz.all (·.oneCell') = true := gC_one rfl rfl rfl rfl rfl rfl rfl rfl
  have HA2 := K.Hid.mk' (alloc2_size w (.cells G 42) (.cells (o.c 5) 35))
  have G0 := K.Hid.mk' g0
  have G2 := K.Hid.mk' g2
  have BX := K.Hid.mk' bx
  have SX := K.Hid.mk' sx
  have Q4 : ∀ v, (wx.setCell ⟨w.heap.size + 2, 4, none⟩ v).cell? ⟨w.heap.size, 4, none⟩ = some (.float .f64 0) := fun v => by
    rw [World.cell?_setCell_far _ ⟨w.heap.size + 2, 4, none⟩ _ _ (by show w.heap.size + 2 ≠ w.heap.size; omega)]
    exact (cell_of_row wx w.heap.size 4 _ _ _ g0).trans h4
  have c2 := (cell_of_row wx (w.heap.size + 2) 4 _ _ _ g2).trans (rfl : gz[4]? = some (.float .f64 0))
  have f2 := frozen_of_row wx (w.heap.size + 2) 4 _ _ g2
  have p4 := (cell_of_row wx w.heap.size 4 _ _ _ g0).trans h4
  have p5 := (cell_of_row wx w.heap.size 5 _ _ _ g0).trans h5
  clear bx sx g0 g2 rh
  generalize o.c 5 = C at *
  go_enter Tryd.func18, Tryd.ntmps18
  go_upto_region 2 with (first
    | (refine wpList_build_row rfl 42 rfl gz hbg ?_)
    | (refine wpList_alloc_row rfl 42 rfl gz (hzG _) ?_)
    | (refine wpList_store_row rfl 42 _ _ rfl ((w.alloc (.cells G 42)).alloc (.cells C 35)).heap.size gz rfl rfl 42 gz (heap_alloc_new _ _) (by rw [gz_size]; exact sizeGot) rfl hgo ?_; rw [World.setRow_alloc_new, ← hwx])
    | fail)
  simp only [Act.put, List.setIfInBounds_toArray, List.set_cons_zero, List.set_cons_succ]
  rw [HA2.out]
  clear hwx HA2 hbg hgo
  go_wp2
  go_ret
  refine ⟨rfl, ?_⟩
  repeat (first | exact BX.out | refine Below.setCell ?_ (by show w.heap.size ≤ w.heap.size + 2; omega) _)
end Go.Proofs.YtbpmpcmmdiaiiaaDoor

namespace Go.Proofs.YtbpmpcmmdiaiiaaDoor
open Go.RowKit
set_option linter.unusedVariables false
set_option linter.unusedSimpArgs false

variable {T : TypeId} {r cap : Nat} {a : Option Addr} {L : List UInt8} {s : K.St}
set_option maxRecDepth 100000 in
set_option maxHeartbeats 2000000 in
theorem rhashes_asc (most : Nat) (hm : most ≤ 9223372036854775807) (w : World) (h : K.RD w 92 r a cap L s) (hb : s.bad = 0) (n sz : Nat) (pl : Int) (hNum : K.num L s.k = ⟨n, sz, 0, pl⟩) (hDm : n ≤ most) (hfit : s.k + sz + n * 32 ≤ L.length) (hasc : SRise (dch L (s.k + sz) n)) :
    Calls Tryd.prog 47 #[.pointer (some ⟨r, 0, none⟩), .int .i64 (most : Int)] w fun e w' => ∃ q, e = .returned (.slice (some ⟨q, 0, none⟩) n n) ∧ w.heap.size ≤ q ∧ q < w'.heap.size ∧ Hs w' q 0 (dch L (s.k + sz) n) ∧ SRise (dch L (s.k + sz) n) ∧ K.On w w' 92 r a cap L ⟨s.k + sz + n * 32, s.bad, s.wh⟩ := by
  obtain ⟨D, hDd⟩ : ∃ D, D = dch L (s.k + sz) n := ⟨_, rfl⟩
  have hD : All32 D := by rw [hDd]; exact dch_32 _ _ _ hfit
  have HN : Hid (n = D.length) := by show _ = _; rw [hDd, dch_len]
  have HB : Hid (∀ k x, D[k]? = some x → ((L.drop (s.k + sz + k * 32)).take 32) = x) := fun k x hx => by
    have hk : k < n := by have := (List.getElem?_eq_some_iff.1 hx).1; rw [← HN.out] at this; exact this
    rw [hDd, dch_get _ _ _ _ hk] at hx
    exact Option.some.inj hx
  rw [← hDd] at hasc ⊢
  clear hDd
  have HASC : Hid (SRise D) := hasc
  clear hasc
  have hfw := h.few
  have HF : Hid (s.k + sz + n * 32 ≤ L.length) := hfit
  have hnb : n ≤ 4398046510976 := by omega
  have HC : Hid (Calls Tryd.prog 61 #[.pointer (some ⟨r, 0, none⟩), .int .i64 (most : Int), .int .i64 32] w fun e w' => e = .returned (.tuple #[.slice (K.from23 a cap (s.k + sz)) (n * 32) (cap - (s.k + sz)), .int .i64 (sz : Int), .bool true]) ∧ K.On w w' 92 r a cap L s) := counted32 most hm w h hb n sz _ hNum hDm hfit
  have HSt : Hid (Calls Tryd.prog 58 #[.pointer (some ⟨r, 0, none⟩)] w fun e w' => e = .returned (.bool false) ∧ w' = w) := (by
    have := K.stopped_any w h
    rw [show decide (s.bad ≠ 0) = false by simp [hb]] at this
    exact this)
  have HR : Hid (K.RD w 92 r a cap L s) := h
  have hsk : s.k ≤ L.length := h.at_le
  clear h hNum
  have hmk := make_hashes n (by omega)
  have tq : Int.tdiv (((n * 32 : Nat) : Int)) 32 = (n : Int) := by rw [Int.tdiv_eq_ediv_of_nonneg (by omega)]; omega
  go_enter Tryd.func47, Tryd.ntmps47
  go_wp2_with fail
  refine HSt.out.mono ?_
  rintro e w0 ⟨rfl, rfl⟩
  go_wp2_with fail
  refine HC.out.mono ?_
  rintro e w1 ⟨rfl, on1⟩
  have HO1 : Hid (K.On w0 w1 92 r a cap L s) := on1
  clear on1 HC HSt
  have HLN : Hid (n * 32 = n * 32) := rfl
  obtain ⟨n32, hn32⟩ : ∃ n32, n32 = n * 32 := ⟨_, rfl⟩
  rw [← hn32] at hfit tq ⊢
  have HN32 : Hid (n32 = n * 32) := hn32
  clear hn32 HLN
  have HS0 : Hid (Hs (w1.alloc (.cells (madeCells (bs z32) (n * 32)) 31)) w1.heap.size 0 (part D n 0)) := (by rw [part_zero]; exact hs_made w1 n 31 : Hs (w1.alloc (.cells (madeCells (bs z32) (n * 32)) 31)) w1.heap.size 0 (part D n 0))
  have HT0 : Hid ((w1.alloc (.cells (madeCells (bs z32) (n * 32)) 31)).there w1.heap.size 0 (32 * n)) := there_made w1 n 31
  have HA0 : Hid (K.On w0 (w1.alloc (.cells (madeCells (bs z32) (n * 32)) 31)) 92 r a cap L s) := on_below HR.out HO1.out ((Below.refl _ _).alloc (Nat.le_refl _) _) HO1.out.2.size
  have hq0 : w0.heap.size ≤ w1.heap.size := HO1.out.2.size
  go_wp2
  go_loopw [29] (fun i wr => ∃ k : Nat, k ≤ n ∧ i = .int .i64 k ∧ Hid (Hs wr w1.heap.size 0 (part D n k)) ∧ Hid (wr.there w1.heap.size 0 (32 * n)) ∧ Hid (K.On w0 wr 92 r a cap L s) ∧ w1.heap.size < wr.heap.size ∧ Hid (∀ j x y, j + 1 < k → D[j]? = some x → D[j + 1]? = some y → cmpL x y < 0)) (fun i _ => n - (intOf i).toNat)
  case atStart => exact ⟨0, by omega, rfl, HS0, HT0, HA0, by simp, fun j x y h => by omega⟩
  case round =>
    obtain ⟨k, hk, rfl, HSr, HTr, HOr, hqr, HAdj⟩ := hrel
    by_cases hkn : k < n
    · have h32 := HN32.out
      have hkD : k < D.length := by rw [← HN.out]; exact hkn
      obtain ⟨x, hx⟩ : ∃ x, D[k]? = some x := ⟨_, List.getElem?_eq_getElem hkD⟩
      have hx32 := hD.get hx
      have HCut : Hid (((L.drop (s.k + sz + k * 32)).take 32) = x) := HB.out k x hx
      obtain ⟨b, off, rfl, hcell⟩ : ∃ b off, a = some ⟨b, off, none⟩ ∧ ∀ j, j < L.length → wr.cell? ⟨b, off + j, none⟩ = some (.int .u8 (K.at8 L j)) := by
        rcases HOr.out.1.byt with e | h
        · have := HF.out; rw [e] at this; simp at this; omega
        · exact h
      have hroom := HOr.out.1.room
      have hfit2 := HF.out
      have e1 : K.from23 (K.from23 (some ⟨b, off, none⟩) cap (s.k + sz)) (cap - (s.k + sz)) (k * 32) = some ⟨b, off + (s.k + sz) + k * 32, none⟩ := by
        unfold K.from23
        rw [if_neg (by omega), if_neg (by omega)]
        simp [Addr.add_mid]
      have sl1 := fun wx => K.sl_from (K.from23 (some ⟨b, off, none⟩) cap (s.k + sz)) n32 (cap - (s.k + sz)) (k * 32) ((k : Int) * 32) (by omega) (by omega) wx
      have sl2 := fun wx => K.sl_from' (K.from23 (some ⟨b, off, none⟩) cap (s.k + sz)) n32 (cap - (s.k + sz)) (k * 32) ((k : Int) * 32) (by omega) (by omega) wx
      rw [e1] at sl1 sl2
      have HH : Hid (Calls Tryd.prog 71 #[.slice (some ⟨b, off + (s.k + sz) + k * 32, none⟩) (n32 - k * 32) (cap - (s.k + sz) - k * 32)] wr fun e w' => e = .returned (.agg (bs x)) ∧ Below wr.heap.size wr w') := (by
        have h1 : ((L.drop (s.k + sz + k * 32)).take (n32 - k * 32)).length = n32 - k * 32 := by rw [List.length_take, List.length_drop]; omega
        have hbl : b < wr.heap.size := block_lt_of_cell (hcell 0 (by omega))
        have := hashOf_any b (off + (s.k + sz) + k * 32) (n32 - k * 32) (cap - (s.k + sz) - k * 32) ((L.drop (s.k + sz + k * 32)).take (n32 - k * 32)) wr h1 (by omega) (fun j hj => by
          rw [h1] at hj
          rw [show off + (s.k + sz) + k * 32 + j = off + (s.k + sz + k * 32 + j) by omega, hcell _ (by omega)]
          unfold K.at8
          simp [List.getElem?_take, hj]) hbl
        rw [List.take_take, show min 32 (n32 - k * 32) = 32 by omega, HCut.out] at this
        exact this)
      have ix1 := fun wx => indexH w1.heap.size 0 n n k wx hkn
      simp only [Nat.zero_add] at ix1
      clear HCut hcell e1 hroom hfit2
      generalize off + (s.k + sz) + k * 32 = off4 at *
      generalize n32 - k * 32 = n4 at *
      generalize cap - (s.k + sz) - k * 32 = cap4 at *
      generalize hq : w1.heap.size = q at *
      have hzr : Hid (w0.heap.size ≤ q) := hq0
      clear h32 hq
      go_wp2_with fail
      refine HH.out.mono ?_
      rintro e w2 ⟨rfl, bl2⟩
      have HT2 : Hid (w2.there q 0 (32 * n)) := there_below HTr.out bl2 hqr
      have HTH : Hid (w2.there q (32 * k) 32) := (by have := there_part (m := 32) (i := 32 * k) HT2.out (by omega); rwa [Nat.zero_add] at this : w2.there q (32 * k) 32)
      have hPL : D.length = n := HN.out.symm
      have HX : Hid (Hs (w2.setCells q (32 * k) (hcs x)) q 0 (part D n (k + 1))) := (by
        have := Hs.set (HSr.out.below bl2 hqr) (all32_part hD _ _) k x hx32 (by rw [part_len _ _ _ (by omega) hPL]; omega) (there_part HT2.out (by omega))
        rw [Nat.zero_add] at this
        rwa [part_set _ _ _ (by omega) hPL x hx] at this : Hs (w2.setCells q (32 * k) (hcs x)) q 0 (part D n (k + 1)))
      have HT3 : Hid ((w2.setCells q (32 * k) (hcs x)).there q 0 (32 * n)) := World.there_setCells HT2.out _ _ _
      have HO3 : Hid (K.On w0 (w2.setCells q (32 * k) (hcs x)) 92 r (some ⟨b, off, none⟩) cap L s) := on_below HR.out (on_below HR.out HOr.out bl2 HOr.out.2.size) (below_setCells (Below.refl _ _) (Nat.le_refl q) _ _) hzr.out
      have hq3 : q < (w2.setCells q (32 * k) (hcs x)).heap.size := by rw [size_setCells]; have := bl2.size; omega
      clear hPL bl2 HT2 HSr HTr HOr hqr HH sl1 sl2
      go_wp2_with (first
        | (refine wpList_store_mid rfl 31 _ _ rfl q (32 * k) (bs x) rfl rfl (by rw [bs_size, hx32]; exact HTH.out) (by rw [bs_size, hx32]; exact hsH) (bs_one _) ?_)
        | fail)
      change Code.wp _ _ _ _ (w2.setCells q (32 * k) (hcs x))
      simp only [Act.put]
      generalize w2.setCells q (32 * k) (hcs x) = w3 at *
      clear HTH
      by_cases hk0 : k = 0
      · have gk : decide (0 < k) = false := by simp; omega
        have HK1 : Hid (∀ j x y, j + 1 < k + 1 → D[j]? = some x → D[j + 1]? = some y → cmpL x y < 0) := fun j x y hj => by omega
        clear hk0
        have hne : Nonempty (ExtT w3) := ExtT.some w3
        refine wp_region_ext (by kernel_rfl) (by kernel_rfl) ?_
        repeat (go_big_quiet_step (fail))
        refine wpQuiet_nil ?_
        rintro w4 ⟨⟨_, bl4⟩, rfl⟩
        have A1 : Hid (Hs w4 q 0 (part D n (k + 1))) := HX.out.below bl4 hq3
        have A2 : Hid (w4.there q 0 (32 * n)) := there_below HT3.out bl4 hq3
        have A3 : Hid (K.On w0 w4 92 r (some ⟨b, off, none⟩) cap L s) := on_below HR.out HO3.out bl4 HO3.out.2.size
        have A4 : q < w4.heap.size := by have := bl4.size; omega
        clear bl4 hne HX HT3 HO3 hq3 gk
        go_wp2
        exact ⟨⟨k + 1, by omega, by go_num, A1, A2, A3, A4, fun j x y hj => HK1.out j x y hj⟩, by simp [intOf]; omega⟩
      · obtain ⟨p, hp⟩ : ∃ p, D[k - 1]? = some p := ⟨_, List.getElem?_eq_getElem (by omega)⟩
        have hp32 := hD.get hp
        have HCm : Hid (∀ wx, Calls Tryd.prog 69 #[.agg (bs p), .agg (bs x)] wx fun e w' => e = .returned (.int .i64 (cmpL p x)) ∧ Below wx.heap.size wx w') := fun wx => cmp_any p x hp32 hx32 wx
        have hpt : ∀ i y, i < k + 1 → D[i]? = some y → (part D n (k + 1))[i]? = some y := fun i y hi hy => by
          unfold part
          rw [List.getElem?_append_left (by rw [List.length_take]; have := (List.getElem?_eq_some_iff.1 hy).1; omega), List.getElem?_take, if_pos hi]
          exact hy
        have S1 : Hid (w3.rangeAt q (32 * (k - 1)) (hcs p)) := (by have := HX.out (k - 1) p (hpt _ _ (by omega) hp); rwa [Nat.zero_add] at this : w3.rangeAt q (32 * (k - 1)) (hcs p))
        have S2 : Hid (w3.rangeAt q (32 * k) (hcs x)) := (by have := HX.out k x (hpt _ _ (by omega) hx); rwa [Nat.zero_add] at this : w3.rangeAt q (32 * k) (hcs x))
        have ix2 : ∀ wx, (Instr.indexAt 32 (.slice (some ⟨q, 0, none⟩) n n) (.int .i64 ((k : Int) - 1))).run Tryd.prog wx = .ok (.pointer (some ⟨q, 32 * (k - 1), none⟩)) wx := fun wx => (by
          have := indexH q 0 n n (k - 1) wx (by omega)
          rwa [Nat.zero_add, show ((k - 1 : Nat) : Int) = (k : Int) - 1 by omega] at this)
        have wk : IntKind.i64.wrap ((k : Int) - 1) = (k : Int) - 1 := by simp only [IntKind.wrap, IntKind.bits, IntKind.signed]; simp; omega
        have wk2 : wrap64 ((k : Int) - 1) = (k : Int) - 1 := (by unfold wrap64; omega)
        have gk : 0 < k := by omega
        by_cases hcl : cmpL p x < 0
        · have HK1 : Hid (∀ j x y, j + 1 < k + 1 → D[j]? = some x → D[j + 1]? = some y → cmpL x y < 0) := fun j u v hj hu hv => by
            by_cases ej : j + 1 = k
            · rw [show j = k - 1 by omega, hp] at hu
              rw [ej, hx] at hv
              cases hu
              cases hv
              exact hcl
            · exact HAdj.out j u v (by omega) hu hv
          generalize cmpL p x = c at *
          have gc : ¬ (0 : Int) ≤ c := by omega
          clear hpt hx hp hcl hk0
          have hne : Nonempty (ExtT w3) := ExtT.some w3
          refine wp_region_ext (by kernel_rfl) (by kernel_rfl) ?_
          repeat (first
            | (go_big_quiet_want; refine quiet_load_mid 31 _ rfl q (32 * (k - 1)) rfl (bs p) _ (by rintro _ ⟨e, rfl⟩; exact e.range S1.out (hcs_pos hp32)) Tryd.underlying31 rfl (sizeH hp32) ?_; simp only [Act.put, List.setIfInBounds_toArray, List.set_cons_zero, List.set_cons_succ]; go_big_quiet_on)
            | (go_big_quiet_want; refine quiet_load_mid 31 _ rfl q (32 * k) rfl (bs x) _ (by rintro _ ⟨e, rfl⟩; exact e.range S2.out (hcs_pos hx32)) Tryd.underlying31 rfl (sizeH hx32) ?_; simp only [Act.put, List.setIfInBounds_toArray, List.set_cons_zero, List.set_cons_succ]; go_big_quiet_on)
            | go_big_quiet_step (first | (go_at_call 69; exact ext_of (HCm.out _)) | fail))
          refine wpQuiet_nil ?_
          rintro w4 ⟨⟨_, bl4⟩, rfl⟩
          have A1 : Hid (Hs w4 q 0 (part D n (k + 1))) := HX.out.below bl4 hq3
          have A2 : Hid (w4.there q 0 (32 * n)) := there_below HT3.out bl4 hq3
          have A3 : Hid (K.On w0 w4 92 r (some ⟨b, off, none⟩) cap L s) := on_below HR.out HO3.out bl4 HO3.out.2.size
          have A4 : q < w4.heap.size := by have := bl4.size; omega
          clear bl4 hne HX HT3 HO3 hq3 wk wk2 S1 S2 HCm ix2
          go_wp2
          exact ⟨⟨k + 1, by omega, by go_num, A1, A2, A3, A4, fun j x y hj => HK1.out j x y hj⟩, by simp [intOf]; omega⟩
        · exact absurd (HASC.out (k - 1) k p x hp hx (by omega)) hcl
    · obtain rfl : k = n := by omega
      have c1 := HOr.out.1.c1
      have fz := HOr.out.1.fz 1
      have HE : Hid (Hs wr w1.heap.size 0 D) := (by have := HSr.out; rwa [part_all D k HN.out.symm] at this : Hs wr w1.heap.size 0 D)
      have HSR : Hid (SRise D) := srise_adj hD (fun j x y hx hy => HAdj.out j x y (by have := (List.getElem?_eq_some_iff.1 hy).1; rw [← HN.out] at this; omega) hx hy)
      have h32 := HN32.out
      have hfit3 := HF.out
      have HO9 : Hid (K.On w0 (wr.setCell ⟨r, 1, none⟩ (.int .i64 ((s.k : Int) + ((sz : Int) + (n32 : Int))))) 92 r a cap L ⟨s.k + sz + k * 32, s.bad, s.wh⟩) := HOr.out.set1 (s.k + sz + k * 32) _ (by omega) (by omega)
      have hrq : r ≠ w1.heap.size := by have := HR.out.lt; omega
      have HE9 : Hid (Hs (wr.setCell ⟨r, 1, none⟩ (.int .i64 ((s.k : Int) + ((sz : Int) + (n32 : Int))))) w1.heap.size 0 D) := fun i x e j v hv => (World.cell?_setCell_far wr ⟨r, 1, none⟩ _ _ hrq).trans (HE.out i x e j v hv)
      have hz9 : w1.heap.size < (wr.setCell ⟨r, 1, none⟩ (.int .i64 ((s.k : Int) + ((sz : Int) + (n32 : Int))))).heap.size := by rw [World.size_setCell]; exact hqr
      have hn32b : n32 ≤ 140737488351232 := by omega
      have hszb : sz ≤ 140737488351232 := by omega
      clear HE HTr HSr HOr h32 hfit3
      go_wp2
      go_ret
      exact ⟨_, rfl, hq0, hz9, HE9.out, HSR.out, HO9.out⟩
end Go.Proofs.YtbpmpcmmdiaiiaaDoor

