import Derived.Test.YtdnocpngdepbgaaGreatDoorP4
import Derived.Test.YtdnocpngdepbgaaGreatDoorHh
import Derived.Test.YtdnocpngdepbgaaGreatDoorP2
import Derived.Test.YtdnocpngdepbgaaGreatDoorKPi
namespace Go.Proofs.YtdnocpngdepbgaaGreatDoor
open Go.RowKit
set_option linter.unusedVariables false
set_option linter.unusedSimpArgs false

theorem resReadQ (tmps : Array Value) (w : World) (g : Nat) (t : TypeId) (C : Array Value) (hl : C.size = 40) (fr : Nat × Nat) (hp : tmps.getD 4 undef = .pointer (some ⟨g, 0, none⟩)) (hg : w.heap[g]? = some (.cells C t fr)) :
    (results Tryz.f23 tmps).run Tryz.prog w = .ok (.agg C) w :=
  results_cell_row Tryz.results23 tmps w g t C fr _ hp hg Tryz.underlying76 rfl (by rw [hl]; exact sizeGot)
set_option maxRecDepth 100000 in
set_option maxHeartbeats 2000000 in
theorem qread_0 (ptr : Option Addr) (ou om oe : Int) (b : Int) (w : World) (Post : World → World → Prop)
    (H : ∀ wx, Below w.heap.size w wx → wx.heap.size = w.heap.size + 3 → Calls Tryz.prog 84 #[.pointer ptr] wx fun x w1 => x = .returned (.int .u8 b) ∧ Post wx w1 ∧ Keeps w.heap.size wx w1) :
    Calls Tryz.prog 23 #[.pointer ptr, .agg #[.int .i64 0, .int .u64 ou, .int .i64 om, .int .i64 oe]] w fun x w' => x = .returned (.agg (gC (.int .u8 b) (.bool false) (.int .u64 0) (.int .i64 0) (.float .f64 0) (.string ⟨#[]⟩) (.slice none 0 0) z32 (.slice none 0 0))) ∧ Rdd w Post w' := by
  obtain ⟨wx, hwx, bx, sx, hr, h1, h2⟩ := rd_blocks (w := w) (o := #[.int .i64 0, .int .u64 ou, .int .i64 om, .int .i64 oe]) (c := #[])
  have HC := K.Hid.mk' (H wx bx sx)
  have BX := K.Hid.mk' bx
  have SX := K.Hid.mk' sx
  have H1 := K.Hid.mk' h1
  have H2 := K.Hid.mk' h2
  have r0 := (cell_of_row wx w.heap.size 0 _ _ _ hr).trans (show (#[.int .i64 0, .int .u64 ou, .int .i64 om, .int .i64 oe] : Array Value)[0]? = some (.int .i64 0) from rfl)
  have r1 := (cell_of_row wx w.heap.size 1 _ _ _ hr).trans (show (#[.int .i64 0, .int .u64 ou, .int .i64 om, .int .i64 oe] : Array Value)[1]? = some (.int .u64 ou) from rfl)
  have r2 := (cell_of_row wx w.heap.size 2 _ _ _ hr).trans (show (#[.int .i64 0, .int .u64 ou, .int .i64 om, .int .i64 oe] : Array Value)[2]? = some (.int .i64 om) from rfl)
  clear H bx sx h1 h2 hr
  go_enter Tryz.func23, Tryz.ntmps23
  go_upto_region 2 with (first | (refine wpList_alloc_row rfl 76 rfl gz (hzG _) ?_) | fail)
  rw [← hwx]
  clear hwx
  go_wp2_with fail
  refine HC.out.mono ?_
  rintro x w1 ⟨rfl, hp, hk⟩
  have hs1 := hk.size
  have g1 : w1.heap[w.heap.size + 1]? = some (.cells gz 76 (0, 0)) := by rw [hk.block _ (by omega) (by rw [SX.out]; omega)]; exact H1.out
  have g2 : w1.heap[w.heap.size + 2]? = some (.cells gz 76 (0, 0)) := by rw [hk.block _ (by omega) (by rw [SX.out]; omega)]; exact H2.out
  have HP := K.Hid.mk' hp
  clear hp hk HC r0 r1 r2 hs1
  have ec : gz.setIfInBounds 0 (.int .u8 b) = gC (.int .u8 b) (.bool false) (.int .u64 0) (.int .i64 0) (.float .f64 0) (.string ⟨#[]⟩) (.slice none 0 0) z32 (.slice none 0 0) := rfl
  have q2 : (w1.setCell ⟨w.heap.size + 2, 0, none⟩ (.int .u8 b)).heap[w.heap.size + 2]? = some (.cells (gC (.int .u8 b) (.bool false) (.int .u64 0) (.int .i64 0) (.float .f64 0) (.string ⟨#[]⟩) (.slice none 0 0) z32 (.slice none 0 0)) 76 (0, 0)) := by rw [heap_setCell_same w1 _ 0 _ 76 _ g2, ec]
  have q1 : (w1.setCell ⟨w.heap.size + 2, 0, none⟩ (.int .u8 b)).heap[w.heap.size + 1]? = some (.cells gz 76 (0, 0)) := by rw [Below.heap_setCell _ _ _ _ (by show w.heap.size + 1 ≠ w.heap.size + 2; omega)]; exact g1
  have FX : Hid (Fx w.heap.size w1 (w1.setCell ⟨w.heap.size + 2, 0, none⟩ (.int .u8 b))) := fx_cell _ _ _ _
  have Q1 := K.Hid.mk' q1
  have Q2 := K.Hid.mk' q2
  have hcz : (gC (.int .u8 b) (.bool false) (.int .u64 0) (.int .i64 0) (.float .f64 0) (.string ⟨#[]⟩) (.slice none 0 0) z32 (.slice none 0 0)).size = 40 := gC_size z32_len
  have hco : (gC (.int .u8 b) (.bool false) (.int .u64 0) (.int .i64 0) (.float .f64 0) (.string ⟨#[]⟩) (.slice none 0 0) z32 (.slice none 0 0)).all (·.oneCell') = true := gC_one rfl rfl rfl rfl rfl rfl rfl rfl
  have c2 := (cell_of_row w1 (w.heap.size + 2) 0 _ _ _ g2).trans (rfl : gz[0]? = some (.int .u8 0))
  have f2 := frozen_of_row w1 (w.heap.size + 2) 0 _ _ g2
  clear g1 g2 q1 q2 ec
  generalize hgen : gC (.int .u8 b) (.bool false) (.int .u64 0) (.int .i64 0) (.float .f64 0) (.string ⟨#[]⟩) (.slice none 0 0) z32 (.slice none 0 0) = C at *
  have HG := K.Hid.mk' hgen
  clear hgen
  go_wp2_with (first
    | (refine wpList_load_arr rfl 76 _ rfl (w.heap.size + 2) rfl 76 C (0, 0) _ Q2.out Tryz.underlying76 rfl (by rw [hcz]; exact sizeGot) ?_)
    | (refine wpList_store_row rfl 76 _ _ rfl (w.heap.size + 1) C rfl rfl 76 gz Q1.out (by rw [hcz]; exact sizeGot) (by rw [gz_size, hcz]) hco ?_)
    | fail)
  exact bodyPost_ret (resReadQ _ _ (w.heap.size + 1) 76 C hcz (0, 0) rfl (setRow_heap _ _ _ _ _ _ Q1.out)) rfl ⟨by rw [HG.out], _, w1, BX.out, SX.out, HP.out, FX.out.trans (fx_end _ _ _)⟩

set_option maxRecDepth 100000 in
set_option maxHeartbeats 2000000 in
theorem qread_1 (ptr : Option Addr) (ou om oe : Int) (v : Bool) (w : World) (Post : World → World → Prop)
    (H : ∀ wx, Below w.heap.size w wx → wx.heap.size = w.heap.size + 3 → Calls Tryz.prog 85 #[.pointer ptr] wx fun x w1 => x = .returned (.bool v) ∧ Post wx w1 ∧ Keeps w.heap.size wx w1) :
    Calls Tryz.prog 23 #[.pointer ptr, .agg #[.int .i64 1, .int .u64 ou, .int .i64 om, .int .i64 oe]] w fun x w' => x = .returned (.agg (gC (.int .u8 0) (.bool v) (.int .u64 0) (.int .i64 0) (.float .f64 0) (.string ⟨#[]⟩) (.slice none 0 0) z32 (.slice none 0 0))) ∧ Rdd w Post w' := by
  obtain ⟨wx, hwx, bx, sx, hr, h1, h2⟩ := rd_blocks (w := w) (o := #[.int .i64 1, .int .u64 ou, .int .i64 om, .int .i64 oe]) (c := #[])
  have HC := K.Hid.mk' (H wx bx sx)
  have BX := K.Hid.mk' bx
  have SX := K.Hid.mk' sx
  have H1 := K.Hid.mk' h1
  have H2 := K.Hid.mk' h2
  have r0 := (cell_of_row wx w.heap.size 0 _ _ _ hr).trans (show (#[.int .i64 1, .int .u64 ou, .int .i64 om, .int .i64 oe] : Array Value)[0]? = some (.int .i64 1) from rfl)
  have r1 := (cell_of_row wx w.heap.size 1 _ _ _ hr).trans (show (#[.int .i64 1, .int .u64 ou, .int .i64 om, .int .i64 oe] : Array Value)[1]? = some (.int .u64 ou) from rfl)
  have r2 := (cell_of_row wx w.heap.size 2 _ _ _ hr).trans (show (#[.int .i64 1, .int .u64 ou, .int .i64 om, .int .i64 oe] : Array Value)[2]? = some (.int .i64 om) from rfl)
  clear H bx sx h1 h2 hr
  go_enter Tryz.func23, Tryz.ntmps23
  go_upto_region 2 with (first | (refine wpList_alloc_row rfl 76 rfl gz (hzG _) ?_) | fail)
  rw [← hwx]
  clear hwx
  go_wp2_with fail
  refine HC.out.mono ?_
  rintro x w1 ⟨rfl, hp, hk⟩
  have hs1 := hk.size
  have g1 : w1.heap[w.heap.size + 1]? = some (.cells gz 76 (0, 0)) := by rw [hk.block _ (by omega) (by rw [SX.out]; omega)]; exact H1.out
  have g2 : w1.heap[w.heap.size + 2]? = some (.cells gz 76 (0, 0)) := by rw [hk.block _ (by omega) (by rw [SX.out]; omega)]; exact H2.out
  have HP := K.Hid.mk' hp
  clear hp hk HC r0 r1 r2 hs1
  have ec : gz.setIfInBounds 1 (.bool v) = gC (.int .u8 0) (.bool v) (.int .u64 0) (.int .i64 0) (.float .f64 0) (.string ⟨#[]⟩) (.slice none 0 0) z32 (.slice none 0 0) := rfl
  have q2 : (w1.setCell ⟨w.heap.size + 2, 1, none⟩ (.bool v)).heap[w.heap.size + 2]? = some (.cells (gC (.int .u8 0) (.bool v) (.int .u64 0) (.int .i64 0) (.float .f64 0) (.string ⟨#[]⟩) (.slice none 0 0) z32 (.slice none 0 0)) 76 (0, 0)) := by rw [heap_setCell_same w1 _ 1 _ 76 _ g2, ec]
  have q1 : (w1.setCell ⟨w.heap.size + 2, 1, none⟩ (.bool v)).heap[w.heap.size + 1]? = some (.cells gz 76 (0, 0)) := by rw [Below.heap_setCell _ _ _ _ (by show w.heap.size + 1 ≠ w.heap.size + 2; omega)]; exact g1
  have FX : Hid (Fx w.heap.size w1 (w1.setCell ⟨w.heap.size + 2, 1, none⟩ (.bool v))) := fx_cell _ _ _ _
  have Q1 := K.Hid.mk' q1
  have Q2 := K.Hid.mk' q2
  have hcz : (gC (.int .u8 0) (.bool v) (.int .u64 0) (.int .i64 0) (.float .f64 0) (.string ⟨#[]⟩) (.slice none 0 0) z32 (.slice none 0 0)).size = 40 := gC_size z32_len
  have hco : (gC (.int .u8 0) (.bool v) (.int .u64 0) (.int .i64 0) (.float .f64 0) (.string ⟨#[]⟩) (.slice none 0 0) z32 (.slice none 0 0)).all (·.oneCell') = true := gC_one rfl rfl rfl rfl rfl rfl rfl rfl
  have c2 := (cell_of_row w1 (w.heap.size + 2) 1 _ _ _ g2).trans (rfl : gz[1]? = some (.bool false))
  have f2 := frozen_of_row w1 (w.heap.size + 2) 1 _ _ g2
  clear g1 g2 q1 q2 ec
  generalize hgen : gC (.int .u8 0) (.bool v) (.int .u64 0) (.int .i64 0) (.float .f64 0) (.string ⟨#[]⟩) (.slice none 0 0) z32 (.slice none 0 0) = C at *
  have HG := K.Hid.mk' hgen
  clear hgen
  go_wp2_with (first
    | (refine wpList_load_arr rfl 76 _ rfl (w.heap.size + 2) rfl 76 C (0, 0) _ Q2.out Tryz.underlying76 rfl (by rw [hcz]; exact sizeGot) ?_)
    | (refine wpList_store_row rfl 76 _ _ rfl (w.heap.size + 1) C rfl rfl 76 gz Q1.out (by rw [hcz]; exact sizeGot) (by rw [gz_size, hcz]) hco ?_)
    | fail)
  exact bodyPost_ret (resReadQ _ _ (w.heap.size + 1) 76 C hcz (0, 0) rfl (setRow_heap _ _ _ _ _ _ Q1.out)) rfl ⟨by rw [HG.out], _, w1, BX.out, SX.out, HP.out, FX.out.trans (fx_end _ _ _)⟩

set_option maxRecDepth 100000 in
set_option maxHeartbeats 2000000 in
theorem qread_2 (ptr : Option Addr) (ou om oe : Int) (n : Int) (n0 : 0 ≤ n) (n1 : n < 4294967296) (w : World) (Post : World → World → Prop)
    (H : ∀ wx, Below w.heap.size w wx → wx.heap.size = w.heap.size + 3 → Calls Tryz.prog 86 #[.pointer ptr] wx fun x w1 => x = .returned (.int .u32 n) ∧ Post wx w1 ∧ Keeps w.heap.size wx w1) :
    Calls Tryz.prog 23 #[.pointer ptr, .agg #[.int .i64 2, .int .u64 ou, .int .i64 om, .int .i64 oe]] w fun x w' => x = .returned (.agg (gC (.int .u8 0) (.bool false) (.int .u64 n) (.int .i64 0) (.float .f64 0) (.string ⟨#[]⟩) (.slice none 0 0) z32 (.slice none 0 0))) ∧ Rdd w Post w' := by
  obtain ⟨wx, hwx, bx, sx, hr, h1, h2⟩ := rd_blocks (w := w) (o := #[.int .i64 2, .int .u64 ou, .int .i64 om, .int .i64 oe]) (c := #[])
  have HC := K.Hid.mk' (H wx bx sx)
  have BX := K.Hid.mk' bx
  have SX := K.Hid.mk' sx
  have H1 := K.Hid.mk' h1
  have H2 := K.Hid.mk' h2
  have r0 := (cell_of_row wx w.heap.size 0 _ _ _ hr).trans (show (#[.int .i64 2, .int .u64 ou, .int .i64 om, .int .i64 oe] : Array Value)[0]? = some (.int .i64 2) from rfl)
  have r1 := (cell_of_row wx w.heap.size 1 _ _ _ hr).trans (show (#[.int .i64 2, .int .u64 ou, .int .i64 om, .int .i64 oe] : Array Value)[1]? = some (.int .u64 ou) from rfl)
  have r2 := (cell_of_row wx w.heap.size 2 _ _ _ hr).trans (show (#[.int .i64 2, .int .u64 ou, .int .i64 om, .int .i64 oe] : Array Value)[2]? = some (.int .i64 om) from rfl)
  clear H bx sx h1 h2 hr
  go_enter Tryz.func23, Tryz.ntmps23
  go_upto_region 2 with (first | (refine wpList_alloc_row rfl 76 rfl gz (hzG _) ?_) | fail)
  rw [← hwx]
  clear hwx
  go_wp2_with fail
  refine HC.out.mono ?_
  rintro x w1 ⟨rfl, hp, hk⟩
  have hs1 := hk.size
  have g1 : w1.heap[w.heap.size + 1]? = some (.cells gz 76 (0, 0)) := by rw [hk.block _ (by omega) (by rw [SX.out]; omega)]; exact H1.out
  have g2 : w1.heap[w.heap.size + 2]? = some (.cells gz 76 (0, 0)) := by rw [hk.block _ (by omega) (by rw [SX.out]; omega)]; exact H2.out
  have HP := K.Hid.mk' hp
  clear hp hk HC r0 r1 r2 hs1
  have ec : gz.setIfInBounds 2 (.int .u64 n) = gC (.int .u8 0) (.bool false) (.int .u64 n) (.int .i64 0) (.float .f64 0) (.string ⟨#[]⟩) (.slice none 0 0) z32 (.slice none 0 0) := rfl
  have q2 : (w1.setCell ⟨w.heap.size + 2, 2, none⟩ (.int .u64 n)).heap[w.heap.size + 2]? = some (.cells (gC (.int .u8 0) (.bool false) (.int .u64 n) (.int .i64 0) (.float .f64 0) (.string ⟨#[]⟩) (.slice none 0 0) z32 (.slice none 0 0)) 76 (0, 0)) := by rw [heap_setCell_same w1 _ 2 _ 76 _ g2, ec]
  have q1 : (w1.setCell ⟨w.heap.size + 2, 2, none⟩ (.int .u64 n)).heap[w.heap.size + 1]? = some (.cells gz 76 (0, 0)) := by rw [Below.heap_setCell _ _ _ _ (by show w.heap.size + 1 ≠ w.heap.size + 2; omega)]; exact g1
  have FX : Hid (Fx w.heap.size w1 (w1.setCell ⟨w.heap.size + 2, 2, none⟩ (.int .u64 n))) := fx_cell _ _ _ _
  have Q1 := K.Hid.mk' q1
  have Q2 := K.Hid.mk' q2
  have hcz : (gC (.int .u8 0) (.bool false) (.int .u64 n) (.int .i64 0) (.float .f64 0) (.string ⟨#[]⟩) (.slice none 0 0) z32 (.slice none 0 0)).size = 40 := gC_size z32_len
  have hco : (gC (.int .u8 0) (.bool false) (.int .u64 n) (.int .i64 0) (.float .f64 0) (.string ⟨#[]⟩) (.slice none 0 0) z32 (.slice none 0 0)).all (·.oneCell') = true := gC_one rfl rfl rfl rfl rfl rfl rfl rfl
  have c2 := (cell_of_row w1 (w.heap.size + 2) 2 _ _ _ g2).trans (rfl : gz[2]? = some (.int .u64 0))
  have f2 := frozen_of_row w1 (w.heap.size + 2) 2 _ _ g2
  clear g1 g2 q1 q2 ec
  generalize hgen : gC (.int .u8 0) (.bool false) (.int .u64 n) (.int .i64 0) (.float .f64 0) (.string ⟨#[]⟩) (.slice none 0 0) z32 (.slice none 0 0) = C at *
  have HG := K.Hid.mk' hgen
  clear hgen
  go_wp2_with (first
    | (refine wpList_load_arr rfl 76 _ rfl (w.heap.size + 2) rfl 76 C (0, 0) _ Q2.out Tryz.underlying76 rfl (by rw [hcz]; exact sizeGot) ?_)
    | (refine wpList_store_row rfl 76 _ _ rfl (w.heap.size + 1) C rfl rfl 76 gz Q1.out (by rw [hcz]; exact sizeGot) (by rw [gz_size, hcz]) hco ?_)
    | fail)
  exact bodyPost_ret (resReadQ _ _ (w.heap.size + 1) 76 C hcz (0, 0) rfl (setRow_heap _ _ _ _ _ _ Q1.out)) rfl ⟨by rw [HG.out], _, w1, BX.out, SX.out, HP.out, FX.out.trans (fx_end _ _ _)⟩

set_option maxRecDepth 100000 in
set_option maxHeartbeats 2000000 in
theorem qread_3 (ptr : Option Addr) (ou om oe : Int) (n : Int) (w : World) (Post : World → World → Prop)
    (H : ∀ wx, Below w.heap.size w wx → wx.heap.size = w.heap.size + 3 → Calls Tryz.prog 87 #[.pointer ptr, .int .u64 ou] wx fun x w1 => x = .returned (.int .u64 n) ∧ Post wx w1 ∧ Keeps w.heap.size wx w1) :
    Calls Tryz.prog 23 #[.pointer ptr, .agg #[.int .i64 3, .int .u64 ou, .int .i64 om, .int .i64 oe]] w fun x w' => x = .returned (.agg (gC (.int .u8 0) (.bool false) (.int .u64 n) (.int .i64 0) (.float .f64 0) (.string ⟨#[]⟩) (.slice none 0 0) z32 (.slice none 0 0))) ∧ Rdd w Post w' := by
  obtain ⟨wx, hwx, bx, sx, hr, h1, h2⟩ := rd_blocks (w := w) (o := #[.int .i64 3, .int .u64 ou, .int .i64 om, .int .i64 oe]) (c := #[])
  have HC := K.Hid.mk' (H wx bx sx)
  have BX := K.Hid.mk' bx
  have SX := K.Hid.mk' sx
  have H1 := K.Hid.mk' h1
  have H2 := K.Hid.mk' h2
  have r0 := (cell_of_row wx w.heap.size 0 _ _ _ hr).trans (show (#[.int .i64 3, .int .u64 ou, .int .i64 om, .int .i64 oe] : Array Value)[0]? = some (.int .i64 3) from rfl)
  have r1 := (cell_of_row wx w.heap.size 1 _ _ _ hr).trans (show (#[.int .i64 3, .int .u64 ou, .int .i64 om, .int .i64 oe] : Array Value)[1]? = some (.int .u64 ou) from rfl)
  have r2 := (cell_of_row wx w.heap.size 2 _ _ _ hr).trans (show (#[.int .i64 3, .int .u64 ou, .int .i64 om, .int .i64 oe] : Array Value)[2]? = some (.int .i64 om) from rfl)
  clear H bx sx h1 h2 hr
  go_enter Tryz.func23, Tryz.ntmps23
  go_upto_region 2 with (first | (refine wpList_alloc_row rfl 76 rfl gz (hzG _) ?_) | fail)
  rw [← hwx]
  clear hwx
  go_wp2_with fail
  refine HC.out.mono ?_
  rintro x w1 ⟨rfl, hp, hk⟩
  have hs1 := hk.size
  have g1 : w1.heap[w.heap.size + 1]? = some (.cells gz 76 (0, 0)) := by rw [hk.block _ (by omega) (by rw [SX.out]; omega)]; exact H1.out
  have g2 : w1.heap[w.heap.size + 2]? = some (.cells gz 76 (0, 0)) := by rw [hk.block _ (by omega) (by rw [SX.out]; omega)]; exact H2.out
  have HP := K.Hid.mk' hp
  clear hp hk HC r0 r1 r2 hs1
  have ec : gz.setIfInBounds 2 (.int .u64 n) = gC (.int .u8 0) (.bool false) (.int .u64 n) (.int .i64 0) (.float .f64 0) (.string ⟨#[]⟩) (.slice none 0 0) z32 (.slice none 0 0) := rfl
  have q2 : (w1.setCell ⟨w.heap.size + 2, 2, none⟩ (.int .u64 n)).heap[w.heap.size + 2]? = some (.cells (gC (.int .u8 0) (.bool false) (.int .u64 n) (.int .i64 0) (.float .f64 0) (.string ⟨#[]⟩) (.slice none 0 0) z32 (.slice none 0 0)) 76 (0, 0)) := by rw [heap_setCell_same w1 _ 2 _ 76 _ g2, ec]
  have q1 : (w1.setCell ⟨w.heap.size + 2, 2, none⟩ (.int .u64 n)).heap[w.heap.size + 1]? = some (.cells gz 76 (0, 0)) := by rw [Below.heap_setCell _ _ _ _ (by show w.heap.size + 1 ≠ w.heap.size + 2; omega)]; exact g1
  have FX : Hid (Fx w.heap.size w1 (w1.setCell ⟨w.heap.size + 2, 2, none⟩ (.int .u64 n))) := fx_cell _ _ _ _
  have Q1 := K.Hid.mk' q1
  have Q2 := K.Hid.mk' q2
  have hcz : (gC (.int .u8 0) (.bool false) (.int .u64 n) (.int .i64 0) (.float .f64 0) (.string ⟨#[]⟩) (.slice none 0 0) z32 (.slice none 0 0)).size = 40 := gC_size z32_len
  have hco : (gC (.int .u8 0) (.bool false) (.int .u64 n) (.int .i64 0) (.float .f64 0) (.string ⟨#[]⟩) (.slice none 0 0) z32 (.slice none 0 0)).all (·.oneCell') = true := gC_one rfl rfl rfl rfl rfl rfl rfl rfl
  have c2 := (cell_of_row w1 (w.heap.size + 2) 2 _ _ _ g2).trans (rfl : gz[2]? = some (.int .u64 0))
  have f2 := frozen_of_row w1 (w.heap.size + 2) 2 _ _ g2
  clear g1 g2 q1 q2 ec
  generalize hgen : gC (.int .u8 0) (.bool false) (.int .u64 n) (.int .i64 0) (.float .f64 0) (.string ⟨#[]⟩) (.slice none 0 0) z32 (.slice none 0 0) = C at *
  have HG := K.Hid.mk' hgen
  clear hgen
  go_wp2_with (first
    | (refine wpList_load_arr rfl 76 _ rfl (w.heap.size + 2) rfl 76 C (0, 0) _ Q2.out Tryz.underlying76 rfl (by rw [hcz]; exact sizeGot) ?_)
    | (refine wpList_store_row rfl 76 _ _ rfl (w.heap.size + 1) C rfl rfl 76 gz Q1.out (by rw [hcz]; exact sizeGot) (by rw [gz_size, hcz]) hco ?_)
    | fail)
  exact bodyPost_ret (resReadQ _ _ (w.heap.size + 1) 76 C hcz (0, 0) rfl (setRow_heap _ _ _ _ _ _ Q1.out)) rfl ⟨by rw [HG.out], _, w1, BX.out, SX.out, HP.out, FX.out.trans (fx_end _ _ _)⟩

set_option maxRecDepth 100000 in
set_option maxHeartbeats 2000000 in
theorem qread_4 (ptr : Option Addr) (ou om oe : Int) (n : Int) (w : World) (Post : World → World → Prop)
    (H : ∀ wx, Below w.heap.size w wx → wx.heap.size = w.heap.size + 3 → Calls Tryz.prog 88 #[.pointer ptr] wx fun x w1 => x = .returned (.int .i64 n) ∧ Post wx w1 ∧ Keeps w.heap.size wx w1) :
    Calls Tryz.prog 23 #[.pointer ptr, .agg #[.int .i64 4, .int .u64 ou, .int .i64 om, .int .i64 oe]] w fun x w' => x = .returned (.agg (gC (.int .u8 0) (.bool false) (.int .u64 0) (.int .i64 n) (.float .f64 0) (.string ⟨#[]⟩) (.slice none 0 0) z32 (.slice none 0 0))) ∧ Rdd w Post w' := by
  obtain ⟨wx, hwx, bx, sx, hr, h1, h2⟩ := rd_blocks (w := w) (o := #[.int .i64 4, .int .u64 ou, .int .i64 om, .int .i64 oe]) (c := #[])
  have HC := K.Hid.mk' (H wx bx sx)
  have BX := K.Hid.mk' bx
  have SX := K.Hid.mk' sx
  have H1 := K.Hid.mk' h1
  have H2 := K.Hid.mk' h2
  have r0 := (cell_of_row wx w.heap.size 0 _ _ _ hr).trans (show (#[.int .i64 4, .int .u64 ou, .int .i64 om, .int .i64 oe] : Array Value)[0]? = some (.int .i64 4) from rfl)
  have r1 := (cell_of_row wx w.heap.size 1 _ _ _ hr).trans (show (#[.int .i64 4, .int .u64 ou, .int .i64 om, .int .i64 oe] : Array Value)[1]? = some (.int .u64 ou) from rfl)
  have r2 := (cell_of_row wx w.heap.size 2 _ _ _ hr).trans (show (#[.int .i64 4, .int .u64 ou, .int .i64 om, .int .i64 oe] : Array Value)[2]? = some (.int .i64 om) from rfl)
  clear H bx sx h1 h2 hr
  go_enter Tryz.func23, Tryz.ntmps23
  go_upto_region 2 with (first | (refine wpList_alloc_row rfl 76 rfl gz (hzG _) ?_) | fail)
  rw [← hwx]
  clear hwx
  go_wp2_with fail
  refine HC.out.mono ?_
  rintro x w1 ⟨rfl, hp, hk⟩
  have hs1 := hk.size
  have g1 : w1.heap[w.heap.size + 1]? = some (.cells gz 76 (0, 0)) := by rw [hk.block _ (by omega) (by rw [SX.out]; omega)]; exact H1.out
  have g2 : w1.heap[w.heap.size + 2]? = some (.cells gz 76 (0, 0)) := by rw [hk.block _ (by omega) (by rw [SX.out]; omega)]; exact H2.out
  have HP := K.Hid.mk' hp
  clear hp hk HC r0 r1 r2 hs1
  have ec : gz.setIfInBounds 3 (.int .i64 n) = gC (.int .u8 0) (.bool false) (.int .u64 0) (.int .i64 n) (.float .f64 0) (.string ⟨#[]⟩) (.slice none 0 0) z32 (.slice none 0 0) := rfl
  have q2 : (w1.setCell ⟨w.heap.size + 2, 3, none⟩ (.int .i64 n)).heap[w.heap.size + 2]? = some (.cells (gC (.int .u8 0) (.bool false) (.int .u64 0) (.int .i64 n) (.float .f64 0) (.string ⟨#[]⟩) (.slice none 0 0) z32 (.slice none 0 0)) 76 (0, 0)) := by rw [heap_setCell_same w1 _ 3 _ 76 _ g2, ec]
  have q1 : (w1.setCell ⟨w.heap.size + 2, 3, none⟩ (.int .i64 n)).heap[w.heap.size + 1]? = some (.cells gz 76 (0, 0)) := by rw [Below.heap_setCell _ _ _ _ (by show w.heap.size + 1 ≠ w.heap.size + 2; omega)]; exact g1
  have FX : Hid (Fx w.heap.size w1 (w1.setCell ⟨w.heap.size + 2, 3, none⟩ (.int .i64 n))) := fx_cell _ _ _ _
  have Q1 := K.Hid.mk' q1
  have Q2 := K.Hid.mk' q2
  have hcz : (gC (.int .u8 0) (.bool false) (.int .u64 0) (.int .i64 n) (.float .f64 0) (.string ⟨#[]⟩) (.slice none 0 0) z32 (.slice none 0 0)).size = 40 := gC_size z32_len
  have hco : (gC (.int .u8 0) (.bool false) (.int .u64 0) (.int .i64 n) (.float .f64 0) (.string ⟨#[]⟩) (.slice none 0 0) z32 (.slice none 0 0)).all (·.oneCell') = true := gC_one rfl rfl rfl rfl rfl rfl rfl rfl
  have c2 := (cell_of_row w1 (w.heap.size + 2) 3 _ _ _ g2).trans (rfl : gz[3]? = some (.int .i64 0))
  have f2 := frozen_of_row w1 (w.heap.size + 2) 3 _ _ g2
  clear g1 g2 q1 q2 ec
  generalize hgen : gC (.int .u8 0) (.bool false) (.int .u64 0) (.int .i64 n) (.float .f64 0) (.string ⟨#[]⟩) (.slice none 0 0) z32 (.slice none 0 0) = C at *
  have HG := K.Hid.mk' hgen
  clear hgen
  go_wp2_with (first
    | (refine wpList_load_arr rfl 76 _ rfl (w.heap.size + 2) rfl 76 C (0, 0) _ Q2.out Tryz.underlying76 rfl (by rw [hcz]; exact sizeGot) ?_)
    | (refine wpList_store_row rfl 76 _ _ rfl (w.heap.size + 1) C rfl rfl 76 gz Q1.out (by rw [hcz]; exact sizeGot) (by rw [gz_size, hcz]) hco ?_)
    | fail)
  exact bodyPost_ret (resReadQ _ _ (w.heap.size + 1) 76 C hcz (0, 0) rfl (setRow_heap _ _ _ _ _ _ Q1.out)) rfl ⟨by rw [HG.out], _, w1, BX.out, SX.out, HP.out, FX.out.trans (fx_end _ _ _)⟩

set_option maxRecDepth 100000 in
set_option maxHeartbeats 2000000 in
theorem qread_5 (ptr : Option Addr) (ou om oe : Int) (f : Nat) (w : World) (Post : World → World → Prop)
    (H : ∀ wx, Below w.heap.size w wx → wx.heap.size = w.heap.size + 3 → Calls Tryz.prog 89 #[.pointer ptr] wx fun x w1 => x = .returned (.float .f64 f) ∧ Post wx w1 ∧ Keeps w.heap.size wx w1) :
    Calls Tryz.prog 23 #[.pointer ptr, .agg #[.int .i64 5, .int .u64 ou, .int .i64 om, .int .i64 oe]] w fun x w' => x = .returned (.agg (gC (.int .u8 0) (.bool false) (.int .u64 0) (.int .i64 0) (.float .f64 f) (.string ⟨#[]⟩) (.slice none 0 0) z32 (.slice none 0 0))) ∧ Rdd w Post w' := by
  obtain ⟨wx, hwx, bx, sx, hr, h1, h2⟩ := rd_blocks (w := w) (o := #[.int .i64 5, .int .u64 ou, .int .i64 om, .int .i64 oe]) (c := #[])
  have HC := K.Hid.mk' (H wx bx sx)
  have BX := K.Hid.mk' bx
  have SX := K.Hid.mk' sx
  have H1 := K.Hid.mk' h1
  have H2 := K.Hid.mk' h2
  have r0 := (cell_of_row wx w.heap.size 0 _ _ _ hr).trans (show (#[.int .i64 5, .int .u64 ou, .int .i64 om, .int .i64 oe] : Array Value)[0]? = some (.int .i64 5) from rfl)
  have r1 := (cell_of_row wx w.heap.size 1 _ _ _ hr).trans (show (#[.int .i64 5, .int .u64 ou, .int .i64 om, .int .i64 oe] : Array Value)[1]? = some (.int .u64 ou) from rfl)
  have r2 := (cell_of_row wx w.heap.size 2 _ _ _ hr).trans (show (#[.int .i64 5, .int .u64 ou, .int .i64 om, .int .i64 oe] : Array Value)[2]? = some (.int .i64 om) from rfl)
  clear H bx sx h1 h2 hr
  go_enter Tryz.func23, Tryz.ntmps23
  go_upto_region 2 with (first | (refine wpList_alloc_row rfl 76 rfl gz (hzG _) ?_) | fail)
  rw [← hwx]
  clear hwx
  go_wp2_with fail
  refine HC.out.mono ?_
  rintro x w1 ⟨rfl, hp, hk⟩
  have hs1 := hk.size
  have g1 : w1.heap[w.heap.size + 1]? = some (.cells gz 76 (0, 0)) := by rw [hk.block _ (by omega) (by rw [SX.out]; omega)]; exact H1.out
  have g2 : w1.heap[w.heap.size + 2]? = some (.cells gz 76 (0, 0)) := by rw [hk.block _ (by omega) (by rw [SX.out]; omega)]; exact H2.out
  have HP := K.Hid.mk' hp
  clear hp hk HC r0 r1 r2 hs1
  have ec : gz.setIfInBounds 4 (.float .f64 f) = gC (.int .u8 0) (.bool false) (.int .u64 0) (.int .i64 0) (.float .f64 f) (.string ⟨#[]⟩) (.slice none 0 0) z32 (.slice none 0 0) := rfl
  have q2 : (w1.setCell ⟨w.heap.size + 2, 4, none⟩ (.float .f64 f)).heap[w.heap.size + 2]? = some (.cells (gC (.int .u8 0) (.bool false) (.int .u64 0) (.int .i64 0) (.float .f64 f) (.string ⟨#[]⟩) (.slice none 0 0) z32 (.slice none 0 0)) 76 (0, 0)) := by rw [heap_setCell_same w1 _ 4 _ 76 _ g2, ec]
  have q1 : (w1.setCell ⟨w.heap.size + 2, 4, none⟩ (.float .f64 f)).heap[w.heap.size + 1]? = some (.cells gz 76 (0, 0)) := by rw [Below.heap_setCell _ _ _ _ (by show w.heap.size + 1 ≠ w.heap.size + 2; omega)]; exact g1
  have FX : Hid (Fx w.heap.size w1 (w1.setCell ⟨w.heap.size + 2, 4, none⟩ (.float .f64 f))) := fx_cell _ _ _ _
  have Q1 := K.Hid.mk' q1
  have Q2 := K.Hid.mk' q2
  have hcz : (gC (.int .u8 0) (.bool false) (.int .u64 0) (.int .i64 0) (.float .f64 f) (.string ⟨#[]⟩) (.slice none 0 0) z32 (.slice none 0 0)).size = 40 := gC_size z32_len
  have hco : (gC (.int .u8 0) (.bool false) (.int .u64 0) (.int .i64 0) (.float .f64 f) (.string ⟨#[]⟩) (.slice none 0 0) z32 (.slice none 0 0)).all (·.oneCell') = true := gC_one rfl rfl rfl rfl rfl rfl rfl rfl
  have c2 := (cell_of_row w1 (w.heap.size + 2) 4 _ _ _ g2).trans (rfl : gz[4]? = some (.float .f64 0))
  have f2 := frozen_of_row w1 (w.heap.size + 2) 4 _ _ g2
  clear g1 g2 q1 q2 ec
  generalize hgen : gC (.int .u8 0) (.bool false) (.int .u64 0) (.int .i64 0) (.float .f64 f) (.string ⟨#[]⟩) (.slice none 0 0) z32 (.slice none 0 0) = C at *
  have HG := K.Hid.mk' hgen
  clear hgen
  go_wp2_with (first
    | (refine wpList_load_arr rfl 76 _ rfl (w.heap.size + 2) rfl 76 C (0, 0) _ Q2.out Tryz.underlying76 rfl (by rw [hcz]; exact sizeGot) ?_)
    | (refine wpList_store_row rfl 76 _ _ rfl (w.heap.size + 1) C rfl rfl 76 gz Q1.out (by rw [hcz]; exact sizeGot) (by rw [gz_size, hcz]) hco ?_)
    | fail)
  exact bodyPost_ret (resReadQ _ _ (w.heap.size + 1) 76 C hcz (0, 0) rfl (setRow_heap _ _ _ _ _ _ Q1.out)) rfl ⟨by rw [HG.out], _, w1, BX.out, SX.out, HP.out, FX.out.trans (fx_end _ _ _)⟩

set_option maxRecDepth 100000 in
set_option maxHeartbeats 2000000 in
theorem qread_6 (ptr : Option Addr) (ou om oe : Int) (s : ByteArray) (w : World) (Post : World → World → Prop)
    (H : ∀ wx, Below w.heap.size w wx → wx.heap.size = w.heap.size + 3 → Calls Tryz.prog 90 #[.pointer ptr, .int .i64 om] wx fun x w1 => x = .returned (.string s) ∧ Post wx w1 ∧ Keeps w.heap.size wx w1) :
    Calls Tryz.prog 23 #[.pointer ptr, .agg #[.int .i64 6, .int .u64 ou, .int .i64 om, .int .i64 oe]] w fun x w' => x = .returned (.agg (gC (.int .u8 0) (.bool false) (.int .u64 0) (.int .i64 0) (.float .f64 0) (.string s) (.slice none 0 0) z32 (.slice none 0 0))) ∧ Rdd w Post w' := by
  obtain ⟨wx, hwx, bx, sx, hr, h1, h2⟩ := rd_blocks (w := w) (o := #[.int .i64 6, .int .u64 ou, .int .i64 om, .int .i64 oe]) (c := #[])
  have HC := K.Hid.mk' (H wx bx sx)
  have BX := K.Hid.mk' bx
  have SX := K.Hid.mk' sx
  have H1 := K.Hid.mk' h1
  have H2 := K.Hid.mk' h2
  have r0 := (cell_of_row wx w.heap.size 0 _ _ _ hr).trans (show (#[.int .i64 6, .int .u64 ou, .int .i64 om, .int .i64 oe] : Array Value)[0]? = some (.int .i64 6) from rfl)
  have r1 := (cell_of_row wx w.heap.size 1 _ _ _ hr).trans (show (#[.int .i64 6, .int .u64 ou, .int .i64 om, .int .i64 oe] : Array Value)[1]? = some (.int .u64 ou) from rfl)
  have r2 := (cell_of_row wx w.heap.size 2 _ _ _ hr).trans (show (#[.int .i64 6, .int .u64 ou, .int .i64 om, .int .i64 oe] : Array Value)[2]? = some (.int .i64 om) from rfl)
  clear H bx sx h1 h2 hr
  go_enter Tryz.func23, Tryz.ntmps23
  go_upto_region 2 with (first | (refine wpList_alloc_row rfl 76 rfl gz (hzG _) ?_) | fail)
  rw [← hwx]
  clear hwx
  go_wp2_with fail
  refine HC.out.mono ?_
  rintro x w1 ⟨rfl, hp, hk⟩
  have hs1 := hk.size
  have g1 : w1.heap[w.heap.size + 1]? = some (.cells gz 76 (0, 0)) := by rw [hk.block _ (by omega) (by rw [SX.out]; omega)]; exact H1.out
  have g2 : w1.heap[w.heap.size + 2]? = some (.cells gz 76 (0, 0)) := by rw [hk.block _ (by omega) (by rw [SX.out]; omega)]; exact H2.out
  have HP := K.Hid.mk' hp
  clear hp hk HC r0 r1 r2 hs1
  have ec : gz.setIfInBounds 5 (.string s) = gC (.int .u8 0) (.bool false) (.int .u64 0) (.int .i64 0) (.float .f64 0) (.string s) (.slice none 0 0) z32 (.slice none 0 0) := rfl
  have q2 : (w1.setCell ⟨w.heap.size + 2, 5, none⟩ (.string s)).heap[w.heap.size + 2]? = some (.cells (gC (.int .u8 0) (.bool false) (.int .u64 0) (.int .i64 0) (.float .f64 0) (.string s) (.slice none 0 0) z32 (.slice none 0 0)) 76 (0, 0)) := by rw [heap_setCell_same w1 _ 5 _ 76 _ g2, ec]
  have q1 : (w1.setCell ⟨w.heap.size + 2, 5, none⟩ (.string s)).heap[w.heap.size + 1]? = some (.cells gz 76 (0, 0)) := by rw [Below.heap_setCell _ _ _ _ (by show w.heap.size + 1 ≠ w.heap.size + 2; omega)]; exact g1
  have FX : Hid (Fx w.heap.size w1 (w1.setCell ⟨w.heap.size + 2, 5, none⟩ (.string s))) := fx_cell _ _ _ _
  have Q1 := K.Hid.mk' q1
  have Q2 := K.Hid.mk' q2
  have hcz : (gC (.int .u8 0) (.bool false) (.int .u64 0) (.int .i64 0) (.float .f64 0) (.string s) (.slice none 0 0) z32 (.slice none 0 0)).size = 40 := gC_size z32_len
  have hco : (gC (.int .u8 0) (.bool false) (.int .u64 0) (.int .i64 0) (.float .f64 0) (.string s) (.slice none 0 0) z32 (.slice none 0 0)).all (·.oneCell') = true := gC_one rfl rfl rfl rfl rfl rfl rfl rfl
  have c2 := (cell_of_row w1 (w.heap.size + 2) 5 _ _ _ g2).trans (rfl : gz[5]? = some (.string ⟨#[]⟩))
  have f2 := frozen_of_row w1 (w.heap.size + 2) 5 _ _ g2
  clear g1 g2 q1 q2 ec
  generalize hgen : gC (.int .u8 0) (.bool false) (.int .u64 0) (.int .i64 0) (.float .f64 0) (.string s) (.slice none 0 0) z32 (.slice none 0 0) = C at *
  have HG := K.Hid.mk' hgen
  clear hgen
  go_wp2_with (first
    | (refine wpList_load_arr rfl 76 _ rfl (w.heap.size + 2) rfl 76 C (0, 0) _ Q2.out Tryz.underlying76 rfl (by rw [hcz]; exact sizeGot) ?_)
    | (refine wpList_store_row rfl 76 _ _ rfl (w.heap.size + 1) C rfl rfl 76 gz Q1.out (by rw [hcz]; exact sizeGot) (by rw [gz_size, hcz]) hco ?_)
    | fail)
  exact bodyPost_ret (resReadQ _ _ (w.heap.size + 1) 76 C hcz (0, 0) rfl (setRow_heap _ _ _ _ _ _ Q1.out)) rfl ⟨by rw [HG.out], _, w1, BX.out, SX.out, HP.out, FX.out.trans (fx_end _ _ _)⟩

set_option maxRecDepth 100000 in
set_option maxHeartbeats 2000000 in
theorem qread_7 (ptr : Option Addr) (ou om oe : Int) (w : World) (Post : Value → World → World → Prop)
    (H : ∀ wx, Below w.heap.size w wx → wx.heap.size = w.heap.size + 3 → Calls Tryz.prog 91 #[.pointer ptr, .int .i64 om] wx fun x w1 => ∃ a m c, x = .returned (.slice a m c) ∧ Post (.slice a m c) wx w1 ∧ Keeps w.heap.size wx w1) :
    Calls Tryz.prog 23 #[.pointer ptr, .agg #[.int .i64 7, .int .u64 ou, .int .i64 om, .int .i64 oe]] w fun x w' => ∃ a m c, x = .returned (.agg (gC (.int .u8 0) (.bool false) (.int .u64 0) (.int .i64 0) (.float .f64 0) (.string ⟨#[]⟩) (.slice a m c) z32 (.slice none 0 0))) ∧ Rdd w (Post (.slice a m c)) w' := by
  obtain ⟨wx, hwx, bx, sx, hr, h1, h2⟩ := rd_blocks (w := w) (o := #[.int .i64 7, .int .u64 ou, .int .i64 om, .int .i64 oe]) (c := #[])
  have HC := K.Hid.mk' (H wx bx sx)
  have BX := K.Hid.mk' bx
  have SX := K.Hid.mk' sx
  have H1 := K.Hid.mk' h1
  have H2 := K.Hid.mk' h2
  have r0 := (cell_of_row wx w.heap.size 0 _ _ _ hr).trans (show (#[.int .i64 7, .int .u64 ou, .int .i64 om, .int .i64 oe] : Array Value)[0]? = some (.int .i64 7) from rfl)
  have r1 := (cell_of_row wx w.heap.size 1 _ _ _ hr).trans (show (#[.int .i64 7, .int .u64 ou, .int .i64 om, .int .i64 oe] : Array Value)[1]? = some (.int .u64 ou) from rfl)
  have r2 := (cell_of_row wx w.heap.size 2 _ _ _ hr).trans (show (#[.int .i64 7, .int .u64 ou, .int .i64 om, .int .i64 oe] : Array Value)[2]? = some (.int .i64 om) from rfl)
  clear H bx sx h1 h2 hr
  go_enter Tryz.func23, Tryz.ntmps23
  go_upto_region 2 with (first | (refine wpList_alloc_row rfl 76 rfl gz (hzG _) ?_) | fail)
  rw [← hwx]
  clear hwx
  go_wp2_with fail
  refine HC.out.mono ?_
  rintro x w1 ⟨a, m, c, rfl, hp, hk⟩
  have hs1 := hk.size
  have g1 : w1.heap[w.heap.size + 1]? = some (.cells gz 76 (0, 0)) := by rw [hk.block _ (by omega) (by rw [SX.out]; omega)]; exact H1.out
  have g2 : w1.heap[w.heap.size + 2]? = some (.cells gz 76 (0, 0)) := by rw [hk.block _ (by omega) (by rw [SX.out]; omega)]; exact H2.out
  have HP := K.Hid.mk' hp
  clear hp hk HC r0 r1 r2 hs1
  have ec : gz.setIfInBounds 6 (.slice a m c) = gC (.int .u8 0) (.bool false) (.int .u64 0) (.int .i64 0) (.float .f64 0) (.string ⟨#[]⟩) (.slice a m c) z32 (.slice none 0 0) := rfl
  have q2 : (w1.setCell ⟨w.heap.size + 2, 6, none⟩ (.slice a m c)).heap[w.heap.size + 2]? = some (.cells (gC (.int .u8 0) (.bool false) (.int .u64 0) (.int .i64 0) (.float .f64 0) (.string ⟨#[]⟩) (.slice a m c) z32 (.slice none 0 0)) 76 (0, 0)) := by rw [heap_setCell_same w1 _ 6 _ 76 _ g2, ec]
  have q1 : (w1.setCell ⟨w.heap.size + 2, 6, none⟩ (.slice a m c)).heap[w.heap.size + 1]? = some (.cells gz 76 (0, 0)) := by rw [Below.heap_setCell _ _ _ _ (by show w.heap.size + 1 ≠ w.heap.size + 2; omega)]; exact g1
  have FX : Hid (Fx w.heap.size w1 (w1.setCell ⟨w.heap.size + 2, 6, none⟩ (.slice a m c))) := fx_cell _ _ _ _
  have Q1 := K.Hid.mk' q1
  have Q2 := K.Hid.mk' q2
  have hcz : (gC (.int .u8 0) (.bool false) (.int .u64 0) (.int .i64 0) (.float .f64 0) (.string ⟨#[]⟩) (.slice a m c) z32 (.slice none 0 0)).size = 40 := gC_size z32_len
  have hco : (gC (.int .u8 0) (.bool false) (.int .u64 0) (.int .i64 0) (.float .f64 0) (.string ⟨#[]⟩) (.slice a m c) z32 (.slice none 0 0)).all (·.oneCell') = true := gC_one rfl rfl rfl rfl rfl rfl rfl rfl
  have c2 := (cell_of_row w1 (w.heap.size + 2) 6 _ _ _ g2).trans (rfl : gz[6]? = some (.slice none 0 0))
  have f2 := frozen_of_row w1 (w.heap.size + 2) 6 _ _ g2
  clear g1 g2 q1 q2 ec
  generalize hgen : gC (.int .u8 0) (.bool false) (.int .u64 0) (.int .i64 0) (.float .f64 0) (.string ⟨#[]⟩) (.slice a m c) z32 (.slice none 0 0) = C at *
  have HG := K.Hid.mk' hgen
  clear hgen
  go_wp2_with (first
    | (refine wpList_load_arr rfl 76 _ rfl (w.heap.size + 2) rfl 76 C (0, 0) _ Q2.out Tryz.underlying76 rfl (by rw [hcz]; exact sizeGot) ?_)
    | (refine wpList_store_row rfl 76 _ _ rfl (w.heap.size + 1) C rfl rfl 76 gz Q1.out (by rw [hcz]; exact sizeGot) (by rw [gz_size, hcz]) hco ?_)
    | fail)
  exact bodyPost_ret (resReadQ _ _ (w.heap.size + 1) 76 C hcz (0, 0) rfl (setRow_heap _ _ _ _ _ _ Q1.out)) rfl ⟨a, m, c, by rw [HG.out], _, w1, BX.out, SX.out, HP.out, FX.out.trans (fx_end _ _ _)⟩

set_option maxRecDepth 100000 in
set_option maxHeartbeats 2000000 in
theorem qread_9 (ptr : Option Addr) (ou om oe : Int) (w : World) (Post : Value → World → World → Prop)
    (H : ∀ wx, Below w.heap.size w wx → wx.heap.size = w.heap.size + 3 → Calls Tryz.prog 93 #[.pointer ptr, .int .i64 om] wx fun x w1 => ∃ a m c, x = .returned (.slice a m c) ∧ Post (.slice a m c) wx w1 ∧ Keeps w.heap.size wx w1) :
    Calls Tryz.prog 23 #[.pointer ptr, .agg #[.int .i64 9, .int .u64 ou, .int .i64 om, .int .i64 oe]] w fun x w' => ∃ a m c, x = .returned (.agg (gC (.int .u8 0) (.bool false) (.int .u64 0) (.int .i64 0) (.float .f64 0) (.string ⟨#[]⟩) (.slice none 0 0) z32 (.slice a m c))) ∧ Rdd w (Post (.slice a m c)) w' := by
  obtain ⟨wx, hwx, bx, sx, hr, h1, h2⟩ := rd_blocks (w := w) (o := #[.int .i64 9, .int .u64 ou, .int .i64 om, .int .i64 oe]) (c := #[])
  have HC := K.Hid.mk' (H wx bx sx)
  have BX := K.Hid.mk' bx
  have SX := K.Hid.mk' sx
  have H1 := K.Hid.mk' h1
  have H2 := K.Hid.mk' h2
  have r0 := (cell_of_row wx w.heap.size 0 _ _ _ hr).trans (show (#[.int .i64 9, .int .u64 ou, .int .i64 om, .int .i64 oe] : Array Value)[0]? = some (.int .i64 9) from rfl)
  have r1 := (cell_of_row wx w.heap.size 1 _ _ _ hr).trans (show (#[.int .i64 9, .int .u64 ou, .int .i64 om, .int .i64 oe] : Array Value)[1]? = some (.int .u64 ou) from rfl)
  have r2 := (cell_of_row wx w.heap.size 2 _ _ _ hr).trans (show (#[.int .i64 9, .int .u64 ou, .int .i64 om, .int .i64 oe] : Array Value)[2]? = some (.int .i64 om) from rfl)
  clear H bx sx h1 h2 hr
  go_enter Tryz.func23, Tryz.ntmps23
  go_upto_region 2 with (first | (refine wpList_alloc_row rfl 76 rfl gz (hzG _) ?_) | fail)
  rw [← hwx]
  clear hwx
  go_wp2_with fail
  refine HC.out.mono ?_
  rintro x w1 ⟨a, m, c, rfl, hp, hk⟩
  have hs1 := hk.size
  have g1 : w1.heap[w.heap.size + 1]? = some (.cells gz 76 (0, 0)) := by rw [hk.block _ (by omega) (by rw [SX.out]; omega)]; exact H1.out
  have g2 : w1.heap[w.heap.size + 2]? = some (.cells gz 76 (0, 0)) := by rw [hk.block _ (by omega) (by rw [SX.out]; omega)]; exact H2.out
  have HP := K.Hid.mk' hp
  clear hp hk HC r0 r1 r2 hs1
  have ec : gz.setIfInBounds 39 (.slice a m c) = gC (.int .u8 0) (.bool false) (.int .u64 0) (.int .i64 0) (.float .f64 0) (.string ⟨#[]⟩) (.slice none 0 0) z32 (.slice a m c) := by unfold gz gC gL; simp; rw [List.set_append_right _ _ (by rw [hcs_len, z32_len]; omega), hcs_len, z32_len]; rfl
  have q2 : (w1.setCell ⟨w.heap.size + 2, 39, none⟩ (.slice a m c)).heap[w.heap.size + 2]? = some (.cells (gC (.int .u8 0) (.bool false) (.int .u64 0) (.int .i64 0) (.float .f64 0) (.string ⟨#[]⟩) (.slice none 0 0) z32 (.slice a m c)) 76 (0, 0)) := by rw [heap_setCell_same w1 _ 39 _ 76 _ g2, ec]
  have q1 : (w1.setCell ⟨w.heap.size + 2, 39, none⟩ (.slice a m c)).heap[w.heap.size + 1]? = some (.cells gz 76 (0, 0)) := by rw [Below.heap_setCell _ _ _ _ (by show w.heap.size + 1 ≠ w.heap.size + 2; omega)]; exact g1
  have FX : Hid (Fx w.heap.size w1 (w1.setCell ⟨w.heap.size + 2, 39, none⟩ (.slice a m c))) := fx_cell _ _ _ _
  have Q1 := K.Hid.mk' q1
  have Q2 := K.Hid.mk' q2
  have hcz : (gC (.int .u8 0) (.bool false) (.int .u64 0) (.int .i64 0) (.float .f64 0) (.string ⟨#[]⟩) (.slice none 0 0) z32 (.slice a m c)).size = 40 := gC_size z32_len
  have hco : (gC (.int .u8 0) (.bool false) (.int .u64 0) (.int .i64 0) (.float .f64 0) (.string ⟨#[]⟩) (.slice none 0 0) z32 (.slice a m c)).all (·.oneCell') = true := gC_one rfl rfl rfl rfl rfl rfl rfl rfl
  have c2 := (cell_of_row w1 (w.heap.size + 2) 39 _ _ _ g2).trans (gC_39 z32_len : gz[39]? = some (.slice none 0 0))
  have f2 := frozen_of_row w1 (w.heap.size + 2) 39 _ _ g2
  clear g1 g2 q1 q2 ec
  generalize hgen : gC (.int .u8 0) (.bool false) (.int .u64 0) (.int .i64 0) (.float .f64 0) (.string ⟨#[]⟩) (.slice none 0 0) z32 (.slice a m c) = C at *
  have HG := K.Hid.mk' hgen
  clear hgen
  go_wp2_with (first
    | (refine wpList_load_arr rfl 76 _ rfl (w.heap.size + 2) rfl 76 C (0, 0) _ Q2.out Tryz.underlying76 rfl (by rw [hcz]; exact sizeGot) ?_)
    | (refine wpList_store_row rfl 76 _ _ rfl (w.heap.size + 1) C rfl rfl 76 gz Q1.out (by rw [hcz]; exact sizeGot) (by rw [gz_size, hcz]) hco ?_)
    | fail)
  exact bodyPost_ret (resReadQ _ _ (w.heap.size + 1) 76 C hcz (0, 0) rfl (setRow_heap _ _ _ _ _ _ Q1.out)) rfl ⟨a, m, c, by rw [HG.out], _, w1, BX.out, SX.out, HP.out, FX.out.trans (fx_end _ _ _)⟩

set_option maxRecDepth 100000 in
set_option maxHeartbeats 2000000 in
theorem qread_8 (ptr : Option Addr) (ou om oe : Int) (h : List UInt8) (hh : h.length = 32) (w : World) (Post : World → World → Prop)
    (H : ∀ wx, Below w.heap.size w wx → wx.heap.size = w.heap.size + 3 → Calls Tryz.prog 92 #[.pointer ptr] wx fun x w1 => x = .returned (.agg (bs h)) ∧ Post wx w1 ∧ Keeps w.heap.size wx w1) :
    Calls Tryz.prog 23 #[.pointer ptr, .agg #[.int .i64 8, .int .u64 ou, .int .i64 om, .int .i64 oe]] w fun x w' => x = .returned (.agg (gC (.int .u8 0) (.bool false) (.int .u64 0) (.int .i64 0) (.float .f64 0) (.string ⟨#[]⟩) (.slice none 0 0) h (.slice none 0 0))) ∧ Rdd w Post w' := by
  obtain ⟨wx, hwx, bx, sx, hr, h1, h2⟩ := rd_blocks (w := w) (o := #[.int .i64 8, .int .u64 ou, .int .i64 om, .int .i64 oe]) (c := #[])
  have HC := K.Hid.mk' (H wx bx sx)
  have BX := K.Hid.mk' bx
  have SX := K.Hid.mk' sx
  have H1 := K.Hid.mk' h1
  have H2 := K.Hid.mk' h2
  have r0 := (cell_of_row wx w.heap.size 0 _ _ _ hr).trans (show (#[.int .i64 8, .int .u64 ou, .int .i64 om, .int .i64 oe] : Array Value)[0]? = some (.int .i64 8) from rfl)
  clear H bx sx h1 h2 hr
  go_enter Tryz.func23, Tryz.ntmps23
  go_upto_region 2 with (first | (refine wpList_alloc_row rfl 76 rfl gz (hzG _) ?_) | fail)
  rw [← hwx]
  clear hwx
  go_wp2_with fail
  refine HC.out.mono ?_
  rintro x w1 ⟨rfl, hp, hk⟩
  have hs1 := hk.size
  have g1 : w1.heap[w.heap.size + 1]? = some (.cells gz 76 (0, 0)) := by rw [hk.block _ (by omega) (by rw [SX.out]; omega)]; exact H1.out
  have g2 : w1.heap[w.heap.size + 2]? = some (.cells gz 76 (0, 0)) := by rw [hk.block _ (by omega) (by rw [SX.out]; omega)]; exact H2.out
  have HP := K.Hid.mk' hp
  clear hp hk HC r0 hs1
  have GA := gotAt_row z32_len g2 (show gz = _ from rfl)
  have hth : w1.there (w.heap.size + 2) 0 40 := fun j hj => by
    rw [cell_of_row w1 (w.heap.size + 2) (0 + j) _ _ _ g2, Array.getElem?_eq_getElem (by rw [gz_size]; omega)]
    exact ⟨rfl, frozen_of_row w1 (w.heap.size + 2) (0 + j) _ _ g2⟩
  have HT : Hid (w1.there (w.heap.size + 2) 7 32) := (by have := there_part (m := 32) (i := 7) hth (by omega); rwa [Nat.zero_add] at this : w1.there (w.heap.size + 2) 7 32)
  have FX : Hid (Fx w.heap.size w1 (w1.setCells (w.heap.size + 2) 7 (hcs h))) := fx_cells _ _ _ _
  have Q1 : Hid ((w1.setCells (w.heap.size + 2) 7 (hcs h)).heap[w.heap.size + 1]? = some (.cells gz 76 (0, 0))) := by
    show _ = _
    have := (below_setCells (Below.refl (w.heap.size + 2) w1) (Nat.le_refl _) 7 (hcs h)).block (w.heap.size + 1) (by omega)
    rw [this]; exact g1
  have ap : ∀ i x, w1.cell? ⟨w.heap.size + 2, i, none⟩ = some x → (i < 7 ∨ 39 ≤ i) → (w1.setCells (w.heap.size + 2) 7 (hcs h)).cell? ⟨w.heap.size + 2, i, none⟩ = some x := fun i x hx hi => by
    have hra : w1.rangeAt (w.heap.size + 2) i [x] := fun j v hv => by
      have hj : j = 0 := by have := (List.getElem?_eq_some_iff.1 hv).1; simp at this; omega
      subst hj
      simp at hv
      subst hv
      exact hx
    have := World.rangeAt_setCells_apart hra (w.heap.size + 2) 7 (hcs h) (by rw [hcs_len, hh]; simp; omega)
    exact this 0 x rfl
  have hhx : (w1.setCells (w.heap.size + 2) 7 (hcs h)).rangeAt (w.heap.size + 2) 7 (hcs h) := World.rangeAt_setCells_same _ _ _ _ (by rw [hcs_len, hh]; exact HT.out)
  have RG : Hid ((w1.setCells (w.heap.size + 2) 7 (hcs h)).rangeAt (w.heap.size + 2) 0 (gL (.int .u8 0) (.bool false) (.int .u64 0) (.int .i64 0) (.float .f64 0) (.string ⟨#[]⟩) (.slice none 0 0) h (.slice none 0 0))) := fun j v hv => by
    rw [Nat.zero_add]
    by_cases h7 : j < 7
    · have : j = 0 ∨ j = 1 ∨ j = 2 ∨ j = 3 ∨ j = 4 ∨ j = 5 ∨ j = 6 := by omega
      rcases this with e | e | e | e | e | e | e <;> subst e <;> simp [gL] at hv <;> subst hv
      · exact ap _ _ GA.c0 (by omega)
      · exact ap _ _ GA.c1 (by omega)
      · exact ap _ _ GA.c2 (by omega)
      · exact ap _ _ GA.c3 (by omega)
      · exact ap _ _ GA.c4 (by omega)
      · exact ap _ _ GA.c5 (by omega)
      · exact ap _ _ GA.c6 (by omega)
    · obtain ⟨i, rfl⟩ : ∃ i, j = i + 7 := ⟨j - 7, by omega⟩
      simp only [gL, List.getElem?_cons_succ] at hv
      by_cases hi : i < 32
      · rw [List.getElem?_append_left (by rw [hcs_len, hh]; exact hi)] at hv
        rw [show i + 7 = 7 + i by omega]
        exact hhx i v hv
      · rw [List.getElem?_append_right (by rw [hcs_len, hh]; omega), hcs_len, hh] at hv
        have hi2 : i - 32 = 0 := by have := (List.getElem?_eq_some_iff.1 hv).1; simp at this; omega
        rw [hi2] at hv
        simp at hv
        subst hv
        rw [show i + 7 = 39 by omega]
        exact ap _ _ GA.c39 (by omega)
  have hcz : (gC (.int .u8 0) (.bool false) (.int .u64 0) (.int .i64 0) (.float .f64 0) (.string ⟨#[]⟩) (.slice none 0 0) h (.slice none 0 0)).size = 40 := gC_size hh
  have hco : (gC (.int .u8 0) (.bool false) (.int .u64 0) (.int .i64 0) (.float .f64 0) (.string ⟨#[]⟩) (.slice none 0 0) h (.slice none 0 0)).all (·.oneCell') = true := gC_one rfl rfl rfl rfl rfl rfl rfl rfl
  have HLL : Hid ((gL (.int .u8 0) (.bool false) (.int .u64 0) (.int .i64 0) (.float .f64 0) (.string ⟨#[]⟩) (.slice none 0 0) h (.slice none 0 0)).length = 40) := gL_len hh
  have HEQ : Hid ((gL (.int .u8 0) (.bool false) (.int .u64 0) (.int .i64 0) (.float .f64 0) (.string ⟨#[]⟩) (.slice none 0 0) h (.slice none 0 0)).toArray = gC (.int .u8 0) (.bool false) (.int .u64 0) (.int .i64 0) (.float .f64 0) (.string ⟨#[]⟩) (.slice none 0 0) h (.slice none 0 0)) := (rfl : _ = _)
  clear g1 g2 GA hth ap hhx
  generalize hgen : gC (.int .u8 0) (.bool false) (.int .u64 0) (.int .i64 0) (.float .f64 0) (.string ⟨#[]⟩) (.slice none 0 0) h (.slice none 0 0) = C at *
  generalize gL (.int .u8 0) (.bool false) (.int .u64 0) (.int .i64 0) (.float .f64 0) (.string ⟨#[]⟩) (.slice none 0 0) h (.slice none 0 0) = CL at *
  have HG := K.Hid.mk' hgen
  clear hgen
  go_wp2_with (first
    | (refine wpList_store_mid rfl 36 _ _ rfl (w.heap.size + 2) 7 (bs h) rfl rfl (by rw [bs_size, hh]; exact HT.out) (by rw [bs_size, hh]; exact hsH) (bs_one _) ?_)
    | (refine wpList_load_midG rfl 76 _ rfl (w.heap.size + 2) 0 rfl CL _ RG.out Tryz.underlying76 rfl (by rw [HLL.out]; exact sizeGot) ?_; rw [HEQ.out])
    | (refine wpList_store_row rfl 76 _ _ rfl (w.heap.size + 1) C rfl rfl 76 gz Q1.out (by rw [hcz]; exact sizeGot) (by rw [gz_size, hcz]) hco ?_)
    | fail)
  exact bodyPost_ret (resReadQ _ _ (w.heap.size + 1) 76 C hcz (0, 0) rfl (setRow_heap _ _ _ _ _ _ Q1.out)) rfl ⟨by rw [HG.out], _, w1, BX.out, SX.out, HP.out, FX.out.trans (fx_end _ _ _)⟩

set_option maxRecDepth 100000 in
set_option maxHeartbeats 2000000 in
theorem qread_10 (ptr : Option Addr) (ou om oe : Int) (w : World) (Post : World → World → Prop)
    (H : ∀ wx, Below w.heap.size w wx → wx.heap.size = w.heap.size + 3 → Calls Tryz.prog 94 #[.pointer ptr, .int .i64 oe, .int .i64 om] wx fun x w1 => x = .returned (.tuple #[]) ∧ Post wx w1 ∧ Keeps w.heap.size wx w1) :
    Calls Tryz.prog 23 #[.pointer ptr, .agg #[.int .i64 10, .int .u64 ou, .int .i64 om, .int .i64 oe]] w fun x w' => x = .returned (.agg gz) ∧ Rdd w Post w' := by
  obtain ⟨wx, hwx, bx, sx, hr, h1, h2⟩ := rd_blocks (w := w) (o := #[.int .i64 10, .int .u64 ou, .int .i64 om, .int .i64 oe]) (c := #[])
  have HC := K.Hid.mk' (H wx bx sx)
  have BX := K.Hid.mk' bx
  have SX := K.Hid.mk' sx
  have H1 := K.Hid.mk' h1
  have H2 := K.Hid.mk' h2
  have r0 := (cell_of_row wx w.heap.size 0 _ _ _ hr).trans (show (#[.int .i64 10, .int .u64 ou, .int .i64 om, .int .i64 oe] : Array Value)[0]? = some (.int .i64 10) from rfl)
  have r2 := (cell_of_row wx w.heap.size 2 _ _ _ hr).trans (show (#[.int .i64 10, .int .u64 ou, .int .i64 om, .int .i64 oe] : Array Value)[2]? = some (.int .i64 om) from rfl)
  have r3 := (cell_of_row wx w.heap.size 3 _ _ _ hr).trans (show (#[.int .i64 10, .int .u64 ou, .int .i64 om, .int .i64 oe] : Array Value)[3]? = some (.int .i64 oe) from rfl)
  clear H bx sx h1 h2 hr
  go_enter Tryz.func23, Tryz.ntmps23
  go_upto_region 2 with (first | (refine wpList_alloc_row rfl 76 rfl gz (hzG _) ?_) | fail)
  rw [← hwx]
  clear hwx
  go_wp2_with fail
  refine HC.out.mono ?_
  rintro x w1 ⟨rfl, hp, hk⟩
  have hs1 := hk.size
  have Q1 : Hid (w1.heap[w.heap.size + 1]? = some (.cells gz 76 (0, 0))) := by show _ = _; rw [hk.block _ (by omega) (by rw [SX.out]; omega)]; exact H1.out
  have Q2 : Hid (w1.heap[w.heap.size + 2]? = some (.cells gz 76 (0, 0))) := by show _ = _; rw [hk.block _ (by omega) (by rw [SX.out]; omega)]; exact H2.out
  have HP := K.Hid.mk' hp
  clear hp hk HC r0 r2 r3 hs1
  have hcz := gz_size
  have hco : gz.all (·.oneCell') = true := gC_one rfl rfl rfl rfl rfl rfl rfl rfl
  generalize hgen : gz = C at *
  have HG := K.Hid.mk' hgen
  clear hgen
  go_wp2_with (first
    | (refine wpList_load_arr rfl 76 _ rfl (w.heap.size + 2) rfl 76 C (0, 0) _ Q2.out Tryz.underlying76 rfl (by rw [hcz]; exact sizeGot) ?_)
    | (refine wpList_store_row rfl 76 _ _ rfl (w.heap.size + 1) C rfl rfl 76 C Q1.out (by rw [hcz]; exact sizeGot) rfl hco ?_)
    | fail)
  exact bodyPost_ret (resReadQ _ _ (w.heap.size + 1) 76 C hcz (0, 0) rfl (setRow_heap _ _ _ _ _ _ Q1.out)) rfl ⟨by rw [HG.out], _, w1, BX.out, SX.out, HP.out, fx_end _ _ _⟩

set_option maxRecDepth 100000 in
set_option maxHeartbeats 2000000 in
theorem qread_no (ptr : Option Addr) (kd ou om oe : Int) (hkd : kd < 0 ∨ 10 < kd) (w : World) :
    Calls Tryz.prog 23 #[.pointer ptr, .agg #[.int .i64 kd, .int .u64 ou, .int .i64 om, .int .i64 oe]] w fun x w' => x = .returned (.agg gz) ∧ Rdd w (fun wx w1 => w1 = wx) w' := by
  obtain ⟨wx, hwx, bx, sx, hr, h1, h2⟩ := rd_blocks (w := w) (o := #[.int .i64 kd, .int .u64 ou, .int .i64 om, .int .i64 oe]) (c := #[])
  have BX := K.Hid.mk' bx
  have SX := K.Hid.mk' sx
  have Q1 := K.Hid.mk' h1
  have Q2 := K.Hid.mk' h2
  have r0 := (cell_of_row wx w.heap.size 0 _ _ _ hr).trans (show (#[.int .i64 kd, .int .u64 ou, .int .i64 om, .int .i64 oe] : Array Value)[0]? = some (.int .i64 kd) from rfl)
  have k0 : ¬ kd = 0 := by omega
  have k1 : ¬ kd = 1 := by omega
  have k2 : ¬ kd = 2 := by omega
  have k3 : ¬ kd = 3 := by omega
  have k4 : ¬ kd = 4 := by omega
  have k5 : ¬ kd = 5 := by omega
  have k6 : ¬ kd = 6 := by omega
  have k7 : ¬ kd = 7 := by omega
  have k8 : ¬ kd = 8 := by omega
  have k9 : ¬ kd = 9 := by omega
  have k10 : ¬ kd = 10 := by omega
  clear bx sx h1 h2 hr hkd
  go_enter Tryz.func23, Tryz.ntmps23
  go_upto_region 2 with (first | (refine wpList_alloc_row rfl 76 rfl gz (hzG _) ?_) | fail)
  rw [← hwx]
  clear hwx
  have hcz := gz_size
  have hco : gz.all (·.oneCell') = true := gC_one rfl rfl rfl rfl rfl rfl rfl rfl
  generalize hgen : gz = C at *
  have HG := K.Hid.mk' hgen
  clear hgen
  go_wp2_with (first
    | (refine wpList_load_arr rfl 76 _ rfl (w.heap.size + 2) rfl 76 C (0, 0) _ Q2.out Tryz.underlying76 rfl (by rw [hcz]; exact sizeGot) ?_)
    | (refine wpList_store_row rfl 76 _ _ rfl (w.heap.size + 1) C rfl rfl 76 C Q1.out (by rw [hcz]; exact sizeGot) rfl hco ?_)
    | fail)
  exact bodyPost_ret (resReadQ _ _ (w.heap.size + 1) 76 C hcz (0, 0) rfl (setRow_heap _ _ _ _ _ _ Q1.out)) rfl ⟨by rw [HG.out], _, _, BX.out, SX.out, rfl, fx_end _ _ _⟩
end Go.Proofs.YtdnocpngdepbgaaGreatDoor

namespace Go.Proofs.YtdnocpngdepbgaaGreatDoor
open Go.RowKit
set_option linter.unusedVariables false
set_option linter.unusedSimpArgs false

set_option maxRecDepth 100000 in
set_option maxHeartbeats 1000000 in
theorem handH_any (a : Option Addr) (L : List (List UInt8)) (cap : Nat) (w : World) (hL : All32 L) (hn : L.length ≤ 4398046511104) (hl : Hl w a L) :
    Calls Tryz.prog 40 #[.slice a L.length cap] w fun e w' => e = .returned (.slice (some ⟨w.heap.size, 0, none⟩) L.length (L.length + 9)) ∧ Below w.heap.size w w' ∧ w.heap.size < w'.heap.size ∧
      Hs w' w.heap.size 0 (L ++ marks) ∧ w'.there w.heap.size 0 (32 * (L.length + 9)) := by
  obtain ⟨n, hnl⟩ : ∃ n, n = L.length := ⟨_, rfl⟩
  have hmk := make_hashes (n + 9) (by omega) w
  rw [show ((n + 9 : Nat) : Int) = (n : Int) + 9 by omega] at hmk
  have hP : (L ++ marks).length = n + 9 := by rw [List.length_append, marks_len, hnl]
  have hP32 : All32 (L ++ marks) := all32_app hL all32_marks
  have h0 : Hs (w.alloc (.cells (madeCells (bs z32) ((n + 9) * 32)) 36)) w.heap.size 0 (part (L ++ marks) (n + 9) 0) := by rw [part_zero]; exact hs_made w (n + 9) _
  have t0 := there_made w (n + 9) 36
  have HH0 : Hid (Hs (w.alloc (.cells (madeCells (bs z32) ((n + 9) * 32)) 36)) w.heap.size 0 (part (L ++ marks) (n + 9) 0)) := h0
  have HT0 : Hid ((w.alloc (.cells (madeCells (bs z32) ((n + 9) * 32)) 36)).there w.heap.size 0 (32 * (n + 9))) := t0
  clear h0 t0
  rw [← hnl] at hn ⊢
  have HN : Hid (n = L.length) := hnl
  have HPL : Hid ((L ++ marks).length = n + 9) := hP
  clear hnl hP
  go_enter Tryz.func40, Tryz.ntmps40
  go_wp2
  clear hmk
  go_loopw [4] (fun i wr => ∃ k : Nat, k ≤ n ∧ i = .int .i64 k ∧ Hid (Hs wr w.heap.size 0 (part (L ++ marks) (n + 9) k)) ∧ Hid (wr.there w.heap.size 0 (32 * (n + 9))) ∧ Below w.heap.size w wr ∧ w.heap.size < wr.heap.size) (fun i _ => n - (intOf i).toNat)
  case atStart => exact ⟨0, by omega, rfl, HH0, HT0, (Below.refl _ _).alloc (Nat.le_refl _) _, by simp⟩
  case round =>
    obtain ⟨k, hk, rfl, hs, ht, bel, hlt⟩ := hrel
    by_cases hkn : k < n
    · have hkL : k < L.length := by rw [← HN.out]; exact hkn
      obtain ⟨b, off, rfl, hsA⟩ := hl.at hkL
      obtain ⟨x, hx⟩ : ∃ x, L[k]? = some x := ⟨_, List.getElem?_eq_getElem hkL⟩
      have hx32 := hL.get hx
      have hbB : b < w.heap.size := hsA.lt hL (by omega)
      have HR : Hid (wr.rangeAt b (off + 32 * k) (hcs x)) := rangeAt_below (hsA k x hx) bel hbB
      have HX : Hid (Hs (wr.setCells w.heap.size (32 * k) (hcs x)) w.heap.size 0 (part (L ++ marks) (n + 9) (k + 1))) := by
        have := Hs.set hs.out (all32_part hP32 _ _) k x hx32 (by rw [part_len _ _ _ (by omega) HPL.out]; omega) (there_part ht.out (by omega))
        rw [Nat.zero_add] at this
        rwa [part_set _ _ _ (by omega) HPL.out x (by rw [List.getElem?_append_left hkL]; exact hx)] at this
      have ix1 := fun wx => indexH b off n cap k wx hkn
      have ix2 := fun wx => indexH w.heap.size 0 (n + 9) (n + 9) k wx (by omega)
      have HTH : Hid (wr.there w.heap.size (32 * k) 32) := (by have := there_part (m := 32) (i := 32 * k) ht.out (by omega); rwa [Nat.zero_add] at this : wr.there w.heap.size (32 * k) 32)
      clear hl hsA
      go_wp2_with (first
        | (refine wpList_load_mid rfl 36 _ rfl b (off + 32 * k) rfl (hcs x) _ HR.out Tryz.underlying36 rfl (by rw [hcs_len, hx32]; exact hsH) ?_; rw [hcs_arr])
        | (refine wpList_store_mid rfl 36 _ _ rfl w.heap.size (32 * k) (bs x) rfl rfl (by rw [bs_size, hx32]; exact HTH.out) (by rw [bs_size, hx32]; exact hsH) (bs_one _) ?_)
        | fail)
      go_roundw
      case rel => exact ⟨k + 1, by omega, by go_num, HX, World.there_setCells ht.out _ _ _, below_setCells bel (Nat.le_refl _) _ _, by rw [size_setCells]; exact hlt⟩
      case measure => simp [intOf]; omega
    · obtain rfl : k = n := by omega
      go_wp2
      go_loopw [5] (fun i wr => ∃ m : Nat, k ≤ m ∧ m ≤ k + 9 ∧ i = .int .i64 (m : Int) ∧ Hid (Hs wr w.heap.size 0 (part (L ++ marks) (k + 9) m)) ∧ Hid (wr.there w.heap.size 0 (32 * (k + 9))) ∧ Below w.heap.size w wr ∧ w.heap.size < wr.heap.size) (fun i _ => k + 9 - (intOf i).toNat)
      case atStart => exact ⟨k, by omega, by omega, rfl, hs, ht, bel, hlt⟩
      case round =>
        obtain ⟨m, hkm, hm9, rfl, hs, ht, bel, hlt⟩ := hrel
        by_cases hm : m < k + 9
        · obtain ⟨j, hj⟩ : ∃ j : Nat, m = k + j := ⟨m - k, by omega⟩
          have ej : (m : Int) - (k : Int) = (j : Int) := by omega
          have hj9 : j < 9 := by omega
          have HX : Hid (Hs (wr.setCells w.heap.size (32 * m) (hcs (mk j))) w.heap.size 0 (part (L ++ marks) (k + 9) (m + 1))) := by
            have := Hs.set hs.out (all32_part hP32 _ _) m (mk j) (mk_len j) (by rw [part_len _ _ _ (by omega) HPL.out]; omega) (there_part ht.out (by omega))
            rw [Nat.zero_add] at this
            rwa [part_set _ _ _ (by omega) HPL.out (mk j) (by rw [List.getElem?_append_right (by rw [← HN.out]; omega), ← HN.out, hj, Nat.add_sub_cancel_left]; exact marks_get j hj9)] at this
          have ix2 := fun wx => indexH w.heap.size 0 (k + 9) (k + 9) m wx hm
          have HTH : Hid (wr.there w.heap.size (32 * m) 32) := (by have := there_part (m := 32) (i := 32 * m) ht.out (by omega); rwa [Nat.zero_add] at this : wr.there w.heap.size (32 * m) 32)
          have hbu := built_mk j (by omega)
          have HMK : Hid ((mk j).length = 32) := mk_len j
          have HJ : Hid (m = k + j) := hj
          clear hj
          generalize mk j = x at *
          go_wp2_with (first
            | (refine wpList_build_is rfl 36 _ rfl [(0, .int .u8 160), (1, .int .u8 (j : Int))] (by first | kernel_rfl | simp) (bs x) hbu ?_)
            | (refine wpList_store_mid rfl 36 _ _ rfl w.heap.size (32 * m) (bs x) rfl rfl (by rw [bs_size, HMK.out]; exact HTH.out) (by rw [bs_size, HMK.out]; exact hsH) (bs_one _) ?_)
            | fail)
          go_roundw
          case rel => exact ⟨m + 1, by omega, by omega, by go_num, HX, World.there_setCells ht.out _ _ _, below_setCells bel (Nat.le_refl _) _ _, by rw [size_setCells]; exact hlt⟩
          case measure => simp [intOf]; omega
        · obtain rfl : m = k + 9 := by omega
          go_wp2
          go_ret
          refine ⟨rfl, bel, hlt, ?_, ht.out⟩
          have := hs.out
          rwa [part_all _ _ HPL.out] at this
end Go.Proofs.YtdnocpngdepbgaaGreatDoor

namespace Go.Proofs.YtdnocpngdepbgaaGreatDoor
open Go.RowKit
set_option linter.unusedVariables false
set_option linter.unusedSimpArgs false

/-- What is written, as cells. -/
def oL (k b v u n f s r : Value) (h : List UInt8) (l e : Value) : List Value := k :: b :: v :: u :: n :: f :: s :: r :: (hcs h ++ [l, e])
def oC (k b v u n f s r : Value) (h : List UInt8) (l e : Value) : Array Value := (oL k b v u n f s r h l e).toArray
section
variable {k b v u n f s r l e : Value} {h : List UInt8}
theorem oL_len (hh : h.length = 32) : (oL k b v u n f s r h l e).length = 42 := by simp [oL, hcs_len, hh]
theorem oC_40 (hh : h.length = 32) : (oC k b v u n f s r h l e)[40]? = some l := by
  simp [oC, oL]
  rw [List.getElem?_append_right (by rw [hcs_len, hh]; omega), hcs_len, hh]
  rfl
theorem oC_41 (hh : h.length = 32) : (oC k b v u n f s r h l e)[41]? = some e := by
  simp [oC, oL]
  rw [List.getElem?_append_right (by rw [hcs_len, hh]; omega), hcs_len, hh]
  rfl
theorem oC_hash (hh : h.length = 32) (j : Nat) (x : Value) (hx : (hcs h)[j]? = some x) : (oC k b v u n f s r h l e)[8 + j]? = some x := by
  have hj : j < (hcs h).length := (List.getElem?_eq_some_iff.1 hx).1
  unfold oC oL
  rw [show 8 + j = j + 1 + 1 + 1 + 1 + 1 + 1 + 1 + 1 by omega]
  simp only [List.getElem?_toArray, List.getElem?_cons_succ]
  rw [List.getElem?_append_left hj]
  exact hx
end
structure OpAt (w : World) (g : Nat) (k b v u n f s r : Value) (h : List UInt8) (l e : Value) : Prop where
  c0 : w.cell? ⟨g, 0, none⟩ = some k
  c1 : w.cell? ⟨g, 1, none⟩ = some b
  c2 : w.cell? ⟨g, 2, none⟩ = some v
  c3 : w.cell? ⟨g, 3, none⟩ = some u
  c4 : w.cell? ⟨g, 4, none⟩ = some n
  c5 : w.cell? ⟨g, 5, none⟩ = some f
  c6 : w.cell? ⟨g, 6, none⟩ = some s
  c7 : w.cell? ⟨g, 7, none⟩ = some r
  ch : w.rangeAt g 8 (hcs h)
  c40 : w.cell? ⟨g, 40, none⟩ = some l
  c41 : w.cell? ⟨g, 41, none⟩ = some e
theorem opAt_row {w : World} {g : Nat} {k b v u n f s r l e : Value} {h : List UInt8} {C : Array Value} {t : TypeId} {fr : Nat × Nat} (hh : h.length = 32) (hg : w.heap[g]? = some (.cells C t fr)) (hC : C = oC k b v u n f s r h l e) : OpAt w g k b v u n f s r h l e := by
  subst hC
  have key : ∀ i x, (oC k b v u n f s r h l e)[i]? = some x → w.cell? ⟨g, i, none⟩ = some x := fun i x hx => (cell_of_row w g i _ _ _ hg).trans hx
  exact ⟨key 0 _ rfl, key 1 _ rfl, key 2 _ rfl, key 3 _ rfl, key 4 _ rfl, key 5 _ rfl, key 6 _ rfl, key 7 _ rfl, fun j x hx => key (8 + j) x (oC_hash hh j x hx), key 40 _ (oC_40 hh), key 41 _ (oC_41 hh)⟩
theorem cell_block {w w' : World} {g i : Nat} {x : Value} (h : w'.heap[g]? = w.heap[g]?) (hc : w.cell? ⟨g, i, none⟩ = some x) : w'.cell? ⟨g, i, none⟩ = some x := (World.cell?_of_block h).trans hc
/-- What comes in. -/
structure OpV where
  b : Int
  v : Bool
  u : Nat
  n : Int
  f : Nat
  s : ByteArray
  ra : Option Addr
  rn : Nat
  rc : Nat
  h : List UInt8
  la : Option Addr
  ln : Nat
  lc : Nat
  e : Int
def OpV.c (o : OpV) (k : Int) : Array Value := oC (.int .i64 k) (.int .u8 o.b) (.bool o.v) (.int .u64 (o.u : Int)) (.int .i64 o.n) (.float .f64 o.f) (.string o.s) (.slice o.ra o.rn o.rc) o.h (.slice o.la o.ln o.lc) (.int .i64 o.e)
theorem op_block (o : OpV) (hh : o.h.length = 32) (k : Int) (w : World) : ∃ wx, wx = w.alloc (.cells (o.c k) 39) ∧ Below w.heap.size w wx ∧ wx.heap.size = w.heap.size + 1 ∧ OpAt wx w.heap.size (.int .i64 k) (.int .u8 o.b) (.bool o.v) (.int .u64 (o.u : Int)) (.int .i64 o.n) (.float .f64 o.f) (.string o.s) (.slice o.ra o.rn o.rc) o.h (.slice o.la o.ln o.lc) (.int .i64 o.e) :=
  ⟨_, rfl, (Below.refl _ _).alloc (Nat.le_refl _) _, by simp, opAt_row hh (heap_alloc_new _ _) rfl⟩
/-- What stands behind a write. -/
def Wdd (w : World) (Post : World → World → Prop) (w' : World) : Prop := ∃ wx, Below w.heap.size w wx ∧ wx.heap.size = w.heap.size + 1 ∧ Post wx w'

set_option maxRecDepth 100000 in
set_option maxHeartbeats 2000000 in
theorem write_0 (ptr : Option Addr) (o : OpV) (hh : o.h.length = 32) (w : World) (Post : World → World → Prop)
    (H : ∀ wx, Below w.heap.size w wx → wx.heap.size = w.heap.size + 1 → Calls Tryz.prog 13 #[.pointer ptr, .int .u8 o.b] wx fun x w1 => x = .returned (.tuple #[]) ∧ Post wx w1) :
    Calls Tryz.prog 6 #[.pointer ptr, .agg (o.c 0)] w fun x w' => x = .returned (.bool true) ∧ Wdd w Post w' := by
  obtain ⟨wx, hwx, bx, sx, ⟨r0, r1, r2, r3, r4, r5, r6, r7, rh, r40, r41⟩⟩ := op_block o hh 0 w
  have HC := K.Hid.mk' (H wx bx sx)
  have BX := K.Hid.mk' bx
  have SX := K.Hid.mk' sx
  have PH := K.Hid.mk' rh
  clear H bx sx rh
  generalize o.c 0 = C at *
  go_enter Tryz.func6, Tryz.ntmps6
  go_upto_region 1 with fail
  rw [← hwx]
  clear hwx
  go_wp2_with fail
  refine HC.out.mono ?_
  rintro x w1 ⟨rfl, hp⟩
  have HP := K.Hid.mk' hp
  clear hp HC r0 r1 r2 r3 r4 r5 r6 r7 r40 r41
  go_wp2
  go_ret
  exact ⟨rfl, _, BX.out, SX.out, HP.out⟩

set_option maxRecDepth 100000 in
set_option maxHeartbeats 2000000 in
theorem write_1 (ptr : Option Addr) (o : OpV) (hh : o.h.length = 32) (w : World) (Post : World → World → Prop)
    (H : ∀ wx, Below w.heap.size w wx → wx.heap.size = w.heap.size + 1 → Calls Tryz.prog 36 #[.pointer ptr, .bool o.v] wx fun x w1 => x = .returned (.tuple #[]) ∧ Post wx w1) :
    Calls Tryz.prog 6 #[.pointer ptr, .agg (o.c 1)] w fun x w' => x = .returned (.bool true) ∧ Wdd w Post w' := by
  obtain ⟨wx, hwx, bx, sx, ⟨r0, r1, r2, r3, r4, r5, r6, r7, rh, r40, r41⟩⟩ := op_block o hh 1 w
  have HC := K.Hid.mk' (H wx bx sx)
  have BX := K.Hid.mk' bx
  have SX := K.Hid.mk' sx
  have PH := K.Hid.mk' rh
  clear H bx sx rh
  generalize o.c 1 = C at *
  go_enter Tryz.func6, Tryz.ntmps6
  go_upto_region 1 with fail
  rw [← hwx]
  clear hwx
  go_wp2_with fail
  refine HC.out.mono ?_
  rintro x w1 ⟨rfl, hp⟩
  have HP := K.Hid.mk' hp
  clear hp HC r0 r1 r2 r3 r4 r5 r6 r7 r40 r41
  go_wp2
  go_ret
  exact ⟨rfl, _, BX.out, SX.out, HP.out⟩

set_option maxRecDepth 100000 in
set_option maxHeartbeats 2000000 in
theorem write_2 (ptr : Option Addr) (o : OpV) (hh : o.h.length = 32) (w : World) (Post : World → World → Prop)
    (H : ∀ wx, Below w.heap.size w wx → wx.heap.size = w.heap.size + 1 → Calls Tryz.prog 37 #[.pointer ptr, .int .u32 ((o.u : Int) % 4294967296)] wx fun x w1 => x = .returned (.tuple #[]) ∧ Post wx w1) :
    Calls Tryz.prog 6 #[.pointer ptr, .agg (o.c 2)] w fun x w' => x = .returned (.bool true) ∧ Wdd w Post w' := by
  obtain ⟨wx, hwx, bx, sx, ⟨r0, r1, r2, r3, r4, r5, r6, r7, rh, r40, r41⟩⟩ := op_block o hh 2 w
  have HC : Hid (∀ q : Int, q = (o.u : Int) % 4294967296 → Calls Tryz.prog 37 #[.pointer ptr, .int .u32 q] wx fun x w1 => x = .returned (.tuple #[]) ∧ Post wx w1) := fun q hq => by rw [hq]; exact H wx bx sx
  have BX := K.Hid.mk' bx
  have SX := K.Hid.mk' sx
  have PH := K.Hid.mk' rh
  clear H bx sx rh
  generalize o.c 2 = C at *
  go_enter Tryz.func6, Tryz.ntmps6
  go_upto_region 1 with fail
  rw [← hwx]
  clear hwx
  go_wp2_with fail
  refine (HC.out _ (by first | rfl | (simp only [IntKind.wrap_u32]))).mono ?_
  rintro x w1 ⟨rfl, hp⟩
  have HP := K.Hid.mk' hp
  clear hp HC r0 r1 r2 r3 r4 r5 r6 r7 r40 r41
  go_wp2
  go_ret
  exact ⟨rfl, _, BX.out, SX.out, HP.out⟩

set_option maxRecDepth 100000 in
set_option maxHeartbeats 2000000 in
theorem write_3 (ptr : Option Addr) (o : OpV) (hh : o.h.length = 32) (w : World) (Post : World → World → Prop)
    (H : ∀ wx, Below w.heap.size w wx → wx.heap.size = w.heap.size + 1 → Calls Tryz.prog 26 #[.pointer ptr, .int .u64 (o.u : Int)] wx fun x w1 => x = .returned (.tuple #[]) ∧ Post wx w1) :
    Calls Tryz.prog 6 #[.pointer ptr, .agg (o.c 3)] w fun x w' => x = .returned (.bool true) ∧ Wdd w Post w' := by
  obtain ⟨wx, hwx, bx, sx, ⟨r0, r1, r2, r3, r4, r5, r6, r7, rh, r40, r41⟩⟩ := op_block o hh 3 w
  have HC := K.Hid.mk' (H wx bx sx)
  have BX := K.Hid.mk' bx
  have SX := K.Hid.mk' sx
  have PH := K.Hid.mk' rh
  clear H bx sx rh
  generalize o.c 3 = C at *
  go_enter Tryz.func6, Tryz.ntmps6
  go_upto_region 1 with fail
  rw [← hwx]
  clear hwx
  go_wp2_with fail
  refine HC.out.mono ?_
  rintro x w1 ⟨rfl, hp⟩
  have HP := K.Hid.mk' hp
  clear hp HC r0 r1 r2 r3 r4 r5 r6 r7 r40 r41
  go_wp2
  go_ret
  exact ⟨rfl, _, BX.out, SX.out, HP.out⟩

set_option maxRecDepth 100000 in
set_option maxHeartbeats 2000000 in
theorem write_4 (ptr : Option Addr) (o : OpV) (hh : o.h.length = 32) (w : World) (Post : World → World → Prop)
    (H : ∀ wx, Below w.heap.size w wx → wx.heap.size = w.heap.size + 1 → Calls Tryz.prog 27 #[.pointer ptr, .int .i64 o.n] wx fun x w1 => x = .returned (.tuple #[]) ∧ Post wx w1) :
    Calls Tryz.prog 6 #[.pointer ptr, .agg (o.c 4)] w fun x w' => x = .returned (.bool true) ∧ Wdd w Post w' := by
  obtain ⟨wx, hwx, bx, sx, ⟨r0, r1, r2, r3, r4, r5, r6, r7, rh, r40, r41⟩⟩ := op_block o hh 4 w
  have HC := K.Hid.mk' (H wx bx sx)
  have BX := K.Hid.mk' bx
  have SX := K.Hid.mk' sx
  have PH := K.Hid.mk' rh
  clear H bx sx rh
  generalize o.c 4 = C at *
  go_enter Tryz.func6, Tryz.ntmps6
  go_upto_region 1 with fail
  rw [← hwx]
  clear hwx
  go_wp2_with fail
  refine HC.out.mono ?_
  rintro x w1 ⟨rfl, hp⟩
  have HP := K.Hid.mk' hp
  clear hp HC r0 r1 r2 r3 r4 r5 r6 r7 r40 r41
  go_wp2
  go_ret
  exact ⟨rfl, _, BX.out, SX.out, HP.out⟩

set_option maxRecDepth 100000 in
set_option maxHeartbeats 2000000 in
theorem write_5 (ptr : Option Addr) (o : OpV) (hh : o.h.length = 32) (w : World) (Post : World → World → Prop)
    (H : ∀ wx, Below w.heap.size w wx → wx.heap.size = w.heap.size + 1 → Calls Tryz.prog 29 #[.pointer ptr, .float .f64 o.f] wx fun x w1 => x = .returned (.tuple #[]) ∧ Post wx w1) :
    Calls Tryz.prog 6 #[.pointer ptr, .agg (o.c 5)] w fun x w' => x = .returned (.bool true) ∧ Wdd w Post w' := by
  obtain ⟨wx, hwx, bx, sx, ⟨r0, r1, r2, r3, r4, r5, r6, r7, rh, r40, r41⟩⟩ := op_block o hh 5 w
  have HC := K.Hid.mk' (H wx bx sx)
  have BX := K.Hid.mk' bx
  have SX := K.Hid.mk' sx
  have PH := K.Hid.mk' rh
  clear H bx sx rh
  generalize o.c 5 = C at *
  go_enter Tryz.func6, Tryz.ntmps6
  go_upto_region 1 with fail
  rw [← hwx]
  clear hwx
  go_wp2_with fail
  refine HC.out.mono ?_
  rintro x w1 ⟨rfl, hp⟩
  have HP := K.Hid.mk' hp
  clear hp HC r0 r1 r2 r3 r4 r5 r6 r7 r40 r41
  go_wp2
  go_ret
  exact ⟨rfl, _, BX.out, SX.out, HP.out⟩

set_option maxRecDepth 100000 in
set_option maxHeartbeats 2000000 in
theorem write_6 (ptr : Option Addr) (o : OpV) (hh : o.h.length = 32) (w : World) (Post : World → World → Prop)
    (H : ∀ wx, Below w.heap.size w wx → wx.heap.size = w.heap.size + 1 → Calls Tryz.prog 28 #[.pointer ptr, .string o.s] wx fun x w1 => x = .returned (.tuple #[]) ∧ Post wx w1) :
    Calls Tryz.prog 6 #[.pointer ptr, .agg (o.c 6)] w fun x w' => x = .returned (.bool true) ∧ Wdd w Post w' := by
  obtain ⟨wx, hwx, bx, sx, ⟨r0, r1, r2, r3, r4, r5, r6, r7, rh, r40, r41⟩⟩ := op_block o hh 6 w
  have HC := K.Hid.mk' (H wx bx sx)
  have BX := K.Hid.mk' bx
  have SX := K.Hid.mk' sx
  have PH := K.Hid.mk' rh
  clear H bx sx rh
  generalize o.c 6 = C at *
  go_enter Tryz.func6, Tryz.ntmps6
  go_upto_region 1 with fail
  rw [← hwx]
  clear hwx
  go_wp2_with fail
  refine HC.out.mono ?_
  rintro x w1 ⟨rfl, hp⟩
  have HP := K.Hid.mk' hp
  clear hp HC r0 r1 r2 r3 r4 r5 r6 r7 r40 r41
  go_wp2
  go_ret
  exact ⟨rfl, _, BX.out, SX.out, HP.out⟩

set_option maxRecDepth 100000 in
set_option maxHeartbeats 2000000 in
theorem write_8 (ptr : Option Addr) (o : OpV) (hh : o.h.length = 32) (w : World) (Post : World → World → Prop)
    (H : ∀ wx, Below w.heap.size w wx → wx.heap.size = w.heap.size + 1 → Calls Tryz.prog 39 #[.pointer ptr, .agg (bs o.h)] wx fun x w1 => x = .returned (.tuple #[]) ∧ Post wx w1) :
    Calls Tryz.prog 6 #[.pointer ptr, .agg (o.c 8)] w fun x w' => x = .returned (.bool true) ∧ Wdd w Post w' := by
  obtain ⟨wx, hwx, bx, sx, ⟨r0, r1, r2, r3, r4, r5, r6, r7, rh, r40, r41⟩⟩ := op_block o hh 8 w
  have HC := K.Hid.mk' (H wx bx sx)
  have BX := K.Hid.mk' bx
  have SX := K.Hid.mk' sx
  have PH := K.Hid.mk' rh
  clear H bx sx rh
  generalize o.c 8 = C at *
  go_enter Tryz.func6, Tryz.ntmps6
  go_upto_region 1 with fail
  rw [← hwx]
  clear hwx
  go_wp2_with (first
    | (refine wpList_load_midG rfl 36 _ rfl w.heap.size 8 rfl (hcs o.h) _ PH.out Tryz.underlying36 rfl (by rw [hcs_len, hh]; exact hsH) ?_; rw [hcs_arr])
    | fail)
  refine HC.out.mono ?_
  rintro x w1 ⟨rfl, hp⟩
  have HP := K.Hid.mk' hp
  clear hp HC r0 r1 r2 r3 r4 r5 r6 r7 r40 r41
  go_wp2
  go_ret
  exact ⟨rfl, _, BX.out, SX.out, HP.out⟩

set_option maxRecDepth 100000 in
set_option maxHeartbeats 2000000 in
theorem write_10 (ptr : Option Addr) (o : OpV) (hh : o.h.length = 32) (w : World) (Post : World → World → Prop)
    (H : ∀ wx, Below w.heap.size w wx → wx.heap.size = w.heap.size + 1 → Calls Tryz.prog 43 #[.pointer ptr, .int .i64 o.e] wx fun x w1 => x = .returned (.tuple #[]) ∧ Post wx w1) :
    Calls Tryz.prog 6 #[.pointer ptr, .agg (o.c 10)] w fun x w' => x = .returned (.bool true) ∧ Wdd w Post w' := by
  obtain ⟨wx, hwx, bx, sx, ⟨r0, r1, r2, r3, r4, r5, r6, r7, rh, r40, r41⟩⟩ := op_block o hh 10 w
  have HC := K.Hid.mk' (H wx bx sx)
  have BX := K.Hid.mk' bx
  have SX := K.Hid.mk' sx
  have PH := K.Hid.mk' rh
  clear H bx sx rh
  generalize o.c 10 = C at *
  go_enter Tryz.func6, Tryz.ntmps6
  go_upto_region 1 with fail
  rw [← hwx]
  clear hwx
  go_wp2_with fail
  refine HC.out.mono ?_
  rintro x w1 ⟨rfl, hp⟩
  have HP := K.Hid.mk' hp
  clear hp HC r0 r1 r2 r3 r4 r5 r6 r7 r40 r41
  go_wp2
  go_ret
  exact ⟨rfl, _, BX.out, SX.out, HP.out⟩

set_option maxRecDepth 100000 in
set_option maxHeartbeats 2000000 in
theorem write_no (ptr : Option Addr) (o : OpV) (hh : o.h.length = 32) (k : Int) (hk : k < 0 ∨ 10 < k) (w : World) :
    Calls Tryz.prog 6 #[.pointer ptr, .agg (o.c k)] w fun x w' => x = .returned (.bool true) ∧ Wdd w (fun wx w1 => w1 = wx) w' := by
  obtain ⟨wx, hwx, bx, sx, ⟨r0, r1, r2, r3, r4, r5, r6, r7, rh, r40, r41⟩⟩ := op_block o hh k w
  have BX := K.Hid.mk' bx
  have SX := K.Hid.mk' sx
  have k0 : ¬ k = 0 := by omega
  have k1 : ¬ k = 1 := by omega
  have k2 : ¬ k = 2 := by omega
  have k3 : ¬ k = 3 := by omega
  have k4 : ¬ k = 4 := by omega
  have k5 : ¬ k = 5 := by omega
  have k6 : ¬ k = 6 := by omega
  have k7 : ¬ k = 7 := by omega
  have k8 : ¬ k = 8 := by omega
  have k9 : ¬ k = 9 := by omega
  have k10 : ¬ k = 10 := by omega
  clear bx sx rh hk
  generalize o.c k = C at *
  go_enter Tryz.func6, Tryz.ntmps6
  go_upto_region 1 with fail
  rw [← hwx]
  clear hwx
  go_wp2
  go_ret
  exact ⟨rfl, _, BX.out, SX.out, rfl⟩
end Go.Proofs.YtdnocpngdepbgaaGreatDoor

namespace Go.Proofs.YtdnocpngdepbgaaGreatDoor
open Go.RowKit
set_option linter.unusedVariables false
set_option linter.unusedSimpArgs false

/-- An Op of nothing. -/
def oz : OpV := ⟨0, false, 0, 0, 0, ⟨#[]⟩, none, 0, 0, z32, none, 0, 0, 0⟩
def OpV.g (o : OpV) : Array Value := gC (.int .u8 o.b) (.bool o.v) (.int .u64 (o.u : Int)) (.int .i64 o.n) (.float .f64 o.f) (.string o.s) (.slice o.ra o.rn o.rc) o.h (.slice o.la o.ln o.lc)
/-- What is written of it. -/
def enc (kd : Int) (o : OpV) (R : List UInt8) (D : List (List UInt8)) : List UInt8 :=
  if kd = 0 then [UInt8.ofNat o.b.toNat] else if kd = 1 then [if o.v = true then 1 else 0] else if kd = 2 then K.b4 (o.u % 4294967296) else if kd = 3 then K.vint o.u else if kd = 4 then K.vint (K.zig o.n)
  else if kd = 5 then K.b8 o.f else if kd = 6 then K.vint o.s.size ++ o.s.data.toList else if kd = 7 then K.vint o.rn ++ R else if kd = 8 then o.h else if kd = 9 then hw D else []
/-- What was read, as it lies in memory. -/
structure GdO (W : World) (z : Nat) (kd : Int) (o : OpV) (R : List UInt8) (D : List (List UInt8)) : Prop where
  hh : o.h.length = 32
  u : o.u < 18446744073709551616
  n0 : -9223372036854775808 ≤ o.n
  n1 : o.n < 9223372036854775808
  f : o.f < 18446744073709551616
  b0 : 0 ≤ o.b
  b1 : o.b ≤ 255
  r : R.length = o.rn
  rb : K.Byt W o.ra R
  rz : ∀ ad, o.ra = some ad → z ≤ ad.block ∧ ad.block < W.heap.size
  d32 : All32 D
  d : D.length = o.ln
  dl : Hl W o.la D
  dz : ∀ ad, o.la = some ad → z ≤ ad.block ∧ ad.block < W.heap.size
  dr : SRise D
  fin : kd = 5 → K.finB o.f = true
  val : kd = 6 → Lib.validD o.s.data.toList = true
  e : o.e = 0
  rle : o.rn ≤ 140737488351232
  lle : o.ln ≤ 4398046510976
  sle : o.s.size ≤ 140737488351232
theorem srise_nil : SRise [] := fun i j x y h => by simp at h
/-- .. with no lists. -/
theorem gd_none {W : World} {z : Nat} {kd : Int} {o : OpV} (hra : o.ra = none) (hrn : o.rn = 0) (hla : o.la = none) (hln : o.ln = 0) (he : o.e = 0) (hh : o.h.length = 32) (u : o.u < 18446744073709551616) (n0 : -9223372036854775808 ≤ o.n) (n1 : o.n < 9223372036854775808) (f : o.f < 18446744073709551616) (b0 : 0 ≤ o.b) (b1 : o.b ≤ 255)
    (fin : kd = 5 → K.finB o.f = true) (val : kd = 6 → Lib.validD o.s.data.toList = true) (sle : o.s.size ≤ 140737488351232) : GdO W z kd o [] [] :=
  ⟨hh, u, n0, n1, f, b0, b1, by rw [hrn]; rfl, .inl rfl, fun ad e => (by rw [hra] at e; cases e), fun x h => (by cases h), by rw [hln]; rfl, .inl rfl, fun ad e => (by rw [hla] at e; cases e), srise_nil, fin, val, he, by omega, by omega, sle⟩
/-- How a read goes on. -/
def Rel (L : List UInt8) (s s' : K.St) (E : List UInt8) : Prop := (s.bad = 0 ∧ s'.bad = 0 ∧ s'.k = s.k + E.length ∧ K.cut L s.k E.length = E ∧ s'.k ≤ L.length) ∨ (s'.bad ≠ 0 ∧ E.length ≤ 40)
variable {r cap : Nat} {a : Option Addr} {L : List UInt8} {s : K.St}
theorem rdd_on {w w' : World} {T : TypeId} {s' : K.St} (h0 : K.RD w T r a cap L s) (h : Rdd w (fun wx w1 => K.On wx w1 T r a cap L s') w') : K.On w w' T r a cap L s' := by
  obtain ⟨wx, w1, b, hz, on, f⟩ := h
  exact on_below h0 ⟨on.1, (K.Fr.of_below b).trans on.2⟩ (f.below (B := w.heap.size) (by omega)) (Nat.le_refl _)
theorem byt_fx {z : Nat} {w w' : World} {a : Option Addr} {R : List UInt8} (h : Fx z w w') (hb : K.Byt w a R) (hne : ∀ ad, a = some ad → z + 3 ≤ ad.block) : K.Byt w' a R := by
  rcases hb with rfl | ⟨b, off, rfl, hc⟩
  · exact .inl rfl
  · have := hne _ rfl
    simp only at this
    exact .inr ⟨b, off, rfl, fun j hj => (World.cell?_of_block (h.block b (by omega) (by omega))).trans (hc j hj)⟩
theorem hs_fx {z q : Nat} {w w' : World} {D : List (List UInt8)} (h : Fx z w w') (hb : Hs w q 0 D) (hne : z + 3 ≤ q) : Hs w' q 0 D := fun i x e j v hv => (World.cell?_of_block (h.block q (by omega) (by omega))).trans (hb i x e j v hv)
/-- What a read of either kind answers. -/
def RdOne (w : World) (r : Nat) (a : Option Addr) (cap : Nat) (L : List UInt8) (s : K.St) (kd : Int) (x : Ending) (w' : World) : Prop :=
  ∃ (o : OpV) (R : List UInt8) (D : List (List UInt8)) (s' : K.St), x = .returned (.agg o.g) ∧ K.On w w' 108 r a cap L s' ∧ GdO w' w.heap.size kd o R D ∧ Rel L s s' (enc kd o R D)
theorem fits_cnt {most : Int} (h : K.Fits L s.k most 1) : K.rCnt L most.toNat s = (some ((K.num L s.k).v, (K.num L s.k).size), s) := by
  obtain ⟨h1, h2, h3, h4⟩ := h
  unfold K.rCnt
  rw [if_pos h1, if_pos (by omega), if_pos (by omega)]
theorem keep_on' {w wx w1 : World} {T : TypeId} {s' : K.St} (h0 : K.RD w T r a cap L s) (on : K.On wx w1 T r a cap L s') : Keeps w.heap.size wx w1 := Keeps.of_fr on.2 h0.lt
theorem cut_1 (L : List UInt8) (k : Nat) (h : k + 1 ≤ L.length) : K.cut L k 1 = [L.getD k 0] := by
  unfold K.cut
  rw [K.drop_cons L k (by omega)]
  rfl
theorem rd0 (u m e : Int) (w : World) (h : K.RD w 108 r a cap L s) : Calls Tryz.prog 21 #[.pointer (some ⟨r, 0, none⟩), .agg #[.int .i64 0, .int .u64 u, .int .i64 m, .int .i64 e]] w (RdOne w r a cap L s 0) := by
  refine (read_0 (some ⟨r, 0, none⟩) u m e (K.rByte L s).1 w (fun wx w1 => K.On wx w1 108 r a cap L (K.rByte L s).2) (fun wx bx _ => (K.byte_any wx (RD_b h bx)).mono fun x w1 k => ⟨k.1, k.2, keep_on' h k.2⟩)).mono ?_
  rintro x w' ⟨rfl, hd⟩
  have on := rdd_on h hd
  have hlo := K.at8_lo L s.k
  have hhi := K.at8_hi L s.k
  refine ⟨{ oz with b := (K.rByte L s).1 }, [], [], _, rfl, on, ?_, ?_⟩
  · refine gd_none rfl rfl rfl rfl rfl z32_len (by show (0 : Nat) < _; decide) (by show _ ≤ (0 : Int); decide) (by show (0 : Int) < _; decide) (by show (0 : Nat) < _; decide) ?_ ?_ (fun h => by omega) (fun h => by omega) (by show (0 : Nat) ≤ _; omega)
    · show 0 ≤ (K.rByte L s).1
      unfold K.rByte; repeat' split
      all_goals (simp only []; omega)
    · show (K.rByte L s).1 ≤ 255
      unfold K.rByte; repeat' split
      all_goals (simp only []; omega)
  · unfold enc Rel
    rw [if_pos rfl]
    show (s.bad = 0 ∧ (K.rByte L s).2.bad = 0 ∧ (K.rByte L s).2.k = s.k + 1 ∧ K.cut L s.k 1 = [UInt8.ofNat (K.rByte L s).1.toNat] ∧ (K.rByte L s).2.k ≤ L.length) ∨ ((K.rByte L s).2.bad ≠ 0 ∧ 1 ≤ 40)
    unfold K.rByte
    split
    · rename_i hb
      split
      · rename_i hk
        refine .inl ⟨hb, hb, rfl, ?_, hk⟩
        rw [cut_1 L s.k hk]
        unfold K.at8
        simp
      · exact .inr ⟨by simp, by decide⟩
    · rename_i hb
      exact .inr ⟨hb, by decide⟩
theorem rd1 (u m e : Int) (w : World) (h : K.RD w 108 r a cap L s) : Calls Tryz.prog 21 #[.pointer (some ⟨r, 0, none⟩), .agg #[.int .i64 1, .int .u64 u, .int .i64 m, .int .i64 e]] w (RdOne w r a cap L s 1) := by
  refine (read_1 (some ⟨r, 0, none⟩) u m e (K.rBool L s).1 w (fun wx w1 => K.On wx w1 108 r a cap L (K.rBool L s).2) (fun wx bx _ => (K.bool_any wx (RD_b h bx)).mono fun x w1 k => ⟨k.1, k.2, keep_on' h k.2⟩)).mono ?_
  rintro x w' ⟨rfl, hd⟩
  have on := rdd_on h hd
  refine ⟨{ oz with v := (K.rBool L s).1 }, [], [], _, rfl, on, gd_none rfl rfl rfl rfl rfl z32_len (by show (0 : Nat) < _; decide) (by show _ ≤ (0 : Int); decide) (by show (0 : Int) < _; decide) (by show (0 : Nat) < _; decide) (by show (0 : Int) ≤ 0; decide) (by show (0 : Int) ≤ _; decide) (fun h => by omega) (fun h => by omega) (by show (0 : Nat) ≤ _; omega), ?_⟩
  unfold enc Rel
  rw [if_neg (by decide), if_pos rfl]
  show (s.bad = 0 ∧ (K.rBool L s).2.bad = 0 ∧ (K.rBool L s).2.k = s.k + 1 ∧ K.cut L s.k 1 = [if (K.rBool L s).1 = true then 1 else 0] ∧ (K.rBool L s).2.k ≤ L.length) ∨ ((K.rBool L s).2.bad ≠ 0 ∧ 1 ≤ 40)
  unfold K.rBool
  split
  · rename_i hb
    split
    · rename_i hk
      split
      · rename_i h1
        refine .inl ⟨hb, hb, rfl, ?_, hk⟩
        rw [cut_1 L s.k hk]
        unfold K.at8 at h1 ⊢
        generalize L.getD s.k 0 = x at *
        have : x.toNat = 0 ∨ x.toNat = 1 := by omega
        rcases this with h0 | h0
        · have : x = 0 := UInt8.toNat_inj.1 h0
          subst this
          rfl
        · have : x = 1 := UInt8.toNat_inj.1 h0
          subst this
          rfl
      · exact .inr ⟨by simp, by decide⟩
    · exact .inr ⟨by simp, by decide⟩
  · rename_i hb
    exact .inr ⟨hb, by decide⟩
theorem b4_len (n : Nat) : (K.b4 n).length = 4 := rfl
theorem b8_len (n : Nat) : (K.b8 n).length = 8 := rfl
theorem rd2 (u m e : Int) (w : World) (h : K.RD w 108 r a cap L s) : Calls Tryz.prog 21 #[.pointer (some ⟨r, 0, none⟩), .agg #[.int .i64 2, .int .u64 u, .int .i64 m, .int .i64 e]] w (RdOne w r a cap L s 2) := by
  have hlt : (rFix L s).1 < 4294967296 := by
    unfold rFix
    have := K.be_lt L s.k 4
    have e4 : (256 : Nat) ^ 4 = 4294967296 := by decide
    rw [e4] at this
    repeat' split
    all_goals (simp only []; omega)
  refine (read_2 (some ⟨r, 0, none⟩) u m e ((rFix L s).1 : Int) (by omega) (by omega) w (fun wx w1 => K.On wx w1 108 r a cap L (rFix L s).2) (fun wx bx _ => (rfix_any wx (RD_b h bx)).mono fun x w1 k => ⟨k.1, k.2, keep_on' h k.2⟩)).mono ?_
  rintro x w' ⟨rfl, hd⟩
  have on := rdd_on h hd
  refine ⟨{ oz with u := (rFix L s).1 }, [], [], _, rfl, on, gd_none rfl rfl rfl rfl rfl z32_len (by show (rFix L s).1 < _; omega) (by show _ ≤ (0 : Int); decide) (by show (0 : Int) < _; decide) (by show (0 : Nat) < _; decide) (by show (0 : Int) ≤ 0; decide) (by show (0 : Int) ≤ _; decide) (fun h => by omega) (fun h => by omega) (by show (0 : Nat) ≤ _; omega), ?_⟩
  unfold enc Rel
  rw [if_neg (by decide), if_neg (by decide), if_pos rfl, b4_len]
  show (s.bad = 0 ∧ (rFix L s).2.bad = 0 ∧ (rFix L s).2.k = s.k + 4 ∧ K.cut L s.k 4 = K.b4 ((rFix L s).1 % 4294967296) ∧ (rFix L s).2.k ≤ L.length) ∨ ((rFix L s).2.bad ≠ 0 ∧ 4 ≤ 40)
  rw [Nat.mod_eq_of_lt hlt]
  clear hlt on hd
  unfold rFix
  split
  · rename_i hb
    split
    · rename_i hk
      exact .inl ⟨hb, hb, rfl, (K.be_cut4 L s.k hk).symm, hk⟩
    · exact .inr ⟨by simp, by decide⟩
  · rename_i hb
    exact .inr ⟨hb, by decide⟩
theorem vint0 : K.vint 0 = [0] := by rw [K.vint_lt (by omega)]; rfl
theorem uint_rel (most : Nat) (h : s.k ≤ L.length) : Rel L s (K.rUint L most s).2 (K.vint (K.rUint L most s).1) := by
  unfold Rel K.rUint
  have hok := K.num_ok L s.k h
  split
  · rename_i hb
    split
    · rename_i hw
      obtain ⟨q1, q2⟩ := K.num_canon L s.k hw
      obtain ⟨q3, q4, q5⟩ := hok.1 hw
      split
      · refine .inl ⟨hb, hb, ?_, ?_, q4⟩
        · simp only []; rw [← q1]
        · simp only []; rw [← q1]; exact q2
      · refine .inr ⟨by simp, ?_⟩
        simp only []; rw [vint0]; decide
    · rename_i hw
      refine .inr ⟨hw, ?_⟩
      simp only []; rw [vint0]; decide
  · rename_i hb
    refine .inr ⟨hb, ?_⟩
    simp only []; rw [vint0]; decide
theorem rd3 (u : Nat) (hu : u < 18446744073709551616) (m e : Int) (w : World) (h : K.RD w 108 r a cap L s) : Calls Tryz.prog 21 #[.pointer (some ⟨r, 0, none⟩), .agg #[.int .i64 3, .int .u64 (u : Int), .int .i64 m, .int .i64 e]] w (RdOne w r a cap L s 3) := by
  refine (read_3 (some ⟨r, 0, none⟩) u m e ((K.rUint L u s).1 : Int) w (fun wx w1 => K.On wx w1 108 r a cap L (K.rUint L u s).2) (fun wx bx _ => (K.uint_any u hu wx (RD_b h bx)).mono fun x w1 k => ⟨k.1, k.2, keep_on' h k.2⟩)).mono ?_
  rintro x w' ⟨rfl, hd⟩
  have on := rdd_on h hd
  refine ⟨{ oz with u := (K.rUint L u s).1 }, [], [], _, rfl, on, gd_none rfl rfl rfl rfl rfl z32_len (K.rUint_lt L u s h.at_le) (by show _ ≤ (0 : Int); decide) (by show (0 : Int) < _; decide) (by show (0 : Nat) < _; decide) (by show (0 : Int) ≤ 0; decide) (by show (0 : Int) ≤ _; decide) (fun h => by omega) (fun h => by omega) (by show (0 : Nat) ≤ _; omega), ?_⟩
  unfold enc
  rw [if_neg (by decide), if_neg (by decide), if_neg (by decide), if_pos rfl]
  exact uint_rel u h.at_le
theorem rd4 (u m e : Int) (w : World) (h : K.RD w 108 r a cap L s) : Calls Tryz.prog 21 #[.pointer (some ⟨r, 0, none⟩), .agg #[.int .i64 4, .int .u64 u, .int .i64 m, .int .i64 e]] w (RdOne w r a cap L s 4) := by
  refine (read_4 (some ⟨r, 0, none⟩) u m e (K.rInt L s).1 w (fun wx w1 => K.On wx w1 108 r a cap L (K.rInt L s).2) (fun wx bx _ => (K.int_any wx (RD_b h bx)).mono fun x w1 k => ⟨k.1, k.2, keep_on' h k.2⟩)).mono ?_
  rintro x w' ⟨rfl, hd⟩
  have on := rdd_on h hd
  have hb := K.unzig_lo _ (K.rUint_lt L 18446744073709551615 s h.at_le)
  refine ⟨{ oz with n := (K.rInt L s).1 }, [], [], _, rfl, on, gd_none rfl rfl rfl rfl rfl z32_len (by show (0 : Nat) < _; decide) hb.1 hb.2 (by show (0 : Nat) < _; decide) (by show (0 : Int) ≤ 0; decide) (by show (0 : Int) ≤ _; decide) (fun h => by omega) (fun h => by omega) (by show (0 : Nat) ≤ _; omega), ?_⟩
  unfold enc
  rw [if_neg (by decide), if_neg (by decide), if_neg (by decide), if_neg (by decide), if_pos rfl]
  show Rel L s _ (K.vint (K.zig (K.unzig _)))
  rw [K.zig_unzig]
  exact uint_rel _ h.at_le
theorem finB0 : K.finB 0 = true := by decide +kernel
theorem rd5 (u m e : Int) (w : World) (h : K.RD w 108 r a cap L s) : Calls Tryz.prog 21 #[.pointer (some ⟨r, 0, none⟩), .agg #[.int .i64 5, .int .u64 u, .int .i64 m, .int .i64 e]] w (RdOne w r a cap L s 5) := by
  refine (read_5 (some ⟨r, 0, none⟩) u m e (K.rFloat L s).1 w (fun wx w1 => K.On wx w1 108 r a cap L (K.rFloat L s).2) (fun wx bx _ => (K.float_any wx (RD_b h bx)).mono fun x w1 k => ⟨k.1, k.2, keep_on' h k.2⟩)).mono ?_
  rintro x w' ⟨rfl, hd⟩
  have on := rdd_on h hd
  have hlt : (K.rFloat L s).1 < 18446744073709551616 := by
    have := K.be_lt L s.k 8
    have e4 : (256 : Nat) ^ 8 = 18446744073709551616 := by decide
    rw [e4] at this
    unfold K.rFloat
    repeat' split
    all_goals (simp only []; omega)
  have hfin : K.finB (K.rFloat L s).1 = true := by
    unfold K.rFloat
    repeat' split
    all_goals first | assumption | exact finB0
  refine ⟨{ oz with f := (K.rFloat L s).1 }, [], [], _, rfl, on, gd_none rfl rfl rfl rfl rfl z32_len (by show (0 : Nat) < _; decide) (by show _ ≤ (0 : Int); decide) (by show (0 : Int) < _; decide) hlt (by show (0 : Int) ≤ 0; decide) (by show (0 : Int) ≤ _; decide) (fun _ => hfin) (fun h => by omega) (by show (0 : Nat) ≤ _; omega), ?_⟩
  unfold enc Rel
  rw [if_neg (by decide), if_neg (by decide), if_neg (by decide), if_neg (by decide), if_neg (by decide), if_pos rfl, b8_len]
  show (s.bad = 0 ∧ (K.rFloat L s).2.bad = 0 ∧ (K.rFloat L s).2.k = s.k + 8 ∧ K.cut L s.k 8 = K.b8 (K.rFloat L s).1 ∧ (K.rFloat L s).2.k ≤ L.length) ∨ ((K.rFloat L s).2.bad ≠ 0 ∧ 8 ≤ 40)
  clear hlt hfin on hd
  unfold K.rFloat
  split
  · rename_i hb
    split
    · rename_i hk
      split
      · exact .inl ⟨hb, hb, rfl, (K.be_cut8 L s.k hk).symm, hk⟩
      · exact .inr ⟨by simp, by decide⟩
    · exact .inr ⟨by simp, by decide⟩
  · rename_i hb
    exact .inr ⟨hb, by decide⟩
theorem rd8 (u m e : Int) (w : World) (h : K.RD w 108 r a cap L s) : Calls Tryz.prog 21 #[.pointer (some ⟨r, 0, none⟩), .agg #[.int .i64 8, .int .u64 u, .int .i64 m, .int .i64 e]] w (RdOne w r a cap L s 8) := by
  have hl : (rHash L s).1.length = 32 := by
    unfold rHash
    split
    · split
      · simp; omega
      · rfl
    · rfl
  refine (read_8 (some ⟨r, 0, none⟩) u m e (rHash L s).1 hl w (fun wx w1 => K.On wx w1 108 r a cap L (rHash L s).2) (fun wx bx _ => (rhash_any wx (RD_b h bx)).mono fun x w1 k => ⟨k.1, k.2, keep_on' h k.2⟩)).mono ?_
  rintro x w' ⟨rfl, hd⟩
  have on := rdd_on h hd
  refine ⟨{ oz with h := (rHash L s).1 }, [], [], _, rfl, on, gd_none rfl rfl rfl rfl rfl hl (by show (0 : Nat) < _; decide) (by show _ ≤ (0 : Int); decide) (by show (0 : Int) < _; decide) (by show (0 : Nat) < _; decide) (by show (0 : Int) ≤ 0; decide) (by show (0 : Int) ≤ _; decide) (fun h => by omega) (fun h => by omega) (by show (0 : Nat) ≤ _; omega), ?_⟩
  unfold enc Rel
  rw [if_neg (by decide), if_neg (by decide), if_neg (by decide), if_neg (by decide), if_neg (by decide), if_neg (by decide), if_neg (by decide), if_neg (by decide), if_pos rfl]
  show (s.bad = 0 ∧ (rHash L s).2.bad = 0 ∧ (rHash L s).2.k = s.k + (rHash L s).1.length ∧ K.cut L s.k (rHash L s).1.length = (rHash L s).1 ∧ (rHash L s).2.k ≤ L.length) ∨ ((rHash L s).2.bad ≠ 0 ∧ (rHash L s).1.length ≤ 40)
  rw [hl]
  clear hl on hd
  unfold rHash
  split
  · rename_i hb
    split
    · rename_i hk
      exact .inl ⟨hb, hb, rfl, rfl, hk⟩
    · exact .inr ⟨by simp, by decide⟩
  · rename_i hb
    exact .inr ⟨hb, by decide⟩
theorem rdno (k u m e : Int) (hk : k < 0 ∨ 10 < k) (w : World) (h : K.RD w 108 r a cap L s) : Calls Tryz.prog 21 #[.pointer (some ⟨r, 0, none⟩), .agg #[.int .i64 k, .int .u64 u, .int .i64 m, .int .i64 e]] w (RdOne w r a cap L s k) := by
  refine (read_no (some ⟨r, 0, none⟩) k u m e hk w).mono ?_
  rintro x w' ⟨rfl, wx, w1, q1, q2, q3, q4⟩
  have on : K.On w w' 108 r a cap L s := rdd_on h ⟨wx, w1, q1, q2, by rw [q3]; exact (RD_b h q1).on, q4⟩
  refine ⟨oz, [], [], _, rfl, on, gd_none rfl rfl rfl rfl rfl z32_len (by show (0 : Nat) < _; decide) (by show _ ≤ (0 : Int); decide) (by show (0 : Int) < _; decide) (by show (0 : Nat) < _; decide) (by show (0 : Int) ≤ 0; decide) (by show (0 : Int) ≤ _; decide) (fun h => by omega) (fun h => by omega) (by show (0 : Nat) ≤ _; omega), ?_⟩
  unfold enc Rel
  rw [if_neg (by omega), if_neg (by omega), if_neg (by omega), if_neg (by omega), if_neg (by omega), if_neg (by omega), if_neg (by omega), if_neg (by omega), if_neg (by omega), if_neg (by omega)]
  by_cases hb : s.bad = 0
  · exact .inl ⟨hb, hb, rfl, by simp [K.cut], h.at_le⟩
  · exact .inr ⟨hb, by simp⟩
end Go.Proofs.YtdnocpngdepbgaaGreatDoor

