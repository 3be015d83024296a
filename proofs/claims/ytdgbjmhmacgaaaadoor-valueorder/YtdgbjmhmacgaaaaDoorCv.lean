import Derived.Test.YtdgbjmhmacgaaaaDoorRt
import Derived.Test.YtdgbjmhmacgaaaaDoorOq
import Derived.Test.YtdgbjmhmacgaaaaDoorSm
import Derived.Deep.RegionHeld3
import Derived.Deep.Cut
namespace Go.Proofs.YtdgbjmhmacgaaaaDoor
open Go.RowKit
set_option linter.unusedVariables false
set_option linter.unusedSimpArgs false

theorem right_fin {k n : Int} {f : Nat} {s : ByteArray} (h : rightV k n f s = true) : ffin f := by
  unfold rightV at h
  split at h
  · unfold rightF finB at h
    simp at h
    unfold ffin
    omega
  · have h0 : f = 0 := by
      split at h
      · unfold rightT at h
        simp at h
        omega
      · unfold rightB at h
        split at h
        · simp at h; omega
        · split at h
          · simp at h; omega
          · split at h
            · simp at h; omega
            · split at h
              · simp at h; omega
              · split at h
                · simp at h; omega
                · cases h
    subst h0
    unfold ffin
    omega
/-- What Compare says. -/
def cmpV (k n : Int) (f : Nat) (s : ByteArray) (k' n' : Int) (f' : Nat) (s' : ByteArray) : Int :=
  if rightV k n f s = true ∧ rightV k' n' f' s' = true then or4 (cI k k') (cI n n') (cI (fkey f) (fkey f')) (cS s s') else 0
/-- Two boxes, side by side. -/
structure Boxes (w wx : World) (k n : Int) (f : Nat) (s : ByteArray) (k' n' : Int) (f' : Nat) (s' : ByteArray) : Prop where
  all : wx.cell? ⟨w.heap.size, 0, none⟩ = some (.int .u8 k) ∧ wx.cell? ⟨w.heap.size, 1, none⟩ = some (.int .i64 n) ∧ wx.cell? ⟨w.heap.size, 2, none⟩ = some (.float .f64 f) ∧ wx.cell? ⟨w.heap.size, 3, none⟩ = some (.string s) ∧ wx.cell? ⟨w.heap.size + 1, 0, none⟩ = some (.int .u8 k') ∧ wx.cell? ⟨w.heap.size + 1, 1, none⟩ = some (.int .i64 n') ∧ wx.cell? ⟨w.heap.size + 1, 2, none⟩ = some (.float .f64 f') ∧ wx.cell? ⟨w.heap.size + 1, 3, none⟩ = some (.string s')
theorem boxes_new (w : World) (k n : Int) (f : Nat) (s : ByteArray) (k' n' : Int) (f' : Nat) (s' : ByteArray) : Boxes w ((w.alloc (.cells #[.int .u8 k, .int .i64 n, .float .f64 f, .string s] 25)).alloc (.cells #[.int .u8 k', .int .i64 n', .float .f64 f', .string s'] 25)) k n f s k' n' f' s' := by
  have g0 : ((w.alloc (.cells #[.int .u8 k, .int .i64 n, .float .f64 f, .string s] 25)).alloc (.cells #[.int .u8 k', .int .i64 n', .float .f64 f', .string s'] 25)).heap[w.heap.size]? = some (.cells #[.int .u8 k, .int .i64 n, .float .f64 f, .string s] 25 (0, 0)) := by
    rw [Below.heap_alloc _ _ _ (by simp)]; exact heap_alloc_new _ _
  have g1 : ((w.alloc (.cells #[.int .u8 k, .int .i64 n, .float .f64 f, .string s] 25)).alloc (.cells #[.int .u8 k', .int .i64 n', .float .f64 f', .string s'] 25)).heap[w.heap.size + 1]? = some (.cells #[.int .u8 k', .int .i64 n', .float .f64 f', .string s'] 25 (0, 0)) := by
    have := heap_alloc_new (w.alloc (.cells #[.int .u8 k, .int .i64 n, .float .f64 f, .string s] 25)) (.cells #[.int .u8 k', .int .i64 n', .float .f64 f', .string s'] 25)
    simpa using this
  exact ⟨(cell_of_row _ _ 0 _ _ _ g0).trans rfl, (cell_of_row _ _ 1 _ _ _ g0).trans rfl, (cell_of_row _ _ 2 _ _ _ g0).trans rfl, (cell_of_row _ _ 3 _ _ _ g0).trans rfl, (cell_of_row _ _ 0 _ _ _ g1).trans rfl, (cell_of_row _ _ 1 _ _ _ g1).trans rfl, (cell_of_row _ _ 2 _ _ _ g1).trans rfl, (cell_of_row _ _ 3 _ _ _ g1).trans rfl⟩
theorem Boxes.below {w W wx : World} {k n : Int} {f : Nat} {s : ByteArray} {k' n' : Int} {f' : Nat} {s' : ByteArray} (h : Boxes w W k n f s k' n' f' s') (z : w.heap.size + 1 < W.heap.size) (hx : Below W.heap.size W wx) : Boxes w wx k n f s k' n' f' s' := by
  obtain ⟨h0, h1, h2, h3, h4, h5, h6, h7⟩ := h.all
  have z0 : w.heap.size < W.heap.size := by omega
  exact ⟨(hx.cell (p := ⟨w.heap.size, 0, none⟩) z0).trans h0, (hx.cell (p := ⟨w.heap.size, 1, none⟩) z0).trans h1, (hx.cell (p := ⟨w.heap.size, 2, none⟩) z0).trans h2, (hx.cell (p := ⟨w.heap.size, 3, none⟩) z0).trans h3, (hx.cell (p := ⟨w.heap.size + 1, 0, none⟩) z).trans h4, (hx.cell (p := ⟨w.heap.size + 1, 1, none⟩) z).trans h5, (hx.cell (p := ⟨w.heap.size + 1, 2, none⟩) z).trans h6, (hx.cell (p := ⟨w.heap.size + 1, 3, none⟩) z).trans h7⟩

set_option maxRecDepth 100000 in
set_option maxHeartbeats 4000000 in
theorem compare_any (k n : Int) (f : Nat) (s : ByteArray) (k' n' : Int) (f' : Nat) (s' : ByteArray) (w : World) (hk : 0 ≤ k) (hf : f < 18446744073709551616) (hs : s.size ≤ 9223372036854775807) (hk' : 0 ≤ k') (hf' : f' < 18446744073709551616) (hs' : s'.size ≤ 9223372036854775807) (hT : Tabs w) :
    Calls Tryd.prog 13 #[.agg #[.int .u8 k, .int .i64 n, .float .f64 f, .string s], .agg #[.int .u8 k', .int .i64 n', .float .f64 f', .string s']] w fun e w' => e = .returned (.int .i64 (cmpV k n f s k' n' f' s')) ∧ Below w.heap.size w w' := by
  have bx := bel_box2 w #[.int .u8 k, .int .i64 n, .float .f64 f, .string s] #[.int .u8 k', .int .i64 n', .float .f64 f', .string s'] 25 25
  have zW : w.heap.size + 1 < ((w.alloc (.cells #[.int .u8 k, .int .i64 n, .float .f64 f, .string s] 25)).alloc (.cells #[.int .u8 k', .int .i64 n', .float .f64 f', .string s'] 25)).heap.size := by simp
  have hB := boxes_new w k n f s k' n' f' s'
  have hT0 := hT.below bx
  have RA : Hid (∀ wx, Below ((w.alloc (.cells #[.int .u8 k, .int .i64 n, .float .f64 f, .string s] 25)).alloc (.cells #[.int .u8 k', .int .i64 n', .float .f64 f', .string s'] 25)).heap.size ((w.alloc (.cells #[.int .u8 k, .int .i64 n, .float .f64 f, .string s] 25)).alloc (.cells #[.int .u8 k', .int .i64 n', .float .f64 f', .string s'] 25)) wx → Calls Tryd.prog 26 #[.agg #[.int .u8 k, .int .i64 n, .float .f64 f, .string s]] wx fun e w' => e = .returned (.bool (rightV k n f s)) ∧ Below ((w.alloc (.cells #[.int .u8 k, .int .i64 n, .float .f64 f, .string s] 25)).alloc (.cells #[.int .u8 k', .int .i64 n', .float .f64 f', .string s'] 25)).heap.size ((w.alloc (.cells #[.int .u8 k, .int .i64 n, .float .f64 f, .string s] 25)).alloc (.cells #[.int .u8 k', .int .i64 n', .float .f64 f', .string s'] 25)) w') := fun wx hx => (right26_any k n f s wx hk hf hs (hT0.below hx)).mono fun e w' h => ⟨h.1, hx.trans (h.2.mono hx.size)⟩
  have RB : Hid (∀ wx, Below ((w.alloc (.cells #[.int .u8 k, .int .i64 n, .float .f64 f, .string s] 25)).alloc (.cells #[.int .u8 k', .int .i64 n', .float .f64 f', .string s'] 25)).heap.size ((w.alloc (.cells #[.int .u8 k, .int .i64 n, .float .f64 f, .string s] 25)).alloc (.cells #[.int .u8 k', .int .i64 n', .float .f64 f', .string s'] 25)) wx → Calls Tryd.prog 26 #[.agg #[.int .u8 k', .int .i64 n', .float .f64 f', .string s']] wx fun e w' => e = .returned (.bool (rightV k' n' f' s')) ∧ Below ((w.alloc (.cells #[.int .u8 k, .int .i64 n, .float .f64 f, .string s] 25)).alloc (.cells #[.int .u8 k', .int .i64 n', .float .f64 f', .string s'] 25)).heap.size ((w.alloc (.cells #[.int .u8 k, .int .i64 n, .float .f64 f, .string s] 25)).alloc (.cells #[.int .u8 k', .int .i64 n', .float .f64 f', .string s'] 25)) w') := fun wx hx => (right26_any k' n' f' s' wx hk' hf' hs' (hT0.below hx)).mono fun e w' h => ⟨h.1, hx.trans (h.2.mono hx.size)⟩
  have eC : Hid (cmpV k n f s k' n' f' s' = if rightV k n f s = true ∧ rightV k' n' f' s' = true then or4 (cI k k') (cI n n') (cI (fkey f) (fkey f')) (cS s s') else 0) := rfl
  have F1 : Hid (rightV k n f s = true → ffin f) := right_fin
  have F2 : Hid (rightV k' n' f' s' = true → ffin f') := right_fin
  generalize rightV k n f s = V1 at *
  generalize rightV k' n' f' s' = V2 at *
  rw [eC.out]
  clear eC hT hT0 hf hs hf' hs'
  cases V1 with
  | false =>
    rw [if_neg (by simp)]
    go_enter Tryd.func13, Tryd.ntmps13
    go_wp2_with fail
    refine (RA.out _ (Below.refl _ _)).mono ?_
    rintro e w1 ⟨rfl, b1⟩
    clear RA RB F1 F2
    go_wp2
    go_ret
    exact ⟨rfl, bx.trans (b1.mono (by simp; omega))⟩
  | true =>
    cases V2 with
    | false =>
      rw [if_neg (by simp)]
      go_enter Tryd.func13, Tryd.ntmps13
      go_wp2_with fail
      refine (RA.out _ (Below.refl _ _)).mono ?_
      rintro e w1 ⟨rfl, b1⟩
      obtain ⟨a0, a1, a2, a3, e0, e1, e2, e3⟩ := (hB.below zW b1).all
      go_wp2_with fail
      refine (RB.out _ b1).mono ?_
      rintro e w2 ⟨rfl, b2⟩
      clear RA RB F1 F2
      go_wp2
      go_ret
      exact ⟨rfl, bx.trans (b2.mono (by simp; omega))⟩
    | true =>
      rw [if_pos (by simp)]
      have ff := F1.out rfl
      have ff' := F2.out rfl
      clear F1 F2
      go_enter Tryd.func13, Tryd.ntmps13
      go_wp2_with fail
      refine (RA.out _ (Below.refl _ _)).mono ?_
      rintro e w1 ⟨rfl, b1⟩
      obtain ⟨a0, a1, a2, a3, e0, e1, e2, e3⟩ := (hB.below zW b1).all
      go_wp2_with fail
      refine (RB.out _ b1).mono ?_
      rintro e w2 ⟨rfl, b2⟩
      have sB := (hB.below zW b2)
      have bw2 : Below w.heap.size w w2 := bx.trans (b2.mono (by simp; omega))
      have z2 : w.heap.size + 1 < w2.heap.size := by have := b2.size; omega
      clear RA RB a0 a1 a2 a3 e0 e1 e2 e3 b1 b2 hB bx zW
      go_upto_region 3 with fail
      obtain ⟨a0, a1, a2, a3, e0, e1, e2, e3⟩ := sB.all
      have C1 : Hid (∀ wx, Calls Tryd.prog 29 #[.int .u8 k, .int .u8 k'] wx fun e w' => e = .returned (.int .i64 (cI k k')) ∧ w' = wx) := fun wx => cmp29 k k' wx
      have C2 : Hid (∀ wx, Calls Tryd.prog 30 #[.int .i64 n, .int .i64 n'] wx fun e w' => e = .returned (.int .i64 (cI n n')) ∧ w' = wx) := fun wx => cmp30 n n' wx
      have C3 : Hid (∀ wx, Calls Tryd.prog 31 #[.float .f64 f, .float .f64 f'] wx fun e w' => e = .returned (.int .i64 (cI (fkey f) (fkey f'))) ∧ w' = wx) := fun wx => cmp31 f f' wx ff ff'
      have C4 : Hid (∀ wx, Calls Tryd.prog 32 #[.string s, .string s'] wx fun e w' => e = .returned (.int .i64 (cS s s')) ∧ w' = wx) := fun wx => cmp32 s s' wx
      generalize hx1 : cI k k' = x1 at *
      have X1 : Hid (cI k k' = x1) := hx1
      clear hx1
      generalize hx2 : cI n n' = x2 at *
      have X2 : Hid (cI n n' = x2) := hx2
      clear hx2
      generalize hx3 : cI (fkey f) (fkey f') = x3 at *
      have X3 : Hid (cI (fkey f) (fkey f') = x3) := hx3
      clear hx3
      generalize hx4 : cS s s' = x4 at *
      have X4 : Hid (cS s s' = x4) := hx4
      clear hx4
      clear ff ff'
      go_region_held3 (fun w' => w'.cell? ⟨w.heap.size, 0, none⟩ = some (.int .u8 k) ∧ w'.cell? ⟨w.heap.size, 1, none⟩ = some (.int .i64 n) ∧ w'.cell? ⟨w.heap.size, 2, none⟩ = some (.float .f64 f) ∧ w'.cell? ⟨w.heap.size, 3, none⟩ = some (.string s) ∧ w'.cell? ⟨w.heap.size + 1, 0, none⟩ = some (.int .u8 k') ∧ w'.cell? ⟨w.heap.size + 1, 1, none⟩ = some (.int .i64 n') ∧ w'.cell? ⟨w.heap.size + 1, 2, none⟩ = some (.float .f64 f') ∧ w'.cell? ⟨w.heap.size + 1, 3, none⟩ = some (.string s')) (first | assumption | go_keep) (first
        | (go_at_call 29; refine (C1.out _).mono ?_; rintro e _ ⟨rfl, rfl⟩)
        | (go_at_call 30; refine (C2.out _).mono ?_; rintro e _ ⟨rfl, rfl⟩)
        | (go_at_call 31; refine (C3.out _).mono ?_; rintro e _ ⟨rfl, rfl⟩)
        | (go_at_call 32; refine (C4.out _).mono ?_; rintro e _ ⟨rfl, rfl⟩)
        | (go_at_call 28; refine (or_any _ x1 x2 x3 x4 _ 3 (0, 0) (by exact heap_alloc_new _ _)).mono ?_; rintro e _ ⟨rfl, rfl⟩))
      go_wp2
      go_ret
      refine ⟨by rw [X1.out, X2.out, X3.out, X4.out]; rfl, ?_⟩
      first | exact (bw2.alloc (by omega) _).drew | exact bw2.alloc (by omega) _ | exact below_drewN (bw2.alloc (by omega) _) _ | exact ((below_drewN bw2 _).alloc (by simp; omega) _).drew
end Go.Proofs.YtdgbjmhmacgaaaaDoor
