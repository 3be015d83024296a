import Derived.Test.YtdgbjmhmacgaaaaDoorCx
import Derived.Deep.RegionWith
namespace Go.Proofs.YtdgbjmhmacgaaaaDoor
open Go.RowKit
set_option linter.unusedVariables false
set_option linter.unusedSimpArgs false

theorem zero_one : cmpV 0 0 0 ⟨#[]⟩ 1 0 0 ⟨#[]⟩ = -1 := by decide +kernel
set_option maxRecDepth 100000 in
set_option maxHeartbeats 4000000 in
theorem compares_all (k n : Int) (f : Nat) (s : ByteArray) (k' n' : Int) (f' : Nat) (s' : ByteArray) (w : World) (hk : 0 ≤ k) (hf : f < 18446744073709551616) (hs : s.size ≤ 9223372036854775807) (hk' : 0 ≤ k') (hf' : f' < 18446744073709551616) (hs' : s'.size ≤ 9223372036854775807) (hT : Tabs w) :
    Calls Tryd.prog 4 #[.agg #[.int .u8 k, .int .i64 n, .float .f64 f, .string s], .agg #[.int .u8 k', .int .i64 n', .float .f64 f', .string s']] w fun e w' => e = .returned (.bool true) ∧ Below w.heap.size w w' := by
  have bx := bel_box2 w #[.int .u8 k, .int .i64 n, .float .f64 f, .string s] #[.int .u8 k', .int .i64 n', .float .f64 f', .string s'] 25 25
  have zW : w.heap.size + 1 < ((w.alloc (.cells #[.int .u8 k, .int .i64 n, .float .f64 f, .string s] 25)).alloc (.cells #[.int .u8 k', .int .i64 n', .float .f64 f', .string s'] 25)).heap.size := by simp
  have hB := boxes_new w k n f s k' n' f' s'
  have hT0 := hT.below bx
  go_enter Tryd.func4, Tryd.ntmps4
  go_upto_region 1 with fail
  generalize ((w.alloc (.cells #[.int .u8 k, .int .i64 n, .float .f64 f, .string s] 25)).alloc (.cells #[.int .u8 k', .int .i64 n', .float .f64 f', .string s'] 25)) = W at *
  obtain ⟨a0, a1, a2, a3, e0, e1, e2, e3⟩ := hB.all
  have HA : Hid (∀ wx, Below W.heap.size W wx → Calls Tryd.prog 13 #[.agg #[.int .u8 k, .int .i64 n, .float .f64 f, .string s], .agg #[.int .u8 k', .int .i64 n', .float .f64 f', .string s']] wx fun e w' => e = .returned (.int .i64 (cmpV k n f s k' n' f' s')) ∧ Below W.heap.size W w') := fun wx hx => (compare_any k n f s k' n' f' s' wx hk hf hs hk' hf' hs' (hT0.below hx)).mono fun e w' h => ⟨h.1, hx.trans (h.2.mono hx.size)⟩
  have HB : Hid (∀ wx, Below W.heap.size W wx → Calls Tryd.prog 14 #[.agg #[.int .u8 k, .int .i64 n, .float .f64 f, .string s], .agg #[.int .u8 k', .int .i64 n', .float .f64 f', .string s']] wx fun e w' => e = .returned (.int .i64 (cmpV k n f s k' n' f' s')) ∧ Below W.heap.size W w') := fun wx hx => (rcompare_any k n f s k' n' f' s' wx hk hf hs hk' hf' hs').mono fun e w' h => ⟨by rw [h.1, cmp_ref _ _ _ _ _ _ _ _ hf hf'], hx.trans (h.2.mono hx.size)⟩
  have HC : Hid (∀ wx, Below W.heap.size W wx → Calls Tryd.prog 13 #[.agg #[.int .u8 0, .int .i64 0, .float .f64 0, .string ⟨#[]⟩], .agg #[.int .u8 1, .int .i64 0, .float .f64 0, .string ⟨#[]⟩]] wx fun e w' => e = .returned (.int .i64 (-1)) ∧ Below W.heap.size W w') := fun wx hx => (compare_any 0 0 0 ⟨#[]⟩ 1 0 0 ⟨#[]⟩ wx (by decide) (by decide) (by decide) (by decide) (by decide) (by decide) (hT0.below hx)).mono fun e w' h => ⟨by rw [h.1, zero_one], hx.trans (h.2.mono hx.size)⟩
  have HS : Hid (∀ wx, Below W.heap.size W wx → wx.cell? ⟨w.heap.size, 0, none⟩ = some (.int .u8 k) ∧ wx.cell? ⟨w.heap.size, 1, none⟩ = some (.int .i64 n) ∧ wx.cell? ⟨w.heap.size, 2, none⟩ = some (.float .f64 f) ∧ wx.cell? ⟨w.heap.size, 3, none⟩ = some (.string s) ∧ wx.cell? ⟨w.heap.size + 1, 0, none⟩ = some (.int .u8 k') ∧ wx.cell? ⟨w.heap.size + 1, 1, none⟩ = some (.int .i64 n') ∧ wx.cell? ⟨w.heap.size + 1, 2, none⟩ = some (.float .f64 f') ∧ wx.cell? ⟨w.heap.size + 1, 3, none⟩ = some (.string s')) := fun wx hx => (hB.below zW hx).all
  generalize cmpV k n f s k' n' f' s' = C at *
  clear hf hs hf' hs' hT hT0 hB
  go_region_held3 (fun w' => w'.cell? ⟨w.heap.size, 0, none⟩ = some (.int .u8 k) ∧ w'.cell? ⟨w.heap.size, 1, none⟩ = some (.int .i64 n) ∧ w'.cell? ⟨w.heap.size, 2, none⟩ = some (.float .f64 f) ∧ w'.cell? ⟨w.heap.size, 3, none⟩ = some (.string s) ∧ w'.cell? ⟨w.heap.size + 1, 0, none⟩ = some (.int .u8 k') ∧ w'.cell? ⟨w.heap.size + 1, 1, none⟩ = some (.int .i64 n') ∧ w'.cell? ⟨w.heap.size + 1, 2, none⟩ = some (.float .f64 f') ∧ w'.cell? ⟨w.heap.size + 1, 3, none⟩ = some (.string s')) (first | assumption | go_keep) (first
    | (go_at_call 14; refine (HB.out _ ?_).mono ?_; (first | exact b1 | exact below_drewN b1 _ | exact (below_drewN b1 _).drew); rintro e w2 ⟨rfl, b2⟩; have s2 := HS.out _ b2)
    | (go_at_call_of 13 s'; refine (HA.out _ ?_).mono ?_; (first | exact Below.refl _ _ | exact below_drewN (Below.refl _ _) _ | exact (below_drewN (Below.refl _ _) _).drew); rintro e w1 ⟨rfl, b1⟩; have s1 := HS.out _ b1)
    | (go_at_call 13; refine (HC.out _ ?_).mono ?_; (first | exact b2 | exact below_drewN b2 _ | exact (below_drewN b2 _).drew); rintro e w3 ⟨rfl, b3⟩; have s3 := HS.out _ b3))
  go_wp2
  go_ret
  exact ⟨rfl, bx.trans (b3.mono (by omega))⟩
end Go.Proofs.YtdgbjmhmacgaaaaDoor
