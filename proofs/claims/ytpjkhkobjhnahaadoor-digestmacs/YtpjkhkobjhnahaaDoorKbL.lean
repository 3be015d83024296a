import Derived.Test.YtpjkhkobjhnahaaDoorKb
namespace Go.Proofs.YtpjkhkobjhnahaaDoor
open Go.RowKit
set_option linter.unusedVariables false
set_option linter.unusedSimpArgs false

theorem fill_splK (x : List UInt8) (h : x.length ≤ 64) : (splice (byC z64) 0 (byC x)).toArray = bs (fill x) := fill_splice x h

set_option maxRecDepth 100000 in
set_option maxHeartbeats 2000000 in
theorem keyBlock_long (a : Option Addr) (l : List UInt8) (len cap : Nat) (w : World) (hlen : l.length = len) (hb : Byt w a l) (hba : ∀ b off, a = some ⟨b, off, none⟩ → b < w.heap.size) (hl : 64 < l.length) (hlm : l.length ≤ 576460752303423488) (hcap : l.length ≤ cap) (hK : KeysAt w) (hF : FirstAt w) :
    Calls Tryd.prog 30 #[.slice a len cap] w fun e w' => e = .returned (.agg (bs (kb l))) ∧ Below w.heap.size w w' := by
  have hkb : kb l = fill (sha l) := by unfold kb; rw [if_neg (by omega)]
  have KB : Hid (kb l = fill (sha l)) := hkb
  clear hkb
  have LT := sha_len l
  have LF := fill_len (sha l) (by omega)
  have bel : Below w.heap.size w ((w.alloc (.cells (bs z64) 54)).alloc (.cells (bs z64) 54)) := ((Below.refl _ _).alloc (Nat.le_refl _) _).alloc (by simp) _
  have g1 : ((w.alloc (.cells (bs z64) 54)).alloc (.cells (bs z64) 54)).heap[w.heap.size + 1]? = some (.cells (bs z64) 54 (0, 0)) := heap_alloc2_new _ _ _
  have g0 : ((w.alloc (.cells (bs z64) 54)).alloc (.cells (bs z64) 54)).heap[w.heap.size]? = some (.cells (bs z64) 54 (0, 0)) := heap_alloc2_old _ _ _
  have B1 := byt_below hb bel
  have K1 := keysAt_below hK bel
  have F1 := firstAt_below hF bel
  have hl2 : (64 : Int) < (len : Int) := by omega
  go_enter Tryd.func30, Tryd.ntmps30
  go_wp2_with (first | (refine wpList_alloc_row rfl 54 rfl (bs z64) (hz54 _) ?_) | fail)
  generalize ((w.alloc (.cells (bs z64) 54)).alloc (.cells (bs z64) 54)) = W0 at *
  have z0 : w.heap.size + 1 < W0.heap.size := (Array.getElem?_eq_some_iff.1 g1).1
  refine (sum_any a l len cap W0 hlen B1 (fun b off e => by have := hba b off e; omega) hlm hcap K1 F1).mono ?_
  rintro e w1 ⟨rfl, hb1⟩
  have z1 := hb1.size
  have bel1 : Below w.heap.size w w1 := bel.trans (hb1.mono (by omega))
  have g11 : w1.heap[w.heap.size + 1]? = some (.cells (bs z64) 54 (0, 0)) := by rw [hb1.block _ z0]; exact g1
  have g01 : w1.heap[w.heap.size]? = some (.cells (bs z64) 54 (0, 0)) := by rw [hb1.block _ (by omega)]; exact g0
  generalize sha l = T at *
  have i24 : Hid ((Tryd.prog.info? 24).map (·.size) = some (bs T).size) := by show _ = _; rw [bs_size, LT]; exact hs24
  have o24 : Hid ((bs z32).size = (bs T).size) := by show _ = _; rw [bs_size, bs_size, LT]; rfl
  clear bel g1 g0 B1 K1 F1 hb1
  go_wp2_with (first | (refine wpList_alloc_row rfl 24 rfl (bs z32) (hz24 _) ?_) | (refine wpList_store_row rfl 24 (.tmp 4) (.tmp 9) rfl w1.heap.size (bs T) rfl rfl 24 (bs z32) (heap_alloc_new _ _) i24.out o24.out (bs_one _) ?_; rw [World.setRow_alloc_new]) | fail)
  have be2 : Below w1.heap.size w1 (w1.alloc (.cells (bs T) 24)) := (Below.refl _ _).alloc (Nat.le_refl _) _
  have gT : (w1.alloc (.cells (bs T) 24)).heap[w1.heap.size]? = some (.cells (bs T) 24 (0, 0)) := heap_alloc_new _ _
  generalize (w1.alloc (.cells (bs T) 24)) = W1 at *
  have g12 : W1.heap[w.heap.size + 1]? = some (.cells (bs z64) 54 (0, 0)) := by rw [be2.block _ (by omega)]; exact g11
  have g02 : W1.heap[w.heap.size]? = some (.cells (bs z64) 54 (0, 0)) := by rw [be2.block _ (by omega)]; exact g01
  have bel2 : Below w.heap.size w W1 := bel1.trans (be2.mono (by omega))
  have HP : Hid (0 < (byC T).length → (some (⟨w.heap.size + 1, 0, none⟩ : Addr)) = some ⟨w.heap.size + 1, 0, none⟩ ∧ ∃ ad, (some (⟨w1.heap.size, 0, none⟩ : Addr)) = some ad ∧ ∀ j v, (byC T)[j]? = some v → W1.drew.cell? (ad.add j) = some v) := fun _ => ⟨rfl, _, rfl, fun j v hj => by
    obtain ⟨h1, rfl⟩ := byC_get _ j v hj
    rw [Addr.add_mid, Nat.zero_add]
    exact (cell_of_row W1 w1.heap.size j _ _ _ gT).trans (bs_get _ j h1)⟩
  have HN : Hid ((byC T).length = Nat.min 32 64) := by show _ = _; rw [byC_len, LT]; rfl
  have HFit : Hid (0 + (byC T).length ≤ (byC z64).length) := by show _ ≤ _; rw [byC_len, byC_len, LT]; decide
  have HB : Hid (Below (w.heap.size + 1) W1 W1.drew) := (Below.refl _ _).drew
  have SP : Hid ((splice (byC z64) 0 (byC T)).toArray = bs (fill T)) := fill_splK T (by omega)
  clear gT g11 g01 bel1 be2
  go_region_law (refine step_copy_splice rfl (.tmp 10) (.tmp 11) 26 26 rfl 5 Tryd.underlying26 hsz5 (some ⟨w.heap.size + 1, 0, none⟩) (some ⟨w1.heap.size, 0, none⟩) 64 64 32 32 rfl rfl (w.heap.size + 1) 0 (byC z64) 54 g12 (byC T) HN.out HP.out HFit.out (byC_one _) (w.heap.size + 1) W1 HB.out (Nat.le_refl _) ?_; intro w4 hg4 hb4)
  all_goals
    have hg4' := hg4.out
    rw [SP.out] at hg4'
    have g04 : w4.heap[w.heap.size]? = some (.cells (bs z64) 54 (0, 0)) := by rw [hb4.block _ (by omega)]; exact g02
    go_wp2_with (first | (refine wpList_load_arr rfl 54 (.tmp 3) rfl (w.heap.size + 1) rfl 54 (bs (fill T)) (0, 0) _ hg4' Tryd.underlying54 rfl (by rw [bs_size, LF]; exact hs54) ?_) | (refine wpList_store_row rfl 54 (.tmp 2) (.tmp 16) rfl w.heap.size (bs (fill T)) rfl rfl 54 (bs z64) g04 (by rw [bs_size, LF]; exact hs54) (by rw [bs_size, bs_size, LF]; rfl) (bs_one _) ?_))
    exact bodyPost_ret (res30 _ _ w.heap.size 54 (fill T) LF (0, 0) rfl (setRow_heap _ _ _ _ _ _ g04)) rfl ⟨by rw [KB.out], (bel2.trans (hb4.mono (by omega))).trans (below_setRow _ _ _ _ (Nat.le_refl _))⟩
end Go.Proofs.YtpjkhkobjhnahaaDoor
