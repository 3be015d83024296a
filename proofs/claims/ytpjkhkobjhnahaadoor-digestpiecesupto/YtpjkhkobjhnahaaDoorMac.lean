import Derived.Test.YtpjkhkobjhnahaaDoorPadded
namespace Go.Proofs.YtpjkhkobjhnahaaDoor
open Go.RowKit
set_option linter.unusedVariables false
set_option linter.unusedSimpArgs false

def mac (k b : List UInt8) : List UInt8 := sha (xorB (kb k) 92 ++ sha (xorB (kb k) 54 ++ b))
theorem res12 (tmps : Array Value) (w : World) (g : Nat) (t : TypeId) (l : List UInt8) (hl : l.length = 32) (fr : Nat × Nat) (hp : tmps.getD 4 undef = .pointer (some ⟨g, 0, none⟩)) (hg : w.heap[g]? = some (.cells (bs l) t fr)) :
    (results Tryd.f12 tmps).run Tryd.prog w = .ok (.agg (bs l)) w :=
  results_cell_row Tryd.results12 tmps w g t (bs l) fr _ hp hg Tryd.underlying24 rfl (by rw [bs_size, hl]; exact hs24)
theorem byt_bel {B : Nat} {w w' : World} {a : Option Addr} {l : List UInt8} (h : Byt w a l) (hb : Below B w w') (hB : ∀ b off, a = some ⟨b, off, none⟩ → b < B) : Byt w' a l := by
  rcases h with rfl | ⟨b, off, rfl, hc⟩
  · exact .inl rfl
  · exact .inr ⟨b, off, rfl, fun j hj => (hb.cell (p := ⟨b, off + j, none⟩) (hB b off rfl)).trans (hc j hj)⟩
theorem keys_bel {B : Nat} {w w' : World} (h : KeysAt w) (hb : Below B w w') (hB : 4 < B) : KeysAt w' := fun j hj => (hb.cell (p := ⟨4, j, none⟩) hB).trans (h j hj)
theorem first_bel {B : Nat} {w w' : World} (h : FirstAt w) (hb : Below B w w') (hB : 2 < B) : FirstAt w' := fun j hj => (hb.cell (p := ⟨2, j, none⟩) hB).trans (h j hj)

set_option maxRecDepth 100000 in
set_option maxHeartbeats 4000000 in
theorem mac_any (k l : List UInt8) (v1 : Value) (a : Option Addr) (len cap : Nat) (w : World) (hlen : l.length = len) (hb : Byt w a l) (hba : ∀ b off, a = some ⟨b, off, none⟩ → b < w.heap.size) (hl : l.length ≤ 288230376151711744) (hcap : l.length ≤ cap)
    (hK : KeysAt w) (hF : FirstAt w) (H30 : Hid (∀ wx, Below w.heap.size w wx → Calls Tryd.prog 30 #[v1] wx fun e w' => e = .returned (.agg (bs (kb k))) ∧ Below wx.heap.size wx w')) :
    Calls Tryd.prog 12 #[v1, .slice a len cap] w fun e w' => e = .returned (.agg (bs (mac k l))) ∧ Below w.heap.size w w' := by
  have hK4 : 4 < w.heap.size := block_lt_of_cell (hK 0 (by omega))
  have hF2 : 2 < w.heap.size := block_lt_of_cell (hF 0 (by omega))
  have LK := kb_len k
  have MM : Hid (mac k l = sha (xorB (kb k) 92 ++ sha (xorB (kb k) 54 ++ l))) := rfl
  generalize kb k = B at *
  have bl0 : Below w.heap.size w (w.alloc (.cells (bs z32) 24)) := (Below.refl _ _).alloc (Nat.le_refl _) _
  have gr0 : (w.alloc (.cells (bs z32) 24)).heap[w.heap.size]? = some (.cells (bs z32) 24 (0, 0)) := heap_alloc_new _ _
  have z0 : w.heap.size < (w.alloc (.cells (bs z32) 24)).heap.size := by simp
  go_enter Tryd.func12, Tryd.ntmps12
  go_wp2_with (first | (refine wpList_alloc_row rfl 24 rfl (bs z32) (hz24 _) ?_) | fail)
  generalize (w.alloc (.cells (bs z32) 24)) = W0 at *
  refine (H30.out W0 bl0).mono ?_
  rintro e w1 ⟨rfl, hb1⟩
  have z1 := hb1.size
  have bl1 : Below w.heap.size w (w1.alloc (.cells (bs B) 54)) := (bl0.trans (hb1.mono (by omega))).alloc (by omega) _
  have gr1 : (w1.alloc (.cells (bs B) 54)).heap[w.heap.size]? = some (.cells (bs z32) 24 (0, 0)) := by rw [Below.heap_alloc _ _ _ (by omega), hb1.block _ z0]; exact gr0
  have gB1 : (w1.alloc (.cells (bs B) 54)).heap[w1.heap.size]? = some (.cells (bs B) 54 (0, 0)) := heap_alloc_new _ _
  have zB1 : w1.heap.size < (w1.alloc (.cells (bs B) 54)).heap.size := by simp
  have i54 : Hid ((Tryd.prog.info? 54).map (·.size) = some (bs B).size) := by show _ = _; rw [bs_size, LK]; exact hs54
  have o54 : Hid ((bs z64).size = (bs B).size) := by show _ = _; rw [bs_size, bs_size, LK]; rfl
  go_wp2_with (first | (refine wpList_alloc_row rfl 54 rfl (bs z64) (hz54 _) ?_) | (refine wpList_store_row rfl 54 (.tmp 5) (.tmp 10) rfl w1.heap.size (bs B) rfl rfl 54 (bs z64) (heap_alloc_new _ _) i54.out o54.out (bs_one _) ?_; rw [World.setRow_alloc_new]) | (refine wpList_load_arr rfl 54 (.tmp 5) rfl w1.heap.size rfl 54 (bs B) (0, 0) _ gB1 Tryd.underlying54 rfl i54.out ?_) | fail)
  generalize (w1.alloc (.cells (bs B) 54)) = W1 at *
  refine (padded_any B LK 54 54 rfl W1 (keys_bel hK bl1 hK4) (first_bel hF bl1 hF2)).mono ?_
  rintro e w2 ⟨g1, rfl, hg1, hg1', r2, hb2⟩
  have z2 := hb2.size
  have bl2 : Below w.heap.size w w2 := bl1.trans (hb2.mono (by omega))
  have gr2 : w2.heap[w.heap.size]? = some (.cells (bs z32) 24 (0, 0)) := by rw [hb2.block _ (by omega)]; exact gr1
  have gB2 : w2.heap[w1.heap.size]? = some (.cells (bs B) 54 (0, 0)) := by rw [hb2.block _ (by omega)]; exact gB1
  clear gr0 gr1 gB1 hb1 hb2 bl0 bl1
  go_wp2_with fail
  refine (write_any g1 (xorB B 54) l a len cap w2 hlen r2 (byt_bel hb bl2 hba) (fun b off e => by have := hba b off e; omega) (keys_bel hK bl2 hK4) (by omega) (by rw [xorB_len]; omega) (by omega) hcap).mono ?_
  rintro e w3 ⟨rfl, r3, hbut3⟩
  have z3 := hbut3.size
  have bl3 : Below w.heap.size w w3 := bl2.trans (hbut3.below (by omega) (by omega))
  have gr3 : w3.heap[w.heap.size]? = some (.cells (bs z32) 24 (0, 0)) := by rw [hbut3.block _ (by omega) (by omega)]; exact gr2
  have gB3 : w3.heap[w1.heap.size]? = some (.cells (bs B) 54 (0, 0)) := by rw [hbut3.block _ (by omega) (by omega)]; exact gB2
  clear gr2 gB2 hbut3 r2
  go_wp2_with fail
  refine (hsum_any g1 (xorB B 54 ++ l) w3 r3 (keys_bel hK bl3 hK4) (by rw [List.length_append, xorB_len]; omega)).mono ?_
  rintro e w4 ⟨rfl, hb4⟩
  have z4 := hb4.size
  have LT := sha_len (xorB B 54 ++ l)
  generalize sha (xorB B 54 ++ l) = T at *
  have bl4 : Below w.heap.size w (w4.alloc (.cells (bs T) 24)) := (bl3.trans (hb4.mono (by omega))).alloc (by omega) _
  have gr4 : (w4.alloc (.cells (bs T) 24)).heap[w.heap.size]? = some (.cells (bs z32) 24 (0, 0)) := by rw [Below.heap_alloc _ _ _ (by omega), hb4.block _ (by omega)]; exact gr3
  have gB4 : (w4.alloc (.cells (bs T) 24)).heap[w1.heap.size]? = some (.cells (bs B) 54 (0, 0)) := by rw [Below.heap_alloc _ _ _ (by omega), hb4.block _ (by omega)]; exact gB3
  have gT4 : (w4.alloc (.cells (bs T) 24)).heap[w4.heap.size]? = some (.cells (bs T) 24 (0, 0)) := heap_alloc_new _ _
  have zT4 : w4.heap.size < (w4.alloc (.cells (bs T) 24)).heap.size := by simp
  have i24 : Hid ((Tryd.prog.info? 24).map (·.size) = some (bs T).size) := by show _ = _; rw [bs_size, LT]; exact hs24
  have o24 : Hid ((bs z32).size = (bs T).size) := by show _ = _; rw [bs_size, bs_size, LT]; rfl
  clear gr3 gB3 r3
  go_wp2_with (first | (refine wpList_alloc_row rfl 24 rfl (bs z32) (hz24 _) ?_) | (refine wpList_store_row rfl 24 (.tmp 7) (.tmp 17) rfl w4.heap.size (bs T) rfl rfl 24 (bs z32) (heap_alloc_new _ _) i24.out o24.out (bs_one _) ?_; rw [World.setRow_alloc_new]) | (refine wpList_load_arr rfl 54 (.tmp 5) rfl w1.heap.size rfl 54 (bs B) (0, 0) _ gB4 Tryd.underlying54 rfl i54.out ?_) | fail)
  generalize (w4.alloc (.cells (bs T) 24)) = W4 at *
  refine (padded_any B LK 92 92 rfl W4 (keys_bel hK bl4 hK4) (first_bel hF bl4 hF2)).mono ?_
  rintro e w5 ⟨g2, rfl, hg2, hg2', r5, hb5⟩
  have z5 := hb5.size
  have bl5 : Below w.heap.size w w5 := bl4.trans (hb5.mono (by omega))
  have gr5 : w5.heap[w.heap.size]? = some (.cells (bs z32) 24 (0, 0)) := by rw [hb5.block _ (by omega)]; exact gr4
  have gT5 : w5.heap[w4.heap.size]? = some (.cells (bs T) 24 (0, 0)) := by rw [hb5.block _ (by omega)]; exact gT4
  have byT : Byt w5 (some ⟨w4.heap.size, 0, none⟩) T := .inr ⟨_, _, rfl, fun j hj => by rw [Nat.zero_add]; exact (cell_of_row w5 _ j _ _ _ gT5).trans (bs_get _ j hj)⟩
  clear gr4 gB4 gT4 hb4 hb5 bl3 bl4 gT5
  go_wp2_with fail
  refine (write_any g2 (xorB B 92) T (some ⟨w4.heap.size, 0, none⟩) 32 32 w5 LT r5 byT (fun b off e => by cases e; omega) (keys_bel hK bl5 hK4) (by omega) (by rw [xorB_len]; omega) (by omega) (by omega)).mono ?_
  rintro e w6 ⟨rfl, r6, hbut6⟩
  have z6 := hbut6.size
  have bl6 : Below w.heap.size w w6 := bl5.trans (hbut6.below (by omega) (by omega))
  have gr6 : w6.heap[w.heap.size]? = some (.cells (bs z32) 24 (0, 0)) := by rw [hbut6.block _ (by omega) (by omega)]; exact gr5
  clear gr5 byT hbut6 r5 bl5
  go_wp2_with fail
  refine (hsum_any g2 (xorB B 92 ++ T) w6 r6 (keys_bel hK bl6 hK4) (by rw [List.length_append, xorB_len]; omega)).mono ?_
  rintro e w7 ⟨rfl, hb7⟩
  have LS := sha_len (xorB B 92 ++ T)
  generalize sha (xorB B 92 ++ T) = R at *
  have gr7 : w7.heap[w.heap.size]? = some (.cells (bs z32) 24 (0, 0)) := by rw [hb7.block _ (by omega)]; exact gr6
  have HB : Hid (Below w.heap.size w w7) := bl6.trans (hb7.mono (by omega))
  clear gr6 r6 bl6 hb7
  go_wp2_with (refine wpList_store_row rfl 24 (.tmp 4) (.tmp 24) rfl w.heap.size (bs R) rfl rfl 24 (bs z32) gr7 (by rw [bs_size, LS]; exact hs24) (by rw [bs_size, bs_size, LS]; rfl) (bs_one _) ?_)
  exact bodyPost_ret (res12 _ _ w.heap.size 24 R LS (0, 0) rfl (setRow_heap _ _ _ _ _ _ gr7)) rfl ⟨by rw [MM.out], HB.out.trans (below_setRow _ _ _ _ (Nat.le_refl _))⟩
end Go.Proofs.YtpjkhkobjhnahaaDoor
