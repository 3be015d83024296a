import Derived.Test.YtpjkhkobjhnahaaDoorRPad
import Derived.Test.YtpjkhkobjhnahaaDoorMac
namespace Go.Proofs.YtpjkhkobjhnahaaDoor
open Go.RowKit
set_option linter.unusedVariables false
set_option linter.unusedSimpArgs false

theorem res17 (tmps : Array Value) (w : World) (g : Nat) (t : TypeId) (l : List UInt8) (hl : l.length = 32) (fr : Nat × Nat) (hp : tmps.getD 4 undef = .pointer (some ⟨g, 0, none⟩)) (hg : w.heap[g]? = some (.cells (bs l) t fr)) :
    (results Tryd.f17 tmps).run Tryd.prog w = .ok (.agg (bs l)) w :=
  results_cell_row Tryd.results17 tmps w g t (bs l) fr _ hp hg Tryd.underlying24 rfl (by rw [bs_size, hl]; exact hs24)
theorem own_row {w : World} {base g : Nat} {X : List UInt8} (hX : X.length = 64) (hg : w.heap[g]? = some (.cells (bs X) 5 (0, 0))) (hb : base ≤ g) : OwnB w base (.slice (some ⟨g, 0, none⟩) 64 64) X := by
  refine ⟨by rw [byC_len]; omega, .inr ⟨g, 64, bs X, by rw [hX], hb, hg, by omega, by decide, by rw [bs_size, hX], ?_⟩⟩
  rw [List.take_of_length_le (by rw [Array.length_toList, bs_size]; omega)]
  rfl

set_option maxRecDepth 100000 in
set_option maxHeartbeats 4000000 in
theorem rmac_any (k l : List UInt8) (vk : Value) (a : Option Addr) (len cap : Nat) (w : World) (hlen : l.length = len) (hb : Byt w a l) (hl : l.length ≤ 140737488351232) (hK : RoundsAt w) (hF : RootsAt w) (h5 : 5 ≤ w.heap.size)
    (H34 : Hid (∀ (p : UInt8) (pv : Int), pv = (p.toNat : Int) → ∀ wx, Below w.heap.size w wx → Calls Tryd.prog 34 #[vk, .int .u8 pv] wx fun e w' => ∃ g, e = .returned (.slice (some ⟨g, 0, none⟩) 64 64) ∧ wx.heap.size ≤ g ∧ w'.heap[g]? = some (.cells (bs (xorB (kb k) p)) 5 (0, 0)) ∧ Below wx.heap.size wx w')) :
    Calls Tryd.prog 17 #[vk, .slice a len cap] w fun e w' => e = .returned (.agg (bs (mac k l))) ∧ Below w.heap.size w w' := by
  have LK := kb_len k
  have MM : Hid (mac k l = sha (xorB (kb k) 92 ++ sha (xorB (kb k) 54 ++ l))) := rfl
  generalize kb k = B at *
  have LX1 := xorB_len B 54
  have LX2 := xorB_len B 92
  have bl0 : Below w.heap.size w (w.alloc (.cells (bs z32) 24)) := (Below.refl _ _).alloc (Nat.le_refl _) _
  have gr0 : (w.alloc (.cells (bs z32) 24)).heap[w.heap.size]? = some (.cells (bs z32) 24 (0, 0)) := heap_alloc_new _ _
  go_enter Tryd.func17, Tryd.ntmps17
  go_wp2_with (first | (refine wpList_alloc_row rfl 24 rfl (bs z32) (hz24 _) ?_) | fail)
  generalize (w.alloc (.cells (bs z32) 24)) = W0 at *
  have z0 : w.heap.size < W0.heap.size := (Array.getElem?_eq_some_iff.1 gr0).1
  refine (H34.out 54 54 rfl W0 bl0).mono ?_
  rintro e w1 ⟨g1, rfl, hg1, hx1, hb1⟩
  have z1 := hb1.size
  have bl1 : Below w.heap.size w w1 := bl0.trans (hb1.mono (by omega))
  have gr1 : w1.heap[w.heap.size]? = some (.cells (bs z32) 24 (0, 0)) := by rw [hb1.block _ z0]; exact gr0
  have O1 : Hid (OwnB w1 (w.heap.size + 1) (.slice (some ⟨g1, 0, none⟩) 64 64) (xorB B 54)) := own_row (by omega) hx1 (by omega)
  have B1 : Hid (Byt w1 a l) := byt_below hb bl1
  have S1 : Hid ((xorB B 54).length + l.length ≤ 140737488355328) := by show _ ≤ _; omega
  have Z1 : Hid (w.heap.size + 1 ≤ w1.heap.size) := by show _ ≤ _; omega
  clear hb1 hx1 gr0 bl0
  go_wp2_with (first | (at_builtin; refine wpList_app rfl (.tmp 10) (.tmp 11) rfl (w.heap.size + 1) (.slice (some ⟨g1, 0, none⟩) 64 64) (xorB B 54) rfl O1.out a len cap l rfl hlen B1.out S1.out Z1.out ?_) | fail)
  intro v2 w2 own2 grow2
  obtain ⟨gr2, bl2⟩ := app_step (w := w) O1.out gr1 bl1 (Below.refl _ _) grow2
  have z2 : w.heap.size < w2.heap.size := (Array.getElem?_eq_some_iff.1 gr2).1
  have LM : (xorB B 54 ++ l).length = 64 + len := by rw [List.length_append]; omega
  obtain ⟨a2, c2, hv2, hc2, by2, _⟩ := own2.open
  rw [LM] at hv2
  subst hv2
  clear O1 B1 S1 Z1 grow2 gr1 bl1 own2 hc2
  go_wp2_with fail
  refine (rsum_any a2 (xorB B 54 ++ l) (64 + len) c2 w2 LM by2 (by omega) (roundsAt_below hK h5 bl2) (rootsAt_below hF h5 bl2) (by omega)).mono ?_
  rintro e w3 ⟨rfl, hb3⟩
  have z3 := hb3.size
  have LT := sha_len (xorB B 54 ++ l)
  generalize sha (xorB B 54 ++ l) = T at *
  have bl3 : Below w.heap.size w (w3.alloc (.cells (bs T) 24)) := (bl2.trans (hb3.mono (by omega))).alloc (by omega) _
  have gr3 : (w3.alloc (.cells (bs T) 24)).heap[w.heap.size]? = some (.cells (bs z32) 24 (0, 0)) := by rw [Below.heap_alloc _ _ _ (by omega), hb3.block _ (by omega)]; exact gr2
  have gT3 : (w3.alloc (.cells (bs T) 24)).heap[w3.heap.size]? = some (.cells (bs T) 24 (0, 0)) := heap_alloc_new _ _
  have i24 : Hid ((Tryd.prog.info? 24).map (·.size) = some (bs T).size) := by show _ = _; rw [bs_size, LT]; exact hs24
  have o24 : Hid ((bs z32).size = (bs T).size) := by show _ = _; rw [bs_size, bs_size, LT]; rfl
  clear gr2 bl2 by2 hb3 LM
  go_wp2_with (first | (refine wpList_alloc_row rfl 24 rfl (bs z32) (hz24 _) ?_) | (refine wpList_store_row rfl 24 (.tmp 6) (.tmp 14) rfl w3.heap.size (bs T) rfl rfl 24 (bs z32) (heap_alloc_new _ _) i24.out o24.out (bs_one _) ?_; rw [World.setRow_alloc_new]) | fail)
  generalize (w3.alloc (.cells (bs T) 24)) = W3 at *
  have zT3 : w3.heap.size < W3.heap.size := (Array.getElem?_eq_some_iff.1 gT3).1
  refine (H34.out 92 92 rfl W3 bl3).mono ?_
  rintro e w4 ⟨g2, rfl, hg2, hx2, hb4⟩
  have z4 := hb4.size
  have bl4 : Below w.heap.size w w4 := bl3.trans (hb4.mono (by omega))
  have gr4 : w4.heap[w.heap.size]? = some (.cells (bs z32) 24 (0, 0)) := by rw [hb4.block _ (by omega)]; exact gr3
  have gT4 : w4.heap[w3.heap.size]? = some (.cells (bs T) 24 (0, 0)) := by rw [hb4.block _ zT3]; exact gT3
  have O4 : Hid (OwnB w4 (w.heap.size + 1) (.slice (some ⟨g2, 0, none⟩) 64 64) (xorB B 92)) := own_row (by omega) hx2 (by omega)
  have B4 : Hid (Byt w4 (some ⟨w3.heap.size, 0, none⟩) T) := .inr ⟨_, _, rfl, fun j hj => by rw [Nat.zero_add]; exact (cell_of_row w4 _ j _ _ _ gT4).trans (bs_get _ j hj)⟩
  have S4 : Hid ((xorB B 92).length + T.length ≤ 140737488355328) := by show _ ≤ _; omega
  have Z4 : Hid (w.heap.size + 1 ≤ w4.heap.size) := by show _ ≤ _; omega
  clear hb4 hx2 gr3 gT3 bl3 gT4 i24 o24
  go_wp2_with (first | (at_builtin; refine wpList_app rfl (.tmp 17) (.tmp 18) rfl (w.heap.size + 1) (.slice (some ⟨g2, 0, none⟩) 64 64) (xorB B 92) rfl O4.out (some ⟨w3.heap.size, 0, none⟩) 32 32 T rfl LT B4.out S4.out Z4.out ?_) | fail)
  intro v5 w5 own5 grow5
  obtain ⟨gr5, bl5⟩ := app_step (w := w) O4.out gr4 bl4 (Below.refl _ _) grow5
  have z5 : w.heap.size < w5.heap.size := (Array.getElem?_eq_some_iff.1 gr5).1
  have LM : (xorB B 92 ++ T).length = 96 := by rw [List.length_append]; omega
  obtain ⟨a5, c5, hv5, hc5, by5, _⟩ := own5.open
  rw [LM] at hv5
  subst hv5
  clear O4 B4 S4 Z4 grow5 gr4 bl4 own5 hc5
  go_wp2_with fail
  refine (rsum_any a5 (xorB B 92 ++ T) 96 c5 w5 LM by5 (by omega) (roundsAt_below hK h5 bl5) (rootsAt_below hF h5 bl5) (by omega)).mono ?_
  rintro e w6 ⟨rfl, hb6⟩
  have LS := sha_len (xorB B 92 ++ T)
  generalize sha (xorB B 92 ++ T) = R at *
  have gr6 : w6.heap[w.heap.size]? = some (.cells (bs z32) 24 (0, 0)) := by rw [hb6.block _ (by omega)]; exact gr5
  have HB : Hid (Below w.heap.size w w6) := bl5.trans (hb6.mono (by omega))
  clear gr5 bl5 hb6 by5
  go_wp2_with (refine wpList_store_row rfl 24 (.tmp 4) (.tmp 21) rfl w.heap.size (bs R) rfl rfl 24 (bs z32) gr6 (by rw [bs_size, LS]; exact hs24) (by rw [bs_size, bs_size, LS]; rfl) (bs_one _) ?_)
  exact bodyPost_ret (res17 _ _ w.heap.size 24 R LS (0, 0) rfl (setRow_heap _ _ _ _ _ _ gr6)) rfl ⟨by rw [MM.out], HB.out.trans (below_setRow _ _ _ _ (Nat.le_refl _))⟩
end Go.Proofs.YtpjkhkobjhnahaaDoor
