import Derived.Test.YtpjkhkobjhnahaaDoorHex
namespace Go.Proofs.YtpjkhkobjhnahaaDoor
open Go.RowKit
set_option linter.unusedVariables false
set_option linter.unusedSimpArgs false

theorem hz54 (w : World) : (zeroValue 54).run Tryd.prog w = .ok (.agg (bs z64)) w := (zero_of_info (n := 64) (by kernel_rfl)).1 w
theorem hs54 : (Tryd.prog.info? 54).map (·.size) = some 64 := by kernel_rfl
def fill (x : List UInt8) : List UInt8 := x ++ z64.drop x.length
def kb (k : List UInt8) : List UInt8 := if k.length ≤ 64 then fill k else fill (sha k)
theorem fill_len (x : List UInt8) (h : x.length ≤ 64) : (fill x).length = 64 := by simp [fill, z64]; omega
theorem kb_len (k : List UInt8) : (kb k).length = 64 := by
  unfold kb
  split
  · exact fill_len _ ‹_›
  · exact fill_len _ (by rw [sha_len]; omega)
theorem bs_splice (bl : List UInt8) (o : Nat) (x : List UInt8) (ho : o + x.length ≤ bl.length) :
    ((bs bl).toList.take o ++ (byC x ++ (bs bl).toList.drop (o + (byC x).length))).toArray = bs (bl.take o ++ (x ++ bl.drop (o + x.length))) := by
  rw [byC_len]
  simp [bs, byC, List.map_take, List.map_drop]
theorem fill_splice (x : List UInt8) (h : x.length ≤ 64) : ((bs z64).toList.take 0 ++ (byC x ++ (bs z64).toList.drop (0 + (byC x).length))).toArray = bs (fill x) := by
  rw [bs_splice z64 0 x (by simpa [z64] using h)]
  simp [fill]
theorem res30 (tmps : Array Value) (w : World) (g : Nat) (t : TypeId) (l : List UInt8) (hl : l.length = 64) (fr : Nat × Nat) (hp : tmps.getD 2 undef = .pointer (some ⟨g, 0, none⟩)) (hg : w.heap[g]? = some (.cells (bs l) t fr)) :
    (results Tryd.f30 tmps).run Tryd.prog w = .ok (.agg (bs l)) w :=
  results_cell_row Tryd.results30 tmps w g t (bs l) fr _ hp hg Tryd.underlying54 rfl (by rw [bs_size, hl]; exact hs54)

set_option maxHeartbeats 2000000 in
theorem keyBlock_short (a : Option Addr) (l : List UInt8) (len cap : Nat) (w : World) (hlen : l.length = len) (hb : Byt w a l) (hl : l.length ≤ 64) :
    Calls Tryd.prog 30 #[.slice a len cap] w fun e w' => e = .returned (.agg (bs (kb l))) ∧ Below w.heap.size w w' := by
  have hkb : kb l = fill l := by unfold kb; rw [if_pos hl]
  have KB : Hid (kb l = fill l) := hkb
  clear hkb
  have LF := fill_len l hl
  have bel : Below w.heap.size w ((w.alloc (.cells (bs z64) 54)).alloc (.cells (bs z64) 54)) := ((Below.refl _ _).alloc (Nat.le_refl _) _).alloc (by simp) _
  have g1 : ((w.alloc (.cells (bs z64) 54)).alloc (.cells (bs z64) 54)).heap[w.heap.size + 1]? = some (.cells (bs z64) 54 (0, 0)) := heap_alloc2_new _ _ _
  have g0 : ((w.alloc (.cells (bs z64) 54)).alloc (.cells (bs z64) 54)).heap[w.heap.size]? = some (.cells (bs z64) 54 (0, 0)) := heap_alloc2_old _ _ _
  have B1 := byt_below hb bel
  have Z64 : (bs z64).size = 64 := by rw [bs_size]; rfl
  subst hlen
  by_cases h0 : l.length = 0
  · obtain rfl : l = [] := List.eq_nil_of_length_eq_zero h0
    have HM : Hid (Nat.min 0 64 = 0) := rfl
    have F0 : Hid (kb [] = z64) := by show _ = _; rw [KB.out]; rfl
    clear KB LF h0 hl B1 hb
    go_enter Tryd.func30, Tryd.ntmps30
    go_wp2_with (first | (refine wpList_alloc_row rfl 54 rfl (bs z64) (hz54 _) ?_) | (refine wpList_copy_nothing rfl (.tmp 13) (.tmp 14) 26 26 rfl 5 Tryd.underlying26 hsz5 _ _ 64 64 0 cap rfl rfl HM.out ?_) | (refine wpList_load_arr rfl 54 (.tmp 3) rfl (w.heap.size + 1) rfl 54 (bs z64) (0, 0) _ g1 Tryd.underlying54 rfl (by rw [Z64]; exact hs54) ?_) | (refine wpList_store_row rfl 54 (.tmp 2) (.tmp 16) rfl w.heap.size (bs z64) rfl rfl 54 (bs z64) g0 (by rw [Z64]; exact hs54) rfl (bs_one _) ?_))
    exact bodyPost_ret (res30 _ _ w.heap.size 54 z64 rfl (0, 0) rfl (setRow_heap _ _ _ _ _ _ g0)) rfl ⟨by rw [F0.out], bel.trans (below_setRow _ _ _ _ (Nat.le_refl _))⟩
  · rcases B1 with h | ⟨b', off', rfl, hcell⟩
    · rw [h] at h0; simp at h0
    have HL : Hid ((byC l).length = Nat.min l.length 64) := by show _ = _; rw [byC_len]; exact (Nat.min_eq_left hl).symm
    have hsrc : Hid (∀ j v, (byC l)[j]? = some v → ((w.alloc (.cells (bs z64) 54)).alloc (.cells (bs z64) 54)).cell? ((⟨b', off', none⟩ : Addr).add j) = some v) := fun j v hj => by
      obtain ⟨h1, rfl⟩ := byC_get _ j v hj
      rw [Addr.add_mid]
      exact hcell j h1
    have hfit : Hid (0 + (byC l).length ≤ (bs z64).size) := by show _ ≤ _; rw [Z64, byC_len]; omega
    have SP : Hid (((bs z64).toList.take 0 ++ (byC l ++ (bs z64).toList.drop (0 + (byC l).length))).toArray = bs (fill l)) := fill_splice l hl
    have G0 : Hid ((((w.alloc (.cells (bs z64) 54)).alloc (.cells (bs z64) 54)).setRow (w.heap.size + 1) (bs (fill l))).heap[w.heap.size]? = some (.cells (bs z64) 54 (0, 0))) := by show _ = _; rw [setRow_other _ _ _ _ (by omega)]; exact g0
    have G1 : Hid ((((w.alloc (.cells (bs z64) 54)).alloc (.cells (bs z64) 54)).setRow (w.heap.size + 1) (bs (fill l))).heap[w.heap.size + 1]? = some (.cells (bs (fill l)) 54 (0, 0))) := setRow_heap _ _ _ _ _ _ g1
    have BB : Hid (Below w.heap.size w (((w.alloc (.cells (bs z64) 54)).alloc (.cells (bs z64) 54)).setRow (w.heap.size + 1) (bs (fill l)))) := bel.trans (below_setRow _ _ _ _ (by omega))
    clear h0
    go_enter Tryd.func30, Tryd.ntmps30
    go_wp2_with (first | (refine wpList_alloc_row rfl 54 rfl (bs z64) (hz54 _) ?_) | (refine wpList_copy_own rfl (.tmp 13) (.tmp 14) 26 26 rfl 5 Tryd.underlying26 hsz5 (w.heap.size + 1) 0 64 64 ⟨b', off', none⟩ l.length cap rfl rfl (bs z64) 54 g1 (byC l) HL.out hsrc.out hfit.out (byC_one _) ?_; rw [SP.out]) | (refine wpList_load_arr rfl 54 (.tmp 3) rfl (w.heap.size + 1) rfl 54 (bs (fill l)) (0, 0) _ G1.out Tryd.underlying54 rfl (by rw [bs_size, LF]; exact hs54) ?_) | (refine wpList_store_row rfl 54 (.tmp 2) (.tmp 16) rfl w.heap.size (bs (fill l)) rfl rfl 54 (bs z64) G0.out (by rw [bs_size, LF]; exact hs54) (by rw [bs_size, bs_size, LF]; rfl) (bs_one _) ?_))
    exact bodyPost_ret (res30 _ _ w.heap.size 54 (fill l) LF (0, 0) rfl (setRow_heap _ _ _ _ _ _ G0.out)) rfl ⟨by rw [KB.out], BB.out.trans (below_setRow _ _ _ _ (Nat.le_refl _))⟩
end Go.Proofs.YtpjkhkobjhnahaaDoor
