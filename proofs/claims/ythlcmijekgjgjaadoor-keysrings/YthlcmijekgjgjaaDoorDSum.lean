import Derived.Test.YthlcmijekgjgjaaDoorDHSum
namespace Go.Proofs.YthlcmijekgjgjaaDoor
open Go.RowKit
set_option linter.unusedVariables false
set_option linter.unusedSimpArgs false

theorem res10 (tmps : Array Value) (w : World) (g : Nat) (t : TypeId) (l : List UInt8) (hl : l.length = 32) (fr : Nat × Nat) (hp : tmps.getD 2 undef = .pointer (some ⟨g, 0, none⟩)) (hg : w.heap[g]? = some (.cells (bs l) t fr)) :
    (results Tryd.f9 tmps).run Tryd.prog w = .ok (.agg (bs l)) w :=
  results_cell_row Tryd.results9 tmps w g t (bs l) fr _ hp hg Tryd.underlying43 rfl (by rw [bs_size, hl]; exact hs24)
theorem sha_len (m : List UInt8) : (sha m).length = 32 := outTo_len _ _
theorem firstAt_below {w w' : World} (h : FirstAt w) (hb : Below w.heap.size w w') : FirstAt w' := fun j hj => (hb.cell (p := ⟨1, j, none⟩) (block_lt_of_cell (h j hj))).trans (h j hj)
theorem keysAt_below {w w' : World} (h : KeysAt w) (hb : Below w.heap.size w w') : KeysAt w' := fun j hj => (hb.cell (p := ⟨3, j, none⟩) (block_lt_of_cell (h j hj))).trans (h j hj)
theorem byt_below {w w' : World} {a : Option Addr} {l : List UInt8} (h : Byt w a l) (hb : Below w.heap.size w w') : Byt w' a l := by
  rcases h with rfl | ⟨b, off, rfl, hc⟩
  · exact .inl rfl
  · exact .inr ⟨b, off, rfl, fun j hj => (hb.cell (p := ⟨b, off + j, none⟩) (block_lt_of_cell (hc j hj))).trans (hc j hj)⟩
theorem byt_lt {w : World} {a : Option Addr} {l : List UInt8} (h : Byt w a l) (hl : 0 < l.length) {b off : Nat} (e : a = some ⟨b, off, none⟩) : b < w.heap.size := by
  rcases h with rfl | ⟨b', off', rfl, hc⟩
  · simp at hl
  · cases e; exact block_lt_of_cell (hc 0 hl)

set_option maxHeartbeats 2000000 in
theorem sum_any (a : Option Addr) (l : List UInt8) (len cap : Nat) (w : World) (hlen : l.length = len) (hb : Byt w a l) (hba : ∀ b off, a = some ⟨b, off, none⟩ → b < w.heap.size) (hl : l.length ≤ 576460752303423488) (hcap : l.length ≤ cap) (hK : KeysAt w) (hF : FirstAt w) :
    Calls Tryd.prog 9 #[.slice a len cap] w fun e w' => e = .returned (.agg (bs (sha l))) ∧ Below w.heap.size w w' := by
  have hK4 : 3 < w.heap.size := block_lt_of_cell (hK 0 (by omega))
  have bl0 : Below w.heap.size w (w.alloc (.cells (bs z32) 43)) := (Below.refl _ _).alloc (Nat.le_refl _) _
  have zz0 : (w.alloc (.cells (bs z32) 43)).heap.size = w.heap.size + 1 := by simp
  have gr0 : (w.alloc (.cells (bs z32) 43)).heap[w.heap.size]? = some (.cells (bs z32) 43 (0, 0)) := heap_alloc_new _ _
  have F0 := firstAt_below hF bl0
  have K0 := keysAt_below hK bl0
  have B0 := byt_below hb bl0
  have ZZ : Hid ((w.alloc (.cells (bs z32) 43)).heap.size = w.heap.size + 1) := zz0
  clear zz0
  go_enter Tryd.func9, Tryd.ntmps9
  go_wp2_with (first | (refine wpList_alloc_row rfl 43 rfl (bs z32) (hz24 _) ?_) | fail)
  generalize (w.alloc (.cells (bs z32) 43)) = W0 at *
  refine (new_any W0 F0).mono ?_
  rintro e w1 ⟨rfl, rfl⟩
  have r1 := rep_new W0
  have bl1 : Below W0.heap.size W0 (W0.alloc (.cells (hc first z64 0) 56)) := (Below.refl _ _).alloc (Nat.le_refl _) _
  have K1 := keysAt_below K0 bl1
  have B1 := byt_below B0 bl1
  have zz1 : (W0.alloc (.cells (hc first z64 0) 56)).heap.size = W0.heap.size + 1 := by simp
  have Z1 : Hid ((W0.alloc (.cells (hc first z64 0) 56)).heap.size = W0.heap.size + 1) := zz1
  have gr1 : (W0.alloc (.cells (hc first z64 0) 56)).heap[w.heap.size]? = some (.cells (bs z32) 43 (0, 0)) := by rw [bl1.block _ (by rw [ZZ.out]; omega)]; exact gr0
  clear zz1
  go_wp2_with fail
  generalize (W0.alloc (.cells (hc first z64 0) 56)) = W1 at *
  refine (write_any W0.heap.size [] l a len cap W1 hlen r1 B1 (fun b off e => by have := hba b off e; have := ZZ.out; omega) K1 (by have := ZZ.out; omega) (by simp) (by omega) hcap).mono ?_
  rintro e w2 ⟨rfl, r2, hbut⟩
  rw [List.nil_append] at r2
  have zz2 := hbut.size
  have bl2 : Below w.heap.size w w2 := (bl0.trans (bl1.mono (by rw [ZZ.out]; omega))).trans (hbut.below (by rw [Z1.out, ZZ.out]; omega) (by rw [ZZ.out]; omega))
  have K2 : KeysAt w2 := hbut.keys K1 (by have := ZZ.out; omega)
  have gr2 : w2.heap[w.heap.size]? = some (.cells (bs z32) 43 (0, 0)) := by rw [hbut.block _ (by rw [Z1.out, ZZ.out]; omega) (by rw [ZZ.out]; omega)]; exact gr1
  have hw2 : w.heap.size + 2 ≤ w2.heap.size := by have := Z1.out; have := ZZ.out; omega
  clear r1 bl1 K1 B1 gr1 gr0 F0 K0 B0 bl0 hbut zz2
  go_wp2_with fail
  refine (hsum_any W0.heap.size l w2 r2 K2 hl).mono ?_
  rintro e w3 ⟨rfl, hb3⟩
  have gr3 : w3.heap[w.heap.size]? = some (.cells (bs z32) 43 (0, 0)) := by rw [hb3.block _ (by omega)]; exact gr2
  have LS := sha_len l
  have HB : Hid (Below w.heap.size w w3) := bl2.trans (hb3.mono (by omega))
  clear gr2 K2 r2
  go_wp2_with (refine wpList_store_row rfl 43 (.tmp 2) (.tmp 9) rfl w.heap.size (bs (sha l)) rfl rfl 43 (bs z32) gr3 (by rw [bs_size, LS]; exact hs24) (by rw [bs_size, bs_size, LS]; rfl) (bs_one _) ?_)
  exact bodyPost_ret (res10 _ _ w.heap.size 43 (sha l) LS (0, 0) rfl (setRow_heap _ _ _ _ _ _ gr3)) rfl ⟨rfl, HB.out.trans (below_setRow _ _ _ _ (Nat.le_refl _))⟩
end Go.Proofs.YthlcmijekgjgjaaDoor
