import Derived.Test.YthlcmijekgjgjaaDoorRf
import Derived.Test.YthlcmijekgjgjaaDoorDRSum
import Derived.Laws.IdiomStrings
namespace Go.Proofs.YthlcmijekgjgjaaDoor
open Go.RowKit
set_option linter.unusedVariables false
set_option linter.unusedSimpArgs false

def kw : ByteArray := ⟨#[107, 101, 121, 58]⟩
/-- The bytes of which a key is the hash. -/
def secB (s : ByteArray) : List UInt8 := kw.data.toList ++ s.data.toList
theorem conv_sec (s : ByteArray) (w : World) : ∃ cap C fr, (convert 9 45 (.string (kw ++ s))).run Tryd.prog w = .ok (.slice (some ⟨w.heap.size, 0, none⟩) (s.size + 4) cap) (w.drew.alloc (.cells C 5 fr)) ∧ s.size + 4 ≤ cap ∧ ∀ j, j < s.size + 4 → C[j]? = some (.int .u8 (at8 (secB s) j)) := by
  have e : (kw ++ s).data.toList = secB s := by
    show ((kw ++ s).data).toList = _
    rw [ByteArray.data_append]
    simp [secB]
  have z : (kw ++ s).size = s.size + 4 := by
    have := congrArg List.length e
    simp only [secB, List.length_append, Array.length_toList] at this
    have k4 : kw.data.size = 4 := rfl
    show (kw ++ s).data.size = s.data.size + 4
    omega
  have R := run_bytes_of_string (P := Tryd.prog) w 9 45 5 (kw ++ s) Tryd.underlying9 Tryd.underlying45 Tryd.underlying5
  rw [z] at R
  refine ⟨_, _, _, R, grownCap_ge _ _ _ _, fun j hj => ?_⟩
  unfold bytesRow
  have hj' : j < (kw ++ s).data.size := by have : (kw ++ s).data.size = (kw ++ s).size := rfl; omega
  rw [Array.getElem?_append_left (by simpa using hj')]
  simp only [at8, Array.getElem?_map]
  rw [← e, List.getD_eq_getElem?_getD, Array.getElem?_toList, Array.getElem?_eq_getElem hj']
  rfl
theorem res6 (tmps : Array Value) (w : World) (g : Nat) (t : TypeId) (l : List UInt8) (hl : l.length = 32) (fr : Nat × Nat) (hp : tmps.getD 2 undef = .pointer (some ⟨g, 0, none⟩)) (hg : w.heap[g]? = some (.cells (bs l) t fr)) :
    (results Tryd.f6 tmps).run Tryd.prog w = .ok (.agg (bs l)) w := results_cell_row Tryd.results6 tmps w g t (bs l) fr _ hp hg Tryd.underlying24 rfl (by rw [bs_size, hl]; exact s24)
theorem res7 (tmps : Array Value) (w : World) (g : Nat) (t : TypeId) (l : List UInt8) (hl : l.length = 32) (fr : Nat × Nat) (hp : tmps.getD 2 undef = .pointer (some ⟨g, 0, none⟩)) (hg : w.heap[g]? = some (.cells (bs l) t fr)) :
    (results Tryd.f7 tmps).run Tryd.prog w = .ok (.agg (bs l)) w := results_cell_row Tryd.results7 tmps w g t (bs l) fr _ hp hg Tryd.underlying24 rfl (by rw [bs_size, hl]; exact s24)
theorem secB_len (s : ByteArray) : (secB s).length = s.size + 4 := by
  unfold secB
  simp only [List.length_append, Array.length_toList]
  show 4 + s.data.size = s.data.size + 4
  omega
theorem roots_b {w w' : World} (h : RootsAt w) (hb : Below w.heap.size w w') : RootsAt w' := fun j hj => (hb.cell (p := ⟨0, j, none⟩) (block_lt_of_cell (h j hj))).trans (h j hj)
theorem rounds_b {w w' : World} (h : RoundsAt w) (hb : Below w.heap.size w w') : RoundsAt w' := fun j hj => (hb.cell (p := ⟨2, j, none⟩) (block_lt_of_cell (h j hj))).trans (h j hj)
set_option maxRecDepth 100000 in
set_option maxHeartbeats 2000000 in
theorem derive_any (s : ByteArray) (w : World) (hs : s.size ≤ 140737488351232) (hK : KeysAt w) (hF : FirstAt w) :
    Calls Tryd.prog 6 #[.string s] w fun e w' => e = .returned (.agg (bs (sha (secB s)))) ∧ Below w.heap.size w w' := by
  obtain ⟨W1, hW1⟩ : ∃ W1, w.alloc (.cells (kcs z32').toArray 24) = W1 := ⟨_, rfl⟩
  have b1 : Below w.heap.size w W1 := by rw [← hW1]; exact (Below.refl _ _).alloc (Nat.le_refl _) _
  have g1 : W1.heap[w.heap.size]? = some (.cells (kcs z32').toArray 24) := by rw [← hW1]; exact heap_alloc_new _ _
  have z1 : w.heap.size < W1.heap.size := by rw [← hW1]; simp
  obtain ⟨cap, C, fr, conv, hcap, hC⟩ := conv_sec s W1
  obtain ⟨W2, hW2⟩ : ∃ W2, W1.drew.alloc (.cells C 5 fr) = W2 := ⟨_, rfl⟩
  rw [hW2] at conv
  have zd : W1.drew.heap.size = W1.heap.size := rfl
  have b2 : Below W1.heap.size W1 W2 := by rw [← hW2]; exact ((Below.refl W1.heap.size W1).drew).alloc (Nat.le_of_eq zd.symm) _
  have h2 : W2.heap[W1.heap.size]? = some (.cells C 5 fr) := by rw [← hW2]; exact heap_alloc_new W1.drew _
  have byt : Byt W2 (some ⟨W1.heap.size, 0, none⟩) (secB s) := .inr ⟨W1.heap.size, 0, rfl, fun j hj => by
    rw [secB_len] at hj
    rw [Nat.zero_add, cell_of_row W2 W1.heap.size j C 5 fr h2]
    exact hC j hj⟩
  have bw2 : Below w.heap.size w W2 := b1.trans (b2.mono b1.size)
  have z2 : W1.heap.size < W2.heap.size := (Array.getElem?_eq_some_iff.1 h2).1
  have HS := Hid.mk' (sum_any (some ⟨W1.heap.size, 0, none⟩) (secB s) (s.size + 4) cap W2 (secB_len s) byt (fun b off e => by cases e; exact z2) (by rw [secB_len]; omega) (by rw [secB_len]; exact hcap) (keysAt_below hK bw2) (firstAt_below hF bw2))
  have HG : Hid (W2.heap[w.heap.size]? = some (.cells (kcs z32').toArray 24)) := by show _ = _; rw [b2.block _ z1]; exact g1
  have HB := Hid.mk' bw2
  have HW := Hid.mk' hW1
  have HZ := Hid.mk' (Nat.lt_trans z1 z2)
  have LS := sha_len (secB s)
  have kwe : (⟨#[107, 101, 121, 58]⟩ : ByteArray) = kw := rfl
  have hsum : ¬ 9223372036854775807 < kw.size + s.size := by have : kw.size = 4 := rfl; omega
  clear hK hF b1 g1 z1 hcap hC hW2 zd b2 h2 byt bw2 z2 hW1
  go_enter Tryd.func6, Tryd.ntmps6
  go_wp2_with (first
    | (with_reducible refine at_al24 ?_; refine wpList_alloc_row rfl 24 rfl (kcs z32').toArray (z24 _) ?_; rw [HW.out])
    | (go_at_call 9; refine HS.out.mono ?_)
    | fail)
  rintro e W3 ⟨rfl, b3⟩
  have g3 : Hid (W3.heap[w.heap.size]? = some (.cells (kcs z32').toArray 24)) := by show _ = _; rw [b3.block _ HZ.out]; exact HG.out
  have B3 : Hid (Below w.heap.size w W3) := HB.out.trans (b3.mono HB.out.size)
  clear b3
  go_wp2_with (first
    | (with_reducible refine at_st24 ?_; refine wpList_store_row rfl 24 (.tmp 2) (.tmp 6) rfl w.heap.size (bs (sha (secB s))) rfl rfl 24 (kcs z32').toArray g3.out (by rw [bs_size, LS]; exact s24) (by simp [bs_size, LS, kcs_len, z32']) (bs_one _) ?_)
    | fail)
  exact bodyPost_ret (res6 _ _ w.heap.size 24 (sha (secB s)) LS (0, 0) rfl (setRow_heap _ _ _ _ _ _ g3.out)) rfl ⟨rfl, B3.out.trans (below_setRow _ _ _ _ (Nat.le_refl _))⟩
set_option maxRecDepth 100000 in
set_option maxHeartbeats 2000000 in
theorem rderive_any (s : ByteArray) (w : World) (hs : s.size ≤ 140737488351232) (hK : RoundsAt w) (hF : RootsAt w) (h4 : 4 ≤ w.heap.size) :
    Calls Tryd.prog 7 #[.string s] w fun e w' => e = .returned (.agg (bs (sha (secB s)))) ∧ Below w.heap.size w w' := by
  obtain ⟨W1, hW1⟩ : ∃ W1, w.alloc (.cells (kcs z32').toArray 24) = W1 := ⟨_, rfl⟩
  have b1 : Below w.heap.size w W1 := by rw [← hW1]; exact (Below.refl _ _).alloc (Nat.le_refl _) _
  have g1 : W1.heap[w.heap.size]? = some (.cells (kcs z32').toArray 24) := by rw [← hW1]; exact heap_alloc_new _ _
  have z1 : w.heap.size < W1.heap.size := by rw [← hW1]; simp
  obtain ⟨cap, C, fr, conv, hcap, hC⟩ := conv_sec s W1
  obtain ⟨W2, hW2⟩ : ∃ W2, W1.drew.alloc (.cells C 5 fr) = W2 := ⟨_, rfl⟩
  rw [hW2] at conv
  have zd : W1.drew.heap.size = W1.heap.size := rfl
  have b2 : Below W1.heap.size W1 W2 := by rw [← hW2]; exact ((Below.refl W1.heap.size W1).drew).alloc (Nat.le_of_eq zd.symm) _
  have h2 : W2.heap[W1.heap.size]? = some (.cells C 5 fr) := by rw [← hW2]; exact heap_alloc_new W1.drew _
  have byt : Byt W2 (some ⟨W1.heap.size, 0, none⟩) (secB s) := .inr ⟨W1.heap.size, 0, rfl, fun j hj => by
    rw [secB_len] at hj
    rw [Nat.zero_add, cell_of_row W2 W1.heap.size j C 5 fr h2]
    exact hC j hj⟩
  have bw2 : Below w.heap.size w W2 := b1.trans (b2.mono b1.size)
  have z2 : W1.heap.size < W2.heap.size := (Array.getElem?_eq_some_iff.1 h2).1
  have HS := Hid.mk' (rsum_any (some ⟨W1.heap.size, 0, none⟩) (secB s) (s.size + 4) cap W2 (secB_len s) byt (by rw [secB_len]; omega) (rounds_b hK bw2) (roots_b hF bw2) (Nat.le_trans h4 bw2.size))
  have HG : Hid (W2.heap[w.heap.size]? = some (.cells (kcs z32').toArray 24)) := by show _ = _; rw [b2.block _ z1]; exact g1
  have HB := Hid.mk' bw2
  have HW := Hid.mk' hW1
  have HZ := Hid.mk' (Nat.lt_trans z1 z2)
  have LS := sha_len (secB s)
  have kwe : (⟨#[107, 101, 121, 58]⟩ : ByteArray) = kw := rfl
  have hsum : ¬ 9223372036854775807 < kw.size + s.size := by have : kw.size = 4 := rfl; omega
  clear hK hF h4 b1 g1 z1 hcap hC hW2 zd b2 h2 byt bw2 z2 hW1
  go_enter Tryd.func7, Tryd.ntmps7
  go_wp2_with (first
    | (with_reducible refine at_al24 ?_; refine wpList_alloc_row rfl 24 rfl (kcs z32').toArray (z24 _) ?_; rw [HW.out])
    | (go_at_call 10; refine HS.out.mono ?_)
    | fail)
  rintro e W3 ⟨rfl, b3⟩
  have g3 : Hid (W3.heap[w.heap.size]? = some (.cells (kcs z32').toArray 24)) := by show _ = _; rw [b3.block _ HZ.out]; exact HG.out
  have B3 : Hid (Below w.heap.size w W3) := HB.out.trans (b3.mono HB.out.size)
  clear b3
  go_wp2_with (first
    | (with_reducible refine at_st24 ?_; refine wpList_store_row rfl 24 (.tmp 2) (.tmp 6) rfl w.heap.size (bs (sha (secB s))) rfl rfl 24 (kcs z32').toArray g3.out (by rw [bs_size, LS]; exact s24) (by simp [bs_size, LS, kcs_len, z32']) (bs_one _) ?_)
    | fail)
  exact bodyPost_ret (res7 _ _ w.heap.size 24 (sha (secB s)) LS (0, 0) rfl (setRow_heap _ _ _ _ _ _ g3.out)) rfl ⟨rfl, B3.out.trans (below_setRow _ _ _ _ (Nat.le_refl _))⟩
end Go.Proofs.YthlcmijekgjgjaaDoor
