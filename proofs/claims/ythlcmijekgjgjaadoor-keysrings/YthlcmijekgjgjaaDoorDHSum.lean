import Derived.Test.YthlcmijekgjgjaaDoorDNew
namespace Go.Proofs.YthlcmijekgjgjaaDoor
open Go.RowKit
set_option linter.unusedVariables false
set_option linter.unusedSimpArgs false

def z32 : List UInt8 := List.replicate 32 0
theorem hz24 (w : World) : (zeroValue 43).run Tryd.prog w = .ok (.agg (bs z32)) w := (zero_of_info (n := 32) (by kernel_rfl)).1 w
theorem hb24 : Tryd.prog.built 43 [] = some (bs z32) := by kernel_rfl
theorem hs24 : (Tryd.prog.info? 43).map (·.size) = some 32 := by kernel_rfl
def s0 : S8 := ⟨0, 0, 0, 0, 0, 0, 0, 0⟩
theorem hz62 (w : World) : (zeroValue 56).run Tryd.prog w = .ok (.agg (hc s0 z64 0)) w := (zero_of_info (n := 73) (by kernel_rfl)).1 w
theorem hs62 : (Tryd.prog.info? 56).map (·.size) = some 73 := by kernel_rfl
theorem hc_one (s : S8) (bl : List UInt8) (n : Int) : (hc s bl n).all (·.oneCell') = true := by
  simp [hc, hcl, S8.list, Value.oneCell']
theorem hc0_size : (hc s0 z64 0).size = 73 := hc_size _ _ _ rfl

/-- Byte p of a hash. -/
def ob (s : S8) (p : Nat) : UInt8 := UInt8.ofNat ((s.list.getD (p / 4) 0).toNat / 2 ^ (24 - 8 * (p % 4)))
def outTo (s : S8) (n : Nat) : List UInt8 := (List.range 32).map (fun p => if p < n then ob s p else 0)
def out (s : S8) : List UInt8 := outTo s 32
def sha (m : List UInt8) : List UInt8 := out (stN (m ++ padL m.length) ((m ++ padL m.length).length / 64))
theorem outTo_len (s : S8) (n : Nat) : (outTo s n).length = 32 := by simp [outTo]
theorem outTo_zero (s : S8) : outTo s 0 = z32 := by simp [outTo, z32, List.map_const']
theorem outTo_succ (s : S8) (k : Nat) (hk : k < 32) : (outTo s k).set k (ob s k) = outTo s (k + 1) := by
  apply List.ext_getElem
  · simp [outTo]
  · intro i h1 h2
    simp only [outTo, List.getElem_set, List.getElem_map, List.getElem_range]
    by_cases e : k = i
    · subst e; simp
    · have : (i < k + 1) = (i < k) := by apply propext; omega
      simp [e, this]
theorem index58 (W : List UInt32) (hW : W.length = 8) (k : Nat) (hk : k < 8) (w : World) :
    (Instr.index 52 (.agg (ws W)) (.int .i64 (k : Int))).run Tryd.prog w = .ok (.int .u32 (U (W.getD k 0))) w := by
  obtain ⟨i, hi, hs⟩ := info27
  have hp := run_part_plain (P := Tryd.prog) w (e := 51) (by simp [Program.plainKey, Tryd.underlying51]) (off := k) (ws_get W k (by omega))
  simp only [Instr.index, asIntOf, Sem.run_bind, Sem.run_pure, Result.andThen_ok, run_underlying Tryd.underlying52]
  rw [Sem.run_ite, if_pos ⟨by omega, by omega⟩]
  simp only [Sem.run_bind, sizeOf, typeInfo, hi, hs]
  simp [hi, hs, hp]
theorem st_range {w : World} {g : Nat} {s : S8} {bl : List UInt8} {n : Int} (hg : w.heap[g]? = some (.cells (hc s bl n) 56 (0, 0))) : w.rangeAt g 0 (ws s.list).toList := fun j v hj => by
  have hj8 : j < 8 := by have := (List.getElem?_eq_some_iff.1 hj).1; simpa [ws, S8.list] using this
  rw [Nat.zero_add, cell_of_row w g j _ _ _ hg, hc_state s bl n j hj8]
  have := ws_get s.list j (by simpa [S8.list] using hj8)
  rw [← Array.getElem?_toList] at this
  rw [← this]
  exact hj
theorem res27 (tmps : Array Value) (w : World) (g : Nat) (t : TypeId) (l : List UInt8) (hl : l.length = 32) (fr : Nat × Nat) (hp : tmps.getD 2 undef = .pointer (some ⟨g, 0, none⟩)) (hg : w.heap[g]? = some (.cells (bs l) t fr)) :
    (results Tryd.f13 tmps).run Tryd.prog w = .ok (.agg (bs l)) w :=
  results_cell_row Tryd.results13 tmps w g t (bs l) fr _ hp hg Tryd.underlying43 rfl (by rw [bs_size, hl]; exact hs24)
theorem padL_len (n : Nat) : (padL n).length = room n + 8 := padTo_len n 8

theorem out_rel (j : Nat) (hj : j < 4) {k : Nat} (hk : k < 8) {S : S8} {w w2 wr : World} (v : Int) (hv : v = ((ob S (4 * k + j)).toNat : Int)) (i : Int) (hi : i = ((j + 1 : Nat) : Int)) (o : Nat) (ho : o = 4 * k + j)
    (hg : wr.heap[w2.heap.size]? = some (.cells (bs (outTo S (4 * k + j))) 43 (0, 0))) (h0 : wr.heap[w.heap.size]? = some (.cells (bs z32) 43 (0, 0))) (hbel : Below w.heap.size w wr) (hz : w.heap.size < w2.heap.size) :
    ∃ j' : Nat, j' ≤ 4 ∧ Value.int .i64 i = .int .i64 j' ∧ (wr.setCell ⟨w2.heap.size, o, none⟩ (.int .u8 v)).heap[w2.heap.size]? = some (.cells (bs (outTo S (4 * k + j'))) 43 (0, 0)) ∧ (wr.setCell ⟨w2.heap.size, o, none⟩ (.int .u8 v)).heap[w.heap.size]? = some (.cells (bs z32) 43 (0, 0)) ∧ Below w.heap.size w (wr.setCell ⟨w2.heap.size, o, none⟩ (.int .u8 v)) := by
  subst hv hi ho
  refine ⟨j + 1, by omega, rfl, ?_, ?_, hbel.setCell (by show w.heap.size ≤ w2.heap.size; omega) _⟩
  · rw [heap_setCell_same wr w2.heap.size _ _ 43 _ hg, bs_set, outTo_succ _ _ (by omega)]
    rfl
  · rw [Below.heap_setCell _ _ _ _ (by show w.heap.size ≠ w2.heap.size; omega)]
    exact h0
theorem ob_eq (S : S8) (k j : Nat) (hj : j < 4) (v : Int) (hv : v = U (S.list.getD k 0) / ((2 ^ (24 - 8 * j) : Nat) : Int) % 256) : v = ((ob S (4 * k + j)).toNat : Int) := by
  subst hv
  unfold ob U
  rw [UInt8.toNat_ofNat', show (4 * k + j) / 4 = k by omega, show (4 * k + j) % 4 = j by omega, Int.natCast_emod, Int.natCast_ediv]
  rfl

set_option maxRecDepth 100000 in
set_option maxHeartbeats 4000000 in
theorem hsum_any (g : Nat) (m : List UInt8) (w : World) (hr : Rep w g m) (hK : KeysAt w) (hm : m.length ≤ 576460752303423488) :
    Calls Tryd.prog 13 #[.pointer (some ⟨g, 0, none⟩)] w fun e w' => e = .returned (.agg (bs (sha m))) ∧ Below w.heap.size w w' := by
  obtain ⟨bl, hg, hbl, htk⟩ := hr
  have hgl : g < w.heap.size := (Array.getElem?_eq_some_iff.1 hg).1
  have q72 := (cell_of_row w g 72 _ _ _ hg).trans (hc_len _ bl _ hbl)
  have S73 := hc_size (stN m (m.length / 64)) bl (m.length : Int) hbl
  have G1 : ∀ A, (w.alloc A).heap[g]? = some (.cells (hc (stN m (m.length / 64)) bl (m.length : Int)) 56 (0, 0)) := fun A => by rw [Below.heap_alloc _ _ _ hgl]; exact hg
  have I1 : Hid ((Tryd.prog.info? 56).map (·.size) = some (hc (stN m (m.length / 64)) bl (m.length : Int)).size) := by show _ = _; rw [S73]; exact hs62
  have I2 : Hid ((hc s0 z64 0).size = (hc (stN m (m.length / 64)) bl (m.length : Int)).size) := by show _ = _; rw [S73]; exact hc0_size
  have I3 : Hid ((hc (stN m (m.length / 64)) bl (m.length : Int)).all (·.oneCell') = true) := hc_one _ _ _
  clear S73
  have REP : Hid (∀ W : World, ∀ g', W.heap[g']? = some (.cells (hc (stN m (m.length / 64)) bl (m.length : Int)) 56 (0, 0)) → Rep W g' m) := fun W g' h => ⟨bl, h, hbl, htk⟩
  have hK4 : 3 < w.heap.size := block_lt_of_cell (hK 0 (by omega))
  clear htk
  go_enter Tryd.func13, Tryd.ntmps13
  go_wp2_with (first | (refine wpList_alloc_row rfl 43 rfl (bs z32) (hz24 _) ?_) | (refine wpList_alloc_row rfl 56 rfl (hc s0 z64 0) (hz62 _) ?_) | (refine wpList_load_arr rfl 56 (.tmp 12) rfl g rfl 56 (hc (stN m (m.length / 64)) bl (m.length : Int)) (0, 0) _ (G1 _) Tryd.underlying56 rfl I1.out ?_) | (refine wpList_store_row rfl 56 (.tmp 3) (.tmp 13) rfl _ (hc (stN m (m.length / 64)) bl (m.length : Int)) rfl rfl 56 (hc s0 z64 0) (heap_alloc_new _ _) I1.out I2.out I3.out ?_; rw [World.setRow_alloc_new]) | fail)
  have bel0 : Below w.heap.size w ((w.alloc (.cells (bs z32) 43)).alloc (.cells (hc (stN m (m.length / 64)) bl (m.length : Int)) 56)) := ((Below.refl _ _).alloc (Nat.le_refl _) _).alloc (by simp) _
  have gr0 : ((w.alloc (.cells (bs z32) 43)).alloc (.cells (hc (stN m (m.length / 64)) bl (m.length : Int)) 56)).heap[w.heap.size]? = some (.cells (bs z32) 43 (0, 0)) := heap_alloc2_old _ _ _
  have gl0 : ((w.alloc (.cells (bs z32) 43)).alloc (.cells (hc (stN m (m.length / 64)) bl (m.length : Int)) 56)).heap[w.heap.size + 1]? = some (.cells (hc (stN m (m.length / 64)) bl (m.length : Int)) 56 (0, 0)) := heap_alloc2_new _ _ _
  have zz : w.heap.size + 1 < ((w.alloc (.cells (bs z32) 43)).alloc (.cells (hc (stN m (m.length / 64)) bl (m.length : Int)) 56)).heap.size := (Array.getElem?_eq_some_iff.1 gl0).1
  generalize ((w.alloc (.cells (bs z32) 43)).alloc (.cells (hc (stN m (m.length / 64)) bl (m.length : Int)) 56)) = W0 at *
  clear I1 I2 I3 G1 q72
  refine (padding_any m.length W0 (by omega)).mono ?_
  rintro e w1 ⟨rfl, hp1, hb1⟩
  have zz1 : W0.heap.size < w1.heap.size := (Array.getElem?_eq_some_iff.1 hp1).1
  have gr1 : w1.heap[w.heap.size]? = some (.cells (bs z32) 43 (0, 0)) := by rw [hb1.block _ (by omega)]; exact gr0
  have gl1 : w1.heap[w.heap.size + 1]? = some (.cells (hc (stN m (m.length / 64)) bl (m.length : Int)) 56 (0, 0)) := by rw [hb1.block _ zz]; exact gl0
  have bel1 : Below w.heap.size w w1 := bel0.trans (hb1.mono (by omega))
  have hK1 : KeysAt w1 := fun j hj => (bel1.cell (p := ⟨3, j, none⟩) hK4).trans (hK j hj)
  have rp1 : Rep w1 (w.heap.size + 1) m := REP.out _ _ gl1
  have hby : Byt w1 (some ⟨W0.heap.size, 0, none⟩) (padL m.length) := .inr ⟨_, _, rfl, fun j hj => by rw [Nat.zero_add]; exact (cell_of_row w1 _ j _ _ _ hp1).trans (bs_get _ j hj)⟩
  go_wp2_with fail
  refine (write_any (w.heap.size + 1) m (padL m.length) (some ⟨W0.heap.size, 0, none⟩) (room m.length + 8) (room m.length + 8) w1 (padL_len _) rp1 hby (fun b off e => by cases e; omega) hK1 (by omega) (by omega) (by rw [padL_len]; unfold room; omega) (by rw [padL_len]; omega)).mono ?_
  rintro e w2 ⟨rfl, ⟨bl2, hg2, hbl2, _⟩, hbut⟩
  have zz2 : w1.heap.size ≤ w2.heap.size := hbut.size
  have gr2 : w2.heap[w.heap.size]? = some (.cells (bs z32) 43 (0, 0)) := by rw [hbut.block _ (by omega) (by omega)]; exact gr1
  have bel2 : Below w.heap.size w w2 := bel1.trans (hbut.below (by omega) (by omega))
  have SH : Hid (sha m = out (stN (m ++ padL m.length) ((m ++ padL m.length).length / 64))) := rfl
  generalize stN (m ++ padL m.length) ((m ++ padL m.length).length / 64) = S at hg2 SH
  have rg2 := st_range hg2
  have rg3 : (w2.alloc (.cells (bs z32) 43)).rangeAt (w.heap.size + 1) 0 (ws S.list).toList := st_range (g := w.heap.size + 1) (by rw [Below.heap_alloc _ _ _ (by omega)]; exact hg2)
  obtain ⟨L, hL⟩ : ∃ L, L = S.list := ⟨_, rfl⟩
  have hL8 : L.length = 8 := by rw [hL]; rfl
  rw [← hL] at rg3
  have RG : Hid ((w2.alloc (.cells (bs z32) 43)).rangeAt (w.heap.size + 1) 0 (ws L).toList) := rg3
  have HSZ : Hid ((Tryd.prog.info? 52).map (·.size) = some (ws L).toList.length) := by show _ = _; rw [Array.length_toList, ws_size, hL8]; exact hs58
  have HLL : Hid (L = S.list) := hL
  clear hL
  have gs : (w2.alloc (.cells (bs z32) 43)).heap[w2.heap.size]? = some (.cells (bs z32) 43 (0, 0)) := heap_alloc_new _ _
  have gr3 : (w2.alloc (.cells (bs z32) 43)).heap[w.heap.size]? = some (.cells (bs z32) 43 (0, 0)) := by rw [Below.heap_alloc _ _ _ (by omega)]; exact gr2
  have bel3 : Below w.heap.size w (w2.alloc (.cells (bs z32) 43)) := bel2.alloc (by omega) _
  clear rg2 rg3 gr0 gl0 gr1 gl1 gr2 hp1 hb1 hK1 rp1 hby hbut bel0 bel1 REP hg2
  go_wp2_with (first | (refine wpList_alloc_row rfl 43 rfl (bs z32) (hz24 _) ?_) | (refine wpList_load_mid rfl 52 (.tmp 20) rfl (w.heap.size + 1) 0 rfl (ws L).toList _ RG.out Tryd.underlying52 rfl HSZ.out ?_))
  have hzz : w.heap.size < w2.heap.size := by omega
  go_loopw [5, 6, 7, 22, 26] (fun _ _ _ i _ wr => ∃ k : Nat, k ≤ 8 ∧ i = .int .i64 k ∧ wr.heap[w2.heap.size]? = some (.cells (bs (outTo S (4 * k))) 43 (0, 0)) ∧ wr.heap[w.heap.size]? = some (.cells (bs z32) 43 (0, 0)) ∧ Below w.heap.size w wr) (fun _ _ _ i _ _ => 8 - (intOf i).toNat)
  case atStart => exact ⟨0, by omega, rfl, by rw [Nat.mul_zero, outTo_zero]; exact gs, gr3, bel3⟩
  case round =>
    obtain ⟨k, hk, rfl, hq, hq0, hqb⟩ := hrel
    by_cases hkl : k < 8
    · have ix := fun wx => index58 L hL8 k hkl wx
      obtain ⟨x, hx⟩ : ∃ x, x = L.getD k 0 := ⟨_, rfl⟩
      rw [← hx] at ix
      have HX : Hid (x = S.list.getD k 0) := by rw [← HLL.out]; exact hx
      clear hx
      go_wp2
      go_loopw [7, 26] (fun _ i wq => ∃ j : Nat, j ≤ 4 ∧ i = .int .i64 j ∧ wq.heap[w2.heap.size]? = some (.cells (bs (outTo S (4 * k + j))) 43 (0, 0)) ∧ wq.heap[w.heap.size]? = some (.cells (bs z32) 43 (0, 0)) ∧ Below w.heap.size w wq) (fun _ i _ => 4 - (intOf i).toNat)
      case atStart => exact ⟨0, by omega, rfl, hq, hq0, hqb⟩
      case round =>
        clear hq hq0 hqb
        obtain ⟨j, hj, rfl, hq, hq0, hqb⟩ := hrel
        by_cases hjl : j < 4
        · have hlt : w2.heap.size < wr.heap.size := (Array.getElem?_eq_some_iff.1 hq).1
          have hcc := (cell_of_row wr w2.heap.size (4 * k + j) _ _ _ hq).trans (bs_get _ (4 * k + j) (by rw [outTo_len]; omega))
          have hff := frozen_of_row wr w2.heap.size (4 * k + j) _ _ hq
          rcases (show j = 0 ∨ j = 1 ∨ j = 2 ∨ j = 3 by omega) with rfl | rfl | rfl | rfl
          · simp only [Int.cast_ofNat_Int, Nat.add_zero, Int.natCast_zero] at *
            go_wp2
            go_roundw
            case rel => exact out_rel 0 (by decide) hkl _ (by rw [HX.out]; exact ob_eq S k 0 (by decide) _ rfl) _ rfl _ rfl hq hq0 hqb hzz
            case measure => simp [intOf]
          · simp only [Int.cast_ofNat_Int, Nat.add_zero, Int.natCast_zero] at *
            go_wp2
            go_roundw
            case rel => exact out_rel 1 (by decide) hkl _ (by rw [HX.out]; exact ob_eq S k 1 (by decide) _ rfl) _ rfl _ rfl hq hq0 hqb hzz
            case measure => simp [intOf]
          · simp only [Int.cast_ofNat_Int, Nat.add_zero, Int.natCast_zero] at *
            go_wp2
            go_roundw
            case rel => exact out_rel 2 (by decide) hkl _ (by rw [HX.out]; exact ob_eq S k 2 (by decide) _ rfl) _ rfl _ rfl hq hq0 hqb hzz
            case measure => simp [intOf]
          · simp only [Int.cast_ofNat_Int, Nat.add_zero, Int.natCast_zero] at *
            go_wp2
            go_roundw
            case rel => exact out_rel 3 (by decide) hkl _ (by rw [HX.out]; exact ob_eq S k 3 (by decide) _ (by rw [show (2 ^ (24 - 8 * 3) : Nat) = 1 by decide]; simp)) _ rfl _ rfl hq hq0 hqb hzz
            case measure => simp [intOf]
        · have hj4 : j = 4 := by omega
          subst hj4
          go_wp2
          go_roundw
          case rel => exact ⟨k + 1, by omega, by go_num, by rw [show 4 * (k + 1) = 4 * k + 4 by omega]; exact hq, hq0, hqb⟩
          case measure => simp [intOf]; omega
    · have hk8 : k = 8 := by omega
      subst hk8
      have hqq : wr.heap[w2.heap.size]? = some (.cells (bs (out S)) 43 (0, 0)) := hq
      have LO : (out S).length = 32 := outTo_len _ _
      clear hq
      go_wp2_with (first | (refine wpList_load_arr rfl 43 (.tmp 4) rfl w2.heap.size rfl 43 (bs (out S)) (0, 0) _ hqq Tryd.underlying43 rfl (by rw [bs_size, LO]; exact hs24) ?_) | (refine wpList_store_row rfl 43 (.tmp 2) (.tmp 42) rfl w.heap.size (bs (out S)) rfl rfl 43 (bs z32) hq0 (by rw [bs_size, LO]; exact hs24) (by rw [bs_size, bs_size, LO]; rfl) (bs_one _) ?_))
      exact bodyPost_ret (res27 _ _ w.heap.size 43 (out S) LO (0, 0) rfl (setRow_heap _ _ _ _ _ _ hq0)) rfl ⟨by rw [SH.out], hqb.trans (below_setRow _ _ _ _ (Nat.le_refl _))⟩
end Go.Proofs.YthlcmijekgjgjaaDoor
