import Derived.Test.YtpmdlhlojifoeaaDoorP1
import Derived.Maps.AppendAt
import Derived.Test.YtpmdlhlojifoeaaDoorP0
import Derived.Deep.RegionWith
namespace Go.Proofs.YtpmdlhlojifoeaaDoor
open Go.RowKit
set_option linter.unusedVariables false
set_option linter.unusedSimpArgs false

def z64 : List UInt8 := List.replicate 64 0
theorem built62 : Tryd.prog.built 62 [(0, .agg (ws first.list))] = some (hc first z64 0) := by kernel_rfl
def FirstAt (w : World) : Prop := ∀ j, j < 8 → w.cell? ⟨2, j, none⟩ = some (.int .u32 (U (first.list.getD j 0)))
theorem first_range {w : World} (h : FirstAt w) : w.rangeAt 2 0 (ws first.list).toList := fun j v hj => by
  have hj8 : j < 8 := by have := (List.getElem?_eq_some_iff.1 hj).1; simpa [ws, S8.list] using this
  rw [Nat.zero_add, h j hj8]
  have := ws_get first.list j (by simpa [S8.list] using hj8)
  rw [← Array.getElem?_toList] at this
  rw [← this]
  exact hj
theorem wpList_build_one {P : Program} {ops : Array Oper} {rest : List Oper} {o : Oper} {a : Act} {w : World} {Q : Exit → Act → World → Prop} (hgd : o.guard = none) (ty : TypeId) (i : Nat) (x : Operand) (ho : o.op = .build ty #[(i, x)])
    (v : Value) (hv : a.eval x = v) (Z : Array Value) (hz : P.built ty [(i, v)] = some Z)
    (h : wpList P ops Q rest (a.put o.dst (.agg Z)) w) : wpList P ops Q (o :: rest) a w := by
  subst hv
  refine wpList_build hgd ty #[(i, x)] ho (by simp [hz]) ?_
  simpa [hz] using h

set_option maxHeartbeats 800000 in
theorem new_any (w : World) (hF : FirstAt w) :
    Calls Tryd.prog 18 #[] w fun e w' => e = .returned (.pointer (some ⟨w.heap.size, 0, none⟩)) ∧ w' = w.alloc (.cells (hc first z64 0) 62) := by
  go_enter Tryd.func18, Tryd.ntmps18
  go_wp2_with (first | (refine wpList_load_mid rfl 58 (.global 2) rfl 2 0 rfl (ws first.list).toList _ (first_range hF) Tryd.underlying58 rfl (by exact hs58) ?_) | (refine wpList_build_one rfl 62 0 _ rfl (.agg (ws first.list)) rfl (hc first z64 0) built62 ?_))
  go_ret
  exact ⟨rfl, rfl⟩

theorem rep_new (w : World) : Rep (w.alloc (.cells (hc first z64 0) 62)) w.heap.size [] :=
  ⟨z64, heap_alloc_new _ _, rfl, rfl⟩
end Go.Proofs.YtpmdlhlojifoeaaDoor

namespace Go.Proofs.YtpmdlhlojifoeaaDoor
open Go.RowKit
set_option linter.unusedVariables false
set_option linter.unusedSimpArgs false

def z32 : List UInt8 := List.replicate 32 0
theorem hz24 (w : World) : (zeroValue 24).run Tryd.prog w = .ok (.agg (bs z32)) w := (zero_of_info (n := 32) (by kernel_rfl)).1 w
theorem hb24 : Tryd.prog.built 24 [] = some (bs z32) := by kernel_rfl
theorem hs24 : (Tryd.prog.info? 24).map (·.size) = some 32 := by kernel_rfl
def s0 : S8 := ⟨0, 0, 0, 0, 0, 0, 0, 0⟩
theorem hz62 (w : World) : (zeroValue 62).run Tryd.prog w = .ok (.agg (hc s0 z64 0)) w := (zero_of_info (n := 73) (by kernel_rfl)).1 w
theorem hs62 : (Tryd.prog.info? 62).map (·.size) = some 73 := by kernel_rfl
theorem hc_one (s : S8) (bl : List UInt8) (n : Int) : (hc s bl n).all (·.oneCell') = true := by
  simp [hc, hcl, S8.list, Value.oneCell']
theorem hc0_size : (hc s0 z64 0).size = 73 := hc_size _ _ _ rfl

/-- Byte p of a hash. -/
def ob (s : S8) (p : Nat) : UInt8 := UInt8.ofNat ((s.list.getD (p / 4) 0).toNat / 2 ^ (24 - 8 * (p % 4)))
def outTo (s : S8) (n : Nat) : List UInt8 := (List.range 32).map (fun p => if p < n then ob s p else 0)
def out (s : S8) : List UInt8 := outTo s 32
def sha (m : List UInt8) : List UInt8 := out (stN (m ++ padL m.length) ((m ++ padL m.length).length / 64))
theorem outTo_len (s : S8) (n : Nat) : (outTo s n).length = 32 := by simp [outTo]
theorem outTo_zero (s : S8) : outTo s 0 = z32 := by simp [outTo, z32, List.map_const']
theorem outTo_succ (s : S8) (k : Nat) (hk : k < 32) : (outTo s k).set k (ob s k) = outTo s (k + 1) := by
  apply List.ext_getElem
  · simp [outTo]
  · intro i h1 h2
    simp only [outTo, List.getElem_set, List.getElem_map, List.getElem_range]
    by_cases e : k = i
    · subst e; simp
    · have : (i < k + 1) = (i < k) := by apply propext; omega
      simp [e, this]
theorem index58 (W : List UInt32) (hW : W.length = 8) (k : Nat) (hk : k < 8) (w : World) :
    (Instr.index 58 (.agg (ws W)) (.int .i64 (k : Int))).run Tryd.prog w = .ok (.int .u32 (U (W.getD k 0))) w := by
  obtain ⟨i, hi, hs⟩ := info27
  have hp := run_part_plain (P := Tryd.prog) w (e := 27) (by simp [Program.plainKey, Tryd.underlying27]) (off := k) (ws_get W k (by omega))
  simp only [Instr.index, asIntOf, Sem.run_bind, Sem.run_pure, Result.andThen_ok, run_underlying Tryd.underlying58]
  rw [Sem.run_ite, if_pos ⟨by omega, by omega⟩]
  simp only [Sem.run_bind, sizeOf, typeInfo, hi, hs]
  simp [hi, hs, hp]
theorem st_range {w : World} {g : Nat} {s : S8} {bl : List UInt8} {n : Int} (hg : w.heap[g]? = some (.cells (hc s bl n) 62 (0, 0))) : w.rangeAt g 0 (ws s.list).toList := fun j v hj => by
  have hj8 : j < 8 := by have := (List.getElem?_eq_some_iff.1 hj).1; simpa [ws, S8.list] using this
  rw [Nat.zero_add, cell_of_row w g j _ _ _ hg, hc_state s bl n j hj8]
  have := ws_get s.list j (by simpa [S8.list] using hj8)
  rw [← Array.getElem?_toList] at this
  rw [← this]
  exact hj
theorem res27 (tmps : Array Value) (w : World) (g : Nat) (t : TypeId) (l : List UInt8) (hl : l.length = 32) (fr : Nat × Nat) (hp : tmps.getD 2 undef = .pointer (some ⟨g, 0, none⟩)) (hg : w.heap[g]? = some (.cells (bs l) t fr)) :
    (results Tryd.f27 tmps).run Tryd.prog w = .ok (.agg (bs l)) w :=
  results_cell_row Tryd.results27 tmps w g t (bs l) fr _ hp hg Tryd.underlying24 rfl (by rw [bs_size, hl]; exact hs24)
theorem padL_len (n : Nat) : (padL n).length = room n + 8 := padTo_len n 8

theorem out_rel (j : Nat) (hj : j < 4) {k : Nat} (hk : k < 8) {S : S8} {w w2 wr : World} (v : Int) (hv : v = ((ob S (4 * k + j)).toNat : Int)) (i : Int) (hi : i = ((j + 1 : Nat) : Int)) (o : Nat) (ho : o = 4 * k + j)
    (hg : wr.heap[w2.heap.size]? = some (.cells (bs (outTo S (4 * k + j))) 24 (0, 0))) (h0 : wr.heap[w.heap.size]? = some (.cells (bs z32) 24 (0, 0))) (hbel : Below w.heap.size w wr) (hz : w.heap.size < w2.heap.size) :
    ∃ j' : Nat, j' ≤ 4 ∧ Value.int .i64 i = .int .i64 j' ∧ (wr.setCell ⟨w2.heap.size, o, none⟩ (.int .u8 v)).heap[w2.heap.size]? = some (.cells (bs (outTo S (4 * k + j'))) 24 (0, 0)) ∧ (wr.setCell ⟨w2.heap.size, o, none⟩ (.int .u8 v)).heap[w.heap.size]? = some (.cells (bs z32) 24 (0, 0)) ∧ Below w.heap.size w (wr.setCell ⟨w2.heap.size, o, none⟩ (.int .u8 v)) := by
  subst hv hi ho
  refine ⟨j + 1, by omega, rfl, ?_, ?_, hbel.setCell (by show w.heap.size ≤ w2.heap.size; omega) _⟩
  · rw [heap_setCell_same wr w2.heap.size _ _ 24 _ hg, bs_set, outTo_succ _ _ (by omega)]
    rfl
  · rw [Below.heap_setCell _ _ _ _ (by show w.heap.size ≠ w2.heap.size; omega)]
    exact h0
theorem ob_eq (S : S8) (k j : Nat) (hj : j < 4) (v : Int) (hv : v = U (S.list.getD k 0) / ((2 ^ (24 - 8 * j) : Nat) : Int) % 256) : v = ((ob S (4 * k + j)).toNat : Int) := by
  subst hv
  unfold ob U
  rw [UInt8.toNat_ofNat', show (4 * k + j) / 4 = k by omega, show (4 * k + j) % 4 = j by omega, Int.natCast_emod, Int.natCast_ediv]
  rfl

set_option maxRecDepth 100000 in
set_option maxHeartbeats 4000000 in
theorem hsum_any (g : Nat) (m : List UInt8) (w : World) (hr : Rep w g m) (hK : KeysAt w) (hm : m.length ≤ 576460752303423488) :
    Calls Tryd.prog 27 #[.pointer (some ⟨g, 0, none⟩)] w fun e w' => e = .returned (.agg (bs (sha m))) ∧ Below w.heap.size w w' := by
  obtain ⟨bl, hg, hbl, htk⟩ := hr
  have hgl : g < w.heap.size := (Array.getElem?_eq_some_iff.1 hg).1
  have q72 := (cell_of_row w g 72 _ _ _ hg).trans (hc_len _ bl _ hbl)
  have S73 := hc_size (stN m (m.length / 64)) bl (m.length : Int) hbl
  have G1 : ∀ A, (w.alloc A).heap[g]? = some (.cells (hc (stN m (m.length / 64)) bl (m.length : Int)) 62 (0, 0)) := fun A => by rw [Below.heap_alloc _ _ _ hgl]; exact hg
  have I1 : Hid ((Tryd.prog.info? 62).map (·.size) = some (hc (stN m (m.length / 64)) bl (m.length : Int)).size) := by show _ = _; rw [S73]; exact hs62
  have I2 : Hid ((hc s0 z64 0).size = (hc (stN m (m.length / 64)) bl (m.length : Int)).size) := by show _ = _; rw [S73]; exact hc0_size
  have I3 : Hid ((hc (stN m (m.length / 64)) bl (m.length : Int)).all (·.oneCell') = true) := hc_one _ _ _
  clear S73
  have REP : Hid (∀ W : World, ∀ g', W.heap[g']? = some (.cells (hc (stN m (m.length / 64)) bl (m.length : Int)) 62 (0, 0)) → Rep W g' m) := fun W g' h => ⟨bl, h, hbl, htk⟩
  have hK4 : 4 < w.heap.size := block_lt_of_cell (hK 0 (by omega))
  clear htk
  go_enter Tryd.func27, Tryd.ntmps27
  go_wp2_with (first | (refine wpList_alloc_row rfl 24 rfl (bs z32) (hz24 _) ?_) | (refine wpList_alloc_row rfl 62 rfl (hc s0 z64 0) (hz62 _) ?_) | (refine wpList_load_arr rfl 62 (.tmp 12) rfl g rfl 62 (hc (stN m (m.length / 64)) bl (m.length : Int)) (0, 0) _ (G1 _) Tryd.underlying62 rfl I1.out ?_) | (refine wpList_store_row rfl 62 (.tmp 3) (.tmp 13) rfl _ (hc (stN m (m.length / 64)) bl (m.length : Int)) rfl rfl 62 (hc s0 z64 0) (heap_alloc_new _ _) I1.out I2.out I3.out ?_; rw [World.setRow_alloc_new]) | fail)
  have bel0 : Below w.heap.size w ((w.alloc (.cells (bs z32) 24)).alloc (.cells (hc (stN m (m.length / 64)) bl (m.length : Int)) 62)) := ((Below.refl _ _).alloc (Nat.le_refl _) _).alloc (by simp) _
  have gr0 : ((w.alloc (.cells (bs z32) 24)).alloc (.cells (hc (stN m (m.length / 64)) bl (m.length : Int)) 62)).heap[w.heap.size]? = some (.cells (bs z32) 24 (0, 0)) := heap_alloc2_old _ _ _
  have gl0 : ((w.alloc (.cells (bs z32) 24)).alloc (.cells (hc (stN m (m.length / 64)) bl (m.length : Int)) 62)).heap[w.heap.size + 1]? = some (.cells (hc (stN m (m.length / 64)) bl (m.length : Int)) 62 (0, 0)) := heap_alloc2_new _ _ _
  have zz : w.heap.size + 1 < ((w.alloc (.cells (bs z32) 24)).alloc (.cells (hc (stN m (m.length / 64)) bl (m.length : Int)) 62)).heap.size := (Array.getElem?_eq_some_iff.1 gl0).1
  generalize ((w.alloc (.cells (bs z32) 24)).alloc (.cells (hc (stN m (m.length / 64)) bl (m.length : Int)) 62)) = W0 at *
  clear I1 I2 I3 G1 q72
  refine (padding_any m.length W0 (by omega)).mono ?_
  rintro e w1 ⟨rfl, hp1, hb1⟩
  have zz1 : W0.heap.size < w1.heap.size := (Array.getElem?_eq_some_iff.1 hp1).1
  have gr1 : w1.heap[w.heap.size]? = some (.cells (bs z32) 24 (0, 0)) := by rw [hb1.block _ (by omega)]; exact gr0
  have gl1 : w1.heap[w.heap.size + 1]? = some (.cells (hc (stN m (m.length / 64)) bl (m.length : Int)) 62 (0, 0)) := by rw [hb1.block _ zz]; exact gl0
  have bel1 : Below w.heap.size w w1 := bel0.trans (hb1.mono (by omega))
  have hK1 : KeysAt w1 := fun j hj => (bel1.cell (p := ⟨4, j, none⟩) hK4).trans (hK j hj)
  have rp1 : Rep w1 (w.heap.size + 1) m := REP.out _ _ gl1
  have hby : Byt w1 (some ⟨W0.heap.size, 0, none⟩) (padL m.length) := .inr ⟨_, _, rfl, fun j hj => by rw [Nat.zero_add]; exact (cell_of_row w1 _ j _ _ _ hp1).trans (bs_get _ j hj)⟩
  go_wp2_with fail
  refine (write_any (w.heap.size + 1) m (padL m.length) (some ⟨W0.heap.size, 0, none⟩) (room m.length + 8) (room m.length + 8) w1 (padL_len _) rp1 hby (fun b off e => by cases e; omega) hK1 (by omega) (by omega) (by rw [padL_len]; unfold room; omega) (by rw [padL_len]; omega)).mono ?_
  rintro e w2 ⟨rfl, ⟨bl2, hg2, hbl2, _⟩, hbut⟩
  have zz2 : w1.heap.size ≤ w2.heap.size := hbut.size
  have gr2 : w2.heap[w.heap.size]? = some (.cells (bs z32) 24 (0, 0)) := by rw [hbut.block _ (by omega) (by omega)]; exact gr1
  have bel2 : Below w.heap.size w w2 := bel1.trans (hbut.below (by omega) (by omega))
  have SH : Hid (sha m = out (stN (m ++ padL m.length) ((m ++ padL m.length).length / 64))) := rfl
  generalize stN (m ++ padL m.length) ((m ++ padL m.length).length / 64) = S at hg2 SH
  have rg2 := st_range hg2
  have rg3 : (w2.alloc (.cells (bs z32) 24)).rangeAt (w.heap.size + 1) 0 (ws S.list).toList := st_range (g := w.heap.size + 1) (by rw [Below.heap_alloc _ _ _ (by omega)]; exact hg2)
  obtain ⟨L, hL⟩ : ∃ L, L = S.list := ⟨_, rfl⟩
  have hL8 : L.length = 8 := by rw [hL]; rfl
  rw [← hL] at rg3
  have RG : Hid ((w2.alloc (.cells (bs z32) 24)).rangeAt (w.heap.size + 1) 0 (ws L).toList) := rg3
  have HSZ : Hid ((Tryd.prog.info? 58).map (·.size) = some (ws L).toList.length) := by show _ = _; rw [Array.length_toList, ws_size, hL8]; exact hs58
  have HLL : Hid (L = S.list) := hL
  clear hL
  have gs : (w2.alloc (.cells (bs z32) 24)).heap[w2.heap.size]? = some (.cells (bs z32) 24 (0, 0)) := heap_alloc_new _ _
  have gr3 : (w2.alloc (.cells (bs z32) 24)).heap[w.heap.size]? = some (.cells (bs z32) 24 (0, 0)) := by rw [Below.heap_alloc _ _ _ (by omega)]; exact gr2
  have bel3 : Below w.heap.size w (w2.alloc (.cells (bs z32) 24)) := bel2.alloc (by omega) _
  clear rg2 rg3 gr0 gl0 gr1 gl1 gr2 hp1 hb1 hK1 rp1 hby hbut bel0 bel1 REP hg2
  go_wp2_with (first | (refine wpList_alloc_row rfl 24 rfl (bs z32) (hz24 _) ?_) | (refine wpList_load_mid rfl 58 (.tmp 20) rfl (w.heap.size + 1) 0 rfl (ws L).toList _ RG.out Tryd.underlying58 rfl HSZ.out ?_))
  have hzz : w.heap.size < w2.heap.size := by omega
  go_loopw [5, 6, 7, 22, 26] (fun _ _ _ i _ wr => ∃ k : Nat, k ≤ 8 ∧ i = .int .i64 k ∧ wr.heap[w2.heap.size]? = some (.cells (bs (outTo S (4 * k))) 24 (0, 0)) ∧ wr.heap[w.heap.size]? = some (.cells (bs z32) 24 (0, 0)) ∧ Below w.heap.size w wr) (fun _ _ _ i _ _ => 8 - (intOf i).toNat)
  case atStart => exact ⟨0, by omega, rfl, by rw [Nat.mul_zero, outTo_zero]; exact gs, gr3, bel3⟩
  case round =>
    obtain ⟨k, hk, rfl, hq, hq0, hqb⟩ := hrel
    by_cases hkl : k < 8
    · have ix := fun wx => index58 L hL8 k hkl wx
      obtain ⟨x, hx⟩ : ∃ x, x = L.getD k 0 := ⟨_, rfl⟩
      rw [← hx] at ix
      have HX : Hid (x = S.list.getD k 0) := by rw [← HLL.out]; exact hx
      clear hx
      go_wp2
      go_loopw [7, 26] (fun _ i wq => ∃ j : Nat, j ≤ 4 ∧ i = .int .i64 j ∧ wq.heap[w2.heap.size]? = some (.cells (bs (outTo S (4 * k + j))) 24 (0, 0)) ∧ wq.heap[w.heap.size]? = some (.cells (bs z32) 24 (0, 0)) ∧ Below w.heap.size w wq) (fun _ i _ => 4 - (intOf i).toNat)
      case atStart => exact ⟨0, by omega, rfl, hq, hq0, hqb⟩
      case round =>
        clear hq hq0 hqb
        obtain ⟨j, hj, rfl, hq, hq0, hqb⟩ := hrel
        by_cases hjl : j < 4
        · have hlt : w2.heap.size < wr.heap.size := (Array.getElem?_eq_some_iff.1 hq).1
          have hcc := (cell_of_row wr w2.heap.size (4 * k + j) _ _ _ hq).trans (bs_get _ (4 * k + j) (by rw [outTo_len]; omega))
          have hff := frozen_of_row wr w2.heap.size (4 * k + j) _ _ hq
          rcases (show j = 0 ∨ j = 1 ∨ j = 2 ∨ j = 3 by omega) with rfl | rfl | rfl | rfl
          · simp only [Int.cast_ofNat_Int, Nat.add_zero, Int.natCast_zero] at *
            go_wp2
            go_roundw
            case rel => exact out_rel 0 (by decide) hkl _ (by rw [HX.out]; exact ob_eq S k 0 (by decide) _ rfl) _ rfl _ rfl hq hq0 hqb hzz
            case measure => simp [intOf]
          · simp only [Int.cast_ofNat_Int, Nat.add_zero, Int.natCast_zero] at *
            go_wp2
            go_roundw
            case rel => exact out_rel 1 (by decide) hkl _ (by rw [HX.out]; exact ob_eq S k 1 (by decide) _ rfl) _ rfl _ rfl hq hq0 hqb hzz
            case measure => simp [intOf]
          · simp only [Int.cast_ofNat_Int, Nat.add_zero, Int.natCast_zero] at *
            go_wp2
            go_roundw
            case rel => exact out_rel 2 (by decide) hkl _ (by rw [HX.out]; exact ob_eq S k 2 (by decide) _ rfl) _ rfl _ rfl hq hq0 hqb hzz
            case measure => simp [intOf]
          · simp only [Int.cast_ofNat_Int, Nat.add_zero, Int.natCast_zero] at *
            go_wp2
            go_roundw
            case rel => exact out_rel 3 (by decide) hkl _ (by rw [HX.out]; exact ob_eq S k 3 (by decide) _ (by rw [show (2 ^ (24 - 8 * 3) : Nat) = 1 by decide]; simp)) _ rfl _ rfl hq hq0 hqb hzz
            case measure => simp [intOf]
        · have hj4 : j = 4 := by omega
          subst hj4
          go_wp2
          go_roundw
          case rel => exact ⟨k + 1, by omega, by go_num, by rw [show 4 * (k + 1) = 4 * k + 4 by omega]; exact hq, hq0, hqb⟩
          case measure => simp [intOf]; omega
    · have hk8 : k = 8 := by omega
      subst hk8
      have hqq : wr.heap[w2.heap.size]? = some (.cells (bs (out S)) 24 (0, 0)) := hq
      have LO : (out S).length = 32 := outTo_len _ _
      clear hq
      go_wp2_with (first | (refine wpList_load_arr rfl 24 (.tmp 4) rfl w2.heap.size rfl 24 (bs (out S)) (0, 0) _ hqq Tryd.underlying24 rfl (by rw [bs_size, LO]; exact hs24) ?_) | (refine wpList_store_row rfl 24 (.tmp 2) (.tmp 42) rfl w.heap.size (bs (out S)) rfl rfl 24 (bs z32) hq0 (by rw [bs_size, LO]; exact hs24) (by rw [bs_size, bs_size, LO]; rfl) (bs_one _) ?_))
      exact bodyPost_ret (res27 _ _ w.heap.size 24 (out S) LO (0, 0) rfl (setRow_heap _ _ _ _ _ _ hq0)) rfl ⟨by rw [SH.out], hqb.trans (below_setRow _ _ _ _ (Nat.le_refl _))⟩
end Go.Proofs.YtpmdlhlojifoeaaDoor

namespace Go.Proofs.YtpmdlhlojifoeaaDoor
open Go.RowKit
set_option linter.unusedVariables false
set_option linter.unusedSimpArgs false

theorem res10 (tmps : Array Value) (w : World) (g : Nat) (t : TypeId) (l : List UInt8) (hl : l.length = 32) (fr : Nat × Nat) (hp : tmps.getD 2 undef = .pointer (some ⟨g, 0, none⟩)) (hg : w.heap[g]? = some (.cells (bs l) t fr)) :
    (results Tryd.f10 tmps).run Tryd.prog w = .ok (.agg (bs l)) w :=
  results_cell_row Tryd.results10 tmps w g t (bs l) fr _ hp hg Tryd.underlying24 rfl (by rw [bs_size, hl]; exact hs24)
theorem sha_len (m : List UInt8) : (sha m).length = 32 := outTo_len _ _
theorem firstAt_below {w w' : World} (h : FirstAt w) (hb : Below w.heap.size w w') : FirstAt w' := fun j hj => (hb.cell (p := ⟨2, j, none⟩) (block_lt_of_cell (h j hj))).trans (h j hj)
theorem keysAt_below {w w' : World} (h : KeysAt w) (hb : Below w.heap.size w w') : KeysAt w' := fun j hj => (hb.cell (p := ⟨4, j, none⟩) (block_lt_of_cell (h j hj))).trans (h j hj)
theorem nibsAt_below {w w' : World} (h : NibsAt w) (hb : Below w.heap.size w w') : NibsAt w' := fun j hj => (hb.cell (p := ⟨0, j, none⟩) (block_lt_of_cell (h j hj))).trans (h j hj)
theorem byt_below {w w' : World} {a : Option Addr} {l : List UInt8} (h : Byt w a l) (hb : Below w.heap.size w w') : Byt w' a l := by
  rcases h with rfl | ⟨b, off, rfl, hc⟩
  · exact .inl rfl
  · exact .inr ⟨b, off, rfl, fun j hj => (hb.cell (p := ⟨b, off + j, none⟩) (block_lt_of_cell (hc j hj))).trans (hc j hj)⟩
theorem byt_lt {w : World} {a : Option Addr} {l : List UInt8} (h : Byt w a l) (hl : 0 < l.length) {b off : Nat} (e : a = some ⟨b, off, none⟩) : b < w.heap.size := by
  rcases h with rfl | ⟨b', off', rfl, hc⟩
  · simp at hl
  · cases e; exact block_lt_of_cell (hc 0 hl)

set_option maxHeartbeats 2000000 in
theorem sum_any (a : Option Addr) (l : List UInt8) (len cap : Nat) (w : World) (hlen : l.length = len) (hb : Byt w a l) (hba : ∀ b off, a = some ⟨b, off, none⟩ → b < w.heap.size) (hl : l.length ≤ 576460752303423488) (hcap : l.length ≤ cap) (hK : KeysAt w) (hF : FirstAt w) :
    Calls Tryd.prog 10 #[.slice a len cap] w fun e w' => e = .returned (.agg (bs (sha l))) ∧ Below w.heap.size w w' := by
  have hK4 : 4 < w.heap.size := block_lt_of_cell (hK 0 (by omega))
  have bl0 : Below w.heap.size w (w.alloc (.cells (bs z32) 24)) := (Below.refl _ _).alloc (Nat.le_refl _) _
  have zz0 : (w.alloc (.cells (bs z32) 24)).heap.size = w.heap.size + 1 := by simp
  have gr0 : (w.alloc (.cells (bs z32) 24)).heap[w.heap.size]? = some (.cells (bs z32) 24 (0, 0)) := heap_alloc_new _ _
  have F0 := firstAt_below hF bl0
  have K0 := keysAt_below hK bl0
  have B0 := byt_below hb bl0
  have ZZ : Hid ((w.alloc (.cells (bs z32) 24)).heap.size = w.heap.size + 1) := zz0
  clear zz0
  go_enter Tryd.func10, Tryd.ntmps10
  go_wp2_with (first | (refine wpList_alloc_row rfl 24 rfl (bs z32) (hz24 _) ?_) | fail)
  generalize (w.alloc (.cells (bs z32) 24)) = W0 at *
  refine (new_any W0 F0).mono ?_
  rintro e w1 ⟨rfl, rfl⟩
  have r1 := rep_new W0
  have bl1 : Below W0.heap.size W0 (W0.alloc (.cells (hc first z64 0) 62)) := (Below.refl _ _).alloc (Nat.le_refl _) _
  have K1 := keysAt_below K0 bl1
  have B1 := byt_below B0 bl1
  have zz1 : (W0.alloc (.cells (hc first z64 0) 62)).heap.size = W0.heap.size + 1 := by simp
  have Z1 : Hid ((W0.alloc (.cells (hc first z64 0) 62)).heap.size = W0.heap.size + 1) := zz1
  have gr1 : (W0.alloc (.cells (hc first z64 0) 62)).heap[w.heap.size]? = some (.cells (bs z32) 24 (0, 0)) := by rw [bl1.block _ (by rw [ZZ.out]; omega)]; exact gr0
  clear zz1
  go_wp2_with fail
  generalize (W0.alloc (.cells (hc first z64 0) 62)) = W1 at *
  refine (write_any W0.heap.size [] l a len cap W1 hlen r1 B1 (fun b off e => by have := hba b off e; have := ZZ.out; omega) K1 (by have := ZZ.out; omega) (by simp) (by omega) hcap).mono ?_
  rintro e w2 ⟨rfl, r2, hbut⟩
  rw [List.nil_append] at r2
  have zz2 := hbut.size
  have bl2 : Below w.heap.size w w2 := (bl0.trans (bl1.mono (by rw [ZZ.out]; omega))).trans (hbut.below (by rw [Z1.out, ZZ.out]; omega) (by rw [ZZ.out]; omega))
  have K2 : KeysAt w2 := hbut.keys K1 (by have := ZZ.out; omega)
  have gr2 : w2.heap[w.heap.size]? = some (.cells (bs z32) 24 (0, 0)) := by rw [hbut.block _ (by rw [Z1.out, ZZ.out]; omega) (by rw [ZZ.out]; omega)]; exact gr1
  have hw2 : w.heap.size + 2 ≤ w2.heap.size := by have := Z1.out; have := ZZ.out; omega
  clear r1 bl1 K1 B1 gr1 gr0 F0 K0 B0 bl0 hbut zz2
  go_wp2_with fail
  refine (hsum_any W0.heap.size l w2 r2 K2 hl).mono ?_
  rintro e w3 ⟨rfl, hb3⟩
  have gr3 : w3.heap[w.heap.size]? = some (.cells (bs z32) 24 (0, 0)) := by rw [hb3.block _ (by omega)]; exact gr2
  have LS := sha_len l
  have HB : Hid (Below w.heap.size w w3) := bl2.trans (hb3.mono (by omega))
  clear gr2 K2 r2
  go_wp2_with (refine wpList_store_row rfl 24 (.tmp 2) (.tmp 9) rfl w.heap.size (bs (sha l)) rfl rfl 24 (bs z32) gr3 (by rw [bs_size, LS]; exact hs24) (by rw [bs_size, bs_size, LS]; rfl) (bs_one _) ?_)
  exact bodyPost_ret (res10 _ _ w.heap.size 24 (sha l) LS (0, 0) rfl (setRow_heap _ _ _ _ _ _ gr3)) rfl ⟨rfl, HB.out.trans (below_setRow _ _ _ _ (Nat.le_refl _))⟩
end Go.Proofs.YtpmdlhlojifoeaaDoor

namespace Go.Proofs.YtpmdlhlojifoeaaDoor
open Go.RowKit
set_option linter.unusedVariables false
set_option linter.unusedSimpArgs false

/-- A slice of the call's own that holds bytes. -/
def OwnB (w : World) (base : Nat) (v : Value) (L : List UInt8) : Prop := w.ownsRow base 5 1 v L.length (byC L)

theorem ownB_nil (w : World) (base : Nat) : OwnB w base (.slice none 0 0) [] := World.ownsRow_nil w base 5 1

theorem OwnB.open {w : World} {base : Nat} {v : Value} {L : List UInt8} (h : OwnB w base v L) :
    ∃ a cap, v = .slice a L.length cap ∧ L.length ≤ cap ∧ Byt w a L ∧ (∀ b off, a = some ⟨b, off, none⟩ → base ≤ b ∧ b < w.heap.size) := by
  rcases h.2 with ⟨rfl, hn⟩ | ⟨g, cap, cur, rfl, hbg, hg, hnc, hcm, hcs, htake⟩
  · obtain rfl : L = [] := List.eq_nil_of_length_eq_zero hn
    exact ⟨none, 0, rfl, Nat.le_refl _, .inl rfl, fun _ _ e => by cases e⟩
  · refine ⟨some ⟨g, 0, none⟩, cap, rfl, hnc, .inr ⟨g, 0, rfl, fun j hj => ?_⟩, fun b off e => by cases e; exact ⟨hbg, (Array.getElem?_eq_some_iff.1 hg).1⟩⟩
    rw [Nat.zero_add, cell_of_row w g j cur 5 (0, 0) hg]
    have e : (byC L)[j]? = some (.int .u8 (at8 L j)) := by simp [byC, at8, List.getElem?_eq_getElem hj]
    rw [← htake, List.getElem?_take] at e
    split at e
    · simpa using e
    · cases e
/-- .. that is not empty. -/
theorem OwnB.open1 {w : World} {base : Nat} {v : Value} {L : List UInt8} (h : OwnB w base v L) (h0 : 0 < L.length) :
    ∃ g cap, v = .slice (some ⟨g, 0, none⟩) L.length cap ∧ L.length ≤ cap ∧ (∀ j, j < L.length → w.cell? ⟨g, j, none⟩ = some (.int .u8 (at8 L j))) ∧ base ≤ g ∧ g < w.heap.size := by
  rcases h.2 with ⟨rfl, hn⟩ | ⟨g, cap, cur, rfl, hbg, hg, hnc, hcm, hcs, htake⟩
  · omega
  · refine ⟨g, cap, rfl, hnc, fun j hj => ?_, hbg, (Array.getElem?_eq_some_iff.1 hg).1⟩
    rw [cell_of_row w g j cur 5 (0, 0) hg]
    have e : (byC L)[j]? = some (.int .u8 (at8 L j)) := by simp [byC, at8, List.getElem?_eq_getElem hj]
    rw [← htake, List.getElem?_take] at e
    split at e
    · simpa using e
    · cases e
theorem OwnB.below {w w' : World} {base : Nat} {v : Value} {L : List UInt8} (h : OwnB w base v L) (hb : Below w.heap.size w w') : OwnB w' base v L := by
  refine ⟨h.1, ?_⟩
  rcases h.2 with hn | ⟨g, cap, cur, rfl, hbg, hg, rest⟩
  · exact .inl hn
  · exact .inr ⟨g, cap, cur, rfl, hbg, by rw [hb.block g (Array.getElem?_eq_some_iff.1 hg).1]; exact hg, rest⟩
theorem OwnB.but {g : Nat} {w w' : World} {base : Nat} {v : Value} {L : List UInt8} (h : OwnB w base v L) (hb : But g w w') (hg : g < base) : OwnB w' base v L := by
  refine ⟨h.1, ?_⟩
  rcases h.2 with hn | ⟨k, cap, cur, rfl, hbg, hk, rest⟩
  · exact .inl hn
  · exact .inr ⟨k, cap, cur, rfl, hbg, by rw [hb.block k (Array.getElem?_eq_some_iff.1 hk).1 (by omega)]; exact hk, rest⟩

theorem info5' : ∃ i, Tryd.prog.info? 5 = some i ∧ i.zero = some (.int .u8 0) ∧ i.size = 1 ∧ i.bytes = 1 := by
  obtain ⟨i, h1, h2, h3, h4⟩ := info_parts Tryd.info5
  exact ⟨i, h1, h2, h3, h4⟩

theorem run_app (w : World) (base : Nat) (ty : TypeId) (v : Value) (L : List UInt8) (a : Option Addr) (M : List UInt8) (c : Nat) (hown : OwnB w base v L) (hb : Byt w a M)
    (h : L.length + M.length ≤ 140737488355328) (hbase : base ≤ w.heap.size) :
    ∃ v' w', (Builtin.append_ #[26, 26] ty #[v, .slice a M.length c]).run Tryd.prog w = .ok v' w' ∧ OwnB w' base v' (L ++ M) ∧ w.grownBy w' v.ownBlock := by
  obtain ⟨i, hi, hz, hs, hby⟩ := info5'
  cases a with
  | some ad =>
    have hnews : ∀ j u, (byC M)[j]? = some u → w.cell? (ad.add j) = some u := fun j u hj => by
      obtain ⟨h1, rfl⟩ := byC_get _ j u hj
      rcases hb with rfl | ⟨b, off, e, hc⟩
      · simp at h1
      · cases e
        rw [Addr.add_mid]
        exact hc j h1
    obtain ⟨v', w', hr, h2, h3, _⟩ := run_append_own (P := Tryd.prog) w base 26 ty 5 i (.int .u8 0) 1 1 Tryd.underlying26 hi hz hs hby rfl (by decide) v L.length (byC L) hown ad M.length c (byC M) (by rw [byC_len]; omega) hnews (byC_one _) (by unfold maxLen; omega) (by omega) hbase
    refine ⟨v', w', hr, ?_, h3⟩
    unfold OwnB
    rw [List.length_append, show byC (L ++ M) = byC L ++ byC M by simp [byC]]
    exact h2
  | none =>
    obtain rfl : M = [] := by
      rcases hb with rfl | ⟨b, off, e, _⟩
      · rfl
      · cases e
    rcases hown.2 with ⟨rfl, hn⟩ | ⟨g, cap, cur, rfl, hbg, hg, hnc, rest⟩
    · refine ⟨.slice none 0 0, w, ?_, by rw [List.append_nil]; exact hown, ⟨rfl, rfl, rfl, Nat.le_refl _, fun _ _ _ => rfl⟩⟩
      simp [Builtin.append_, run_underlying Tryd.underlying26, sizeOf, typeInfo, hi, Builtin.lenOf, Builtin.firstCells, loadCells, loadCellsFrom]
    · refine ⟨.slice (some ⟨g, 0, none⟩) L.length cap, w, ?_, by rw [List.append_nil]; exact hown, ⟨rfl, rfl, rfl, Nat.le_refl _, fun _ _ _ => rfl⟩⟩
      simp [Builtin.append_, run_underlying Tryd.underlying26, sizeOf, typeInfo, hi, Builtin.lenOf, Builtin.firstCells, hnc, storeCells]

theorem wpList_app {ops : Array Oper} {rest : List Oper} {o : Oper} {a : Act} {w : World} {Q : Exit → Act → World → Prop} (hgd : o.guard = none) (s x : Operand)
    (ho : o.op = .call { callee := .builtin .append, args := #[s, x], argTypes := #[26, 26] }) (base : Nat) (v : Value) (L : List UInt8) (hs : a.eval s = v) (hown : OwnB w base v L)
    (aa : Option Addr) (m c : Nat) (M : List UInt8) (hx : a.eval x = .slice aa m c) (hm : M.length = m) (hb : Byt w aa M) (hlen : L.length + M.length ≤ 140737488355328) (hbase : base ≤ w.heap.size)
    (h : ∀ v' w', OwnB w' base v' (L ++ M) → w.grownBy w' v.ownBlock → wpList Tryd.prog ops Q rest (a.put o.dst v') w') : wpList Tryd.prog ops Q (o :: rest) a w :=
  wpList_plain hgd fun _ hK => by
    subst hm
    obtain ⟨v', w', hr, h2, h3⟩ := run_app w base o.type v L aa M c hown hb hlen hbase
    unfold Oper.wp execOp
    simp only [ho, resolve, invoke, builtin, Sem.run_bind, Sem.run_pure, Result.andThen_ok, List.map_toArray, List.map_cons, List.map_nil, hs, hx, hr]
    exact hK _ _ (h v' w' h2 h3)
theorem byt_one (w : World) (b : UInt8) (t : TypeId) : Byt (w.alloc (.cells #[.int .u8 (b.toNat : Int)] t)) (some ⟨w.heap.size, 0, none⟩) [b] :=
  .inr ⟨w.heap.size, 0, rfl, fun j hj => by
    obtain rfl : j = 0 := by simp at hj; omega
    rw [cell_of_row _ w.heap.size 0 _ _ _ (heap_alloc_new _ _)]
    rfl⟩
end Go.Proofs.YtpmdlhlojifoeaaDoor

namespace Go.Proofs.YtpmdlhlojifoeaaDoor
open Go.RowKit
set_option linter.unusedVariables false
set_option linter.unusedSimpArgs false
theorem rot_ro (x : UInt32) (r : Nat) (p q : Int) (h1 : 1 ≤ r) (h : r < 32) (hp : p = ((2 ^ (32 - r) : Nat) : Int)) (hq : q = ((2 ^ r : Nat) : Int)) :
    bits .or .u32 (U x / q) ((U x * p) % 4294967296) = U (rotr x r) := by
  subst hp hq
  rw [U_shl x (32 - r) (by omega), U_shr x r h, bits_or, UInt32.or_comm]
  rfl
set_option maxHeartbeats 400000 in
theorem tur2 (x : UInt32) (w : World) : Calls Tryd.prog 39 #[.int .u32 (U x), .int .i64 2] w fun e w' => e = .returned (.int .u32 (U (rotr x 2))) ∧ ∃ m, w' = w.drewN m := by
  have b0 := U_lo x
  have b1 := U_hi x
  go_enter Tryd.func39, Tryd.ntmps39
  go_wp2
  go_region
  all_goals go_wp2
  all_goals go_ret
  all_goals exact ⟨ret_int (rot_ro x 2 _ _ (by decide) (by decide) rfl rfl), 1, rfl⟩
set_option maxHeartbeats 400000 in
theorem tur6 (x : UInt32) (w : World) : Calls Tryd.prog 39 #[.int .u32 (U x), .int .i64 6] w fun e w' => e = .returned (.int .u32 (U (rotr x 6))) ∧ ∃ m, w' = w.drewN m := by
  have b0 := U_lo x
  have b1 := U_hi x
  go_enter Tryd.func39, Tryd.ntmps39
  go_wp2
  go_region
  all_goals go_wp2
  all_goals go_ret
  all_goals exact ⟨ret_int (rot_ro x 6 _ _ (by decide) (by decide) rfl rfl), 1, rfl⟩
set_option maxHeartbeats 400000 in
theorem tur7 (x : UInt32) (w : World) : Calls Tryd.prog 39 #[.int .u32 (U x), .int .i64 7] w fun e w' => e = .returned (.int .u32 (U (rotr x 7))) ∧ ∃ m, w' = w.drewN m := by
  have b0 := U_lo x
  have b1 := U_hi x
  go_enter Tryd.func39, Tryd.ntmps39
  go_wp2
  go_region
  all_goals go_wp2
  all_goals go_ret
  all_goals exact ⟨ret_int (rot_ro x 7 _ _ (by decide) (by decide) rfl rfl), 1, rfl⟩
set_option maxHeartbeats 400000 in
theorem tur11 (x : UInt32) (w : World) : Calls Tryd.prog 39 #[.int .u32 (U x), .int .i64 11] w fun e w' => e = .returned (.int .u32 (U (rotr x 11))) ∧ ∃ m, w' = w.drewN m := by
  have b0 := U_lo x
  have b1 := U_hi x
  go_enter Tryd.func39, Tryd.ntmps39
  go_wp2
  go_region
  all_goals go_wp2
  all_goals go_ret
  all_goals exact ⟨ret_int (rot_ro x 11 _ _ (by decide) (by decide) rfl rfl), 1, rfl⟩
set_option maxHeartbeats 400000 in
theorem tur13 (x : UInt32) (w : World) : Calls Tryd.prog 39 #[.int .u32 (U x), .int .i64 13] w fun e w' => e = .returned (.int .u32 (U (rotr x 13))) ∧ ∃ m, w' = w.drewN m := by
  have b0 := U_lo x
  have b1 := U_hi x
  go_enter Tryd.func39, Tryd.ntmps39
  go_wp2
  go_region
  all_goals go_wp2
  all_goals go_ret
  all_goals exact ⟨ret_int (rot_ro x 13 _ _ (by decide) (by decide) rfl rfl), 1, rfl⟩
set_option maxHeartbeats 400000 in
theorem tur17 (x : UInt32) (w : World) : Calls Tryd.prog 39 #[.int .u32 (U x), .int .i64 17] w fun e w' => e = .returned (.int .u32 (U (rotr x 17))) ∧ ∃ m, w' = w.drewN m := by
  have b0 := U_lo x
  have b1 := U_hi x
  go_enter Tryd.func39, Tryd.ntmps39
  go_wp2
  go_region
  all_goals go_wp2
  all_goals go_ret
  all_goals exact ⟨ret_int (rot_ro x 17 _ _ (by decide) (by decide) rfl rfl), 1, rfl⟩
set_option maxHeartbeats 400000 in
theorem tur18 (x : UInt32) (w : World) : Calls Tryd.prog 39 #[.int .u32 (U x), .int .i64 18] w fun e w' => e = .returned (.int .u32 (U (rotr x 18))) ∧ ∃ m, w' = w.drewN m := by
  have b0 := U_lo x
  have b1 := U_hi x
  go_enter Tryd.func39, Tryd.ntmps39
  go_wp2
  go_region
  all_goals go_wp2
  all_goals go_ret
  all_goals exact ⟨ret_int (rot_ro x 18 _ _ (by decide) (by decide) rfl rfl), 1, rfl⟩
set_option maxHeartbeats 400000 in
theorem tur19 (x : UInt32) (w : World) : Calls Tryd.prog 39 #[.int .u32 (U x), .int .i64 19] w fun e w' => e = .returned (.int .u32 (U (rotr x 19))) ∧ ∃ m, w' = w.drewN m := by
  have b0 := U_lo x
  have b1 := U_hi x
  go_enter Tryd.func39, Tryd.ntmps39
  go_wp2
  go_region
  all_goals go_wp2
  all_goals go_ret
  all_goals exact ⟨ret_int (rot_ro x 19 _ _ (by decide) (by decide) rfl rfl), 1, rfl⟩
set_option maxHeartbeats 400000 in
theorem tur22 (x : UInt32) (w : World) : Calls Tryd.prog 39 #[.int .u32 (U x), .int .i64 22] w fun e w' => e = .returned (.int .u32 (U (rotr x 22))) ∧ ∃ m, w' = w.drewN m := by
  have b0 := U_lo x
  have b1 := U_hi x
  go_enter Tryd.func39, Tryd.ntmps39
  go_wp2
  go_region
  all_goals go_wp2
  all_goals go_ret
  all_goals exact ⟨ret_int (rot_ro x 22 _ _ (by decide) (by decide) rfl rfl), 1, rfl⟩
set_option maxHeartbeats 400000 in
theorem tur25 (x : UInt32) (w : World) : Calls Tryd.prog 39 #[.int .u32 (U x), .int .i64 25] w fun e w' => e = .returned (.int .u32 (U (rotr x 25))) ∧ ∃ m, w' = w.drewN m := by
  have b0 := U_lo x
  have b1 := U_hi x
  go_enter Tryd.func39, Tryd.ntmps39
  go_wp2
  go_region
  all_goals go_wp2
  all_goals go_ret
  all_goals exact ⟨ret_int (rot_ro x 25 _ _ (by decide) (by decide) rfl rfl), 1, rfl⟩
end Go.Proofs.YtpmdlhlojifoeaaDoor

namespace Go.Proofs.YtpmdlhlojifoeaaDoor
open Go.RowKit
set_option linter.unusedVariables false
set_option linter.unusedSimpArgs false
attribute [local go_sem] bits_xor bits_or bits_and U_add U_addw shl24 shl16 shl8 shl24w shl16w shl8w shr3 shr10 at8_b4 at8_b4w

theorem res38 (tmps : Array Value) (w : World) (g : Nat) (t : TypeId) (l : List UInt32) (hl : l.length = 64) (fr : Nat × Nat) (hp : tmps.getD 2 undef = .pointer (some ⟨g, 0, none⟩)) (hg : w.heap[g]? = some (.cells (ws l) t fr)) :
    (results Tryd.f38 tmps).run Tryd.prog w = .ok (.agg (ws l)) w :=
  results_cell_row Tryd.results38 tmps w g t (ws l) fr _ hp hg Tryd.underlying67 rfl (by rw [ws_size, hl]; exact hs67)

set_option maxHeartbeats 4000000 in
theorem words_any (b off cap : Nat) (l : List UInt8) (w : World) (hl : l.length = 64) (hc : ∀ j, j < 64 → w.cell? ⟨b, off + j, none⟩ = some (.int .u8 (at8 l j))) :
    Calls Tryd.prog 38 #[.slice (some ⟨b, off, none⟩) 64 cap] w fun e w' => e = .returned (.agg (ws (schTo l 64))) ∧ Below w.heap.size w w' := by
  have hbb : b < w.heap.size := block_lt_of_cell (hc 0 (by omega))
  go_enter Tryd.func38, Tryd.ntmps38
  go_wp2_with (first | (refine wpList_alloc_row rfl 67 rfl (ws (pad64 [])) (hz67 _) ?_))
  go_loopw [4] (fun i wr => ∃ k : Nat, k ≤ 16 ∧ i = .int .i64 k ∧ wr.heap[w.heap.size + 1]? = some (.cells (ws (pad64 (schTo l k))) 67 (0, 0)) ∧ wr.heap[w.heap.size]? = some (.cells (ws (pad64 [])) 67 (0, 0)) ∧ Below w.heap.size w wr) (fun i _ => 16 - (intOf i).toNat)
  case atStart => exact ⟨0, by omega, rfl, heap_alloc2_new _ _ _, heap_alloc2_old _ _ _, ((Below.refl _ _).alloc (Nat.le_refl _) _).alloc (by simp) _⟩
  case round =>
    obtain ⟨k, hk, rfl, hb1, hb0, hbel⟩ := hrel
    have hlt : w.heap.size + 1 < wr.heap.size := (Array.getElem?_eq_some_iff.1 hb1).1
    by_cases h1 : k < 16
    · have d0 := (hbel.cell (p := ⟨b, off + 4 * k, none⟩) hbb).trans (hc (4 * k) (by omega))
      have d1 := (hbel.cell (p := ⟨b, off + (4 * k + 1), none⟩) hbb).trans (hc (4 * k + 1) (by omega))
      have d2 := (hbel.cell (p := ⟨b, off + (4 * k + 2), none⟩) hbb).trans (hc (4 * k + 2) (by omega))
      have d3 := (hbel.cell (p := ⟨b, off + (4 * k + 3), none⟩) hbb).trans (hc (4 * k + 3) (by omega))
      have hcl := (cell_of_row wr (w.heap.size + 1) k _ _ _ hb1).trans (ws_get _ k (by rw [pad_len _ (by rw [schTo_len]; omega)]; omega))
      have hf := frozen_of_row wr (w.heap.size + 1) k _ _ hb1
      go_wp2
      go_region
      all_goals
        go_wp2
        go_roundw
        case rel =>
          refine ⟨k + 1, by omega, by go_num, ?_, ?_, (hbel.setCell (by simp) _).drew⟩
          · show (wr.setCell _ _).heap[_]? = _
            rw [heap_setCell_same wr (w.heap.size + 1) k _ 67 _ hb1, ws_set]
            have e := pad_set (schTo l k) (word l k) (by rw [schTo_len]; omega)
            rw [schTo_len] at e
            have e2 : schTo l (k + 1) = schTo l k ++ [word l k] := by simp [schTo, h1]
            rw [e2, ← e]
            rfl
          · show (wr.setCell _ _).heap[_]? = _
            rw [heap_setCell_other _ _ _ _ (by simp)]; exact hb0
        case measure => simp [intOf]; omega
    · have hk2 : k = 16 := by omega
      subst hk2
      clear h1 hk
      simp only [Int.cast_ofNat_Int]
      go_wp2
      go_loopw [5, 6, 7, 8, 9] (fun i _ _ _ _ wq => ∃ k : Nat, 16 ≤ k ∧ k ≤ 64 ∧ i = .int .i64 k ∧ wq.heap[w.heap.size + 1]? = some (.cells (ws (pad64 (schTo l k))) 67 (0, 0)) ∧ wq.heap[w.heap.size]? = some (.cells (ws (pad64 [])) 67 (0, 0)) ∧ Below w.heap.size w wq) (fun i _ _ _ _ _ => 64 - (intOf i).toNat)
      case atStart => exact ⟨16, by omega, by omega, rfl, hb1, hb0, hbel⟩
      case round =>
        clear hb1 hb0 hbel hlt
        obtain ⟨k, hk0, hk, rfl, hb1, hb0, hbel⟩ := hrel
        have hlt : w.heap.size + 1 < wr.heap.size := (Array.getElem?_eq_some_iff.1 hb1).1
        by_cases h1 : k < 64
        · have hL : (pad64 (schTo l k)).length = 64 := pad_len _ (by rw [schTo_len]; omega)
          have gc : ∀ j, j < k → wr.cell? ⟨w.heap.size + 1, j, none⟩ = some (.int .u32 (U ((schTo l k).getD j 0))) := fun j hj => by
            rw [← pad_get _ j (by rw [schTo_len]; omega)]
            exact (cell_of_row wr (w.heap.size + 1) j _ _ _ hb1).trans (ws_get _ j (by omega))
          have d15 := gc (k - 15) (by omega)
          have d2 := gc (k - 2) (by omega)
          have d7 := gc (k - 7) (by omega)
          have d16 := gc (k - 16) (by omega)
          have hcl := (cell_of_row wr (w.heap.size + 1) k _ _ _ hb1).trans (ws_get _ k (by omega))
          have hf := frozen_of_row wr (w.heap.size + 1) k _ _ hb1
          have E : Hid (nextW (schTo l k) k = sig1 ((schTo l k).getD (k - 2) 0) + (schTo l k).getD (k - 7) 0 + sig0 ((schTo l k).getD (k - 15) 0) + (schTo l k).getD (k - 16) 0) := rfl
          generalize (schTo l k).getD (k - 2) 0 = y2 at E d2
          generalize (schTo l k).getD (k - 7) 0 = y7 at E d7
          generalize (schTo l k).getD (k - 15) 0 = y15 at E d15
          generalize (schTo l k).getD (k - 16) 0 = y16 at E d16
          clear gc hL
          have bk : (0 : Int) ≤ (k : Int) - 16 := by omega
          go_wp2_with fail
          refine (tur7 _ _).mono ?_
          rintro e w' ⟨rfl, n7, rfl⟩
          go_wp2_with fail
          refine (tur18 _ _).mono ?_
          rintro e w' ⟨rfl, n18, rfl⟩
          go_wp2_with fail
          refine (tur17 _ _).mono ?_
          rintro e w' ⟨rfl, n17, rfl⟩
          go_wp2_with fail
          refine (tur19 _ _).mono ?_
          rintro e w' ⟨rfl, n19, rfl⟩
          go_wp2
          go_region
          all_goals
            go_wp2
            go_roundw
            case rel =>
              refine ⟨k + 1, by omega, by omega, by go_num, ?_, ?_, (below_drewN hbel _).setCell (by simp) _⟩
              · show (wr.setCell _ _).heap[_]? = _
                rw [heap_setCell_same wr (w.heap.size + 1) k _ 67 _ hb1, ws_set]
                have e := pad_set (schTo l k) (nextW (schTo l k) k) (by rw [schTo_len]; omega)
                rw [schTo_len] at e
                have e2 : schTo l (k + 1) = schTo l k ++ [nextW (schTo l k) k] := by simp [schTo, show ¬ k < 16 by omega]
                rw [e2, ← e, E.out]
                rfl
              · show (wr.setCell _ _).heap[_]? = _
                rw [heap_setCell_other _ _ _ _ (by simp)]; exact hb0
            case measure => simp [intOf]; omega
        · have hk2 : k = 64 := by omega
          subst hk2
          have hfull : pad64 (schTo l 64) = schTo l 64 := pad_full _ (schTo_len _ _)
          rw [hfull] at hb1
          clear hfull
          go_wp2_with (first | (refine wpList_load_arr rfl 67 _ rfl (w.heap.size + 1) rfl 67 (ws (schTo l 64)) (0, 0) _ hb1 Tryd.underlying67 rfl (by rw [ws_size, schTo_len]; exact hs67) ?_) | (refine wpList_store_row rfl 67 _ _ rfl w.heap.size (ws (schTo l 64)) rfl rfl 67 (ws (pad64 [])) hb0 (by rw [ws_size, schTo_len]; exact hs67) (by rw [ws_size, ws_size, schTo_len]; rfl) (ws_one _) ?_))
          exact bodyPost_ret (res38 _ _ w.heap.size 67 (schTo l 64) (schTo_len _ _) (0, 0) rfl (setRow_heap _ _ _ _ _ _ hb0)) rfl ⟨rfl, hbel.trans (below_setRow _ _ _ _ (Nat.le_refl _))⟩
end Go.Proofs.YtpmdlhlojifoeaaDoor

namespace Go.Proofs.YtpmdlhlojifoeaaDoor
open Go.RowKit
set_option linter.unusedVariables false
set_option linter.unusedSimpArgs false

/-- The table of the document's answer. -/
def RoundsAt (w : World) : Prop := ∀ j, j < 64 → w.cell? ⟨3, j, none⟩ = some (.int .u32 (U (keys.getD j 0)))

attribute [local go_sem] bits_xor bits_or bits_and U_add U_addw xor_max

theorem res32 (tmps : Array Value) (w : World) (g : Nat) (t : TypeId) (l : List UInt32) (hl : l.length = 8) (fr : Nat × Nat) (hp : tmps.getD 4 undef = .pointer (some ⟨g, 0, none⟩)) (hg : w.heap[g]? = some (.cells (ws l) t fr)) :
    (results Tryd.f32 tmps).run Tryd.prog w = .ok (.agg (ws l)) w :=
  results_cell_row Tryd.results32 tmps w g t (ws l) fr _ hp hg Tryd.underlying58 rfl (by rw [ws_size, hl]; exact hs58)
theorem tOne_eq (e f g h k w : UInt32) : tOne e f g h k w = h + (rotr e 6 ^^^ rotr e 11 ^^^ rotr e 25) + (e &&& f ||| (e ^^^ 0xffffffff) &&& g) + k + w := rfl
theorem tTwo_eq (a b c : UInt32) : tTwo a b c = (rotr a 2 ^^^ rotr a 13 ^^^ rotr a 22) + (a &&& b ||| a &&& c ||| b &&& c) := rfl

set_option maxRecDepth 100000 in
set_option maxHeartbeats 4000000 in
theorem rmixed_any (s : S8) (b off cap : Nat) (l : List UInt8) (w : World) (hl : l.length = 64) (hc : ∀ j, j < 64 → w.cell? ⟨b, off + j, none⟩ = some (.int .u8 (at8 l j))) (hK : RoundsAt w) :
    Calls Tryd.prog 32 #[.agg (ws s.list), .slice (some ⟨b, off, none⟩) 64 cap] w fun e w' => e = .returned (.agg (ws (s.mix l).list)) ∧ Below w.heap.size w w' := by
  have hbb : b < w.heap.size := block_lt_of_cell (hc 0 (by omega))
  go_enter Tryd.func32, Tryd.ntmps32
  go_wp2_with (first | (refine wpList_alloc_row rfl 58 rfl (ws z8) (hz58 _) ?_))
  have bel0 : Below w.heap.size w ((w.alloc (Obj.cells (ws s.list) 58)).alloc (Obj.cells (ws z8) 58)) :=
    ((Below.refl _ _).alloc (Nat.le_refl _) _).alloc (by simp) _
  have g0 : ((w.alloc (Obj.cells (ws s.list) 58)).alloc (Obj.cells (ws z8) 58)).heap[w.heap.size]? = some (.cells (ws s.list) 58 (0, 0)) := heap_alloc2_old _ _ _
  have g1 : ((w.alloc (Obj.cells (ws s.list) 58)).alloc (Obj.cells (ws z8) 58)).heap[w.heap.size + 1]? = some (.cells (ws z8) 58 (0, 0)) := heap_alloc2_new _ _ _
  generalize ((w.alloc (Obj.cells (ws s.list) 58)).alloc (Obj.cells (ws z8) 58)) = W0 at *
  refine (words_any b off cap l W0 hl (fun j hj => (bel0.cell (p := ⟨b, off + j, none⟩) hbb).trans (hc j hj))).mono ?_
  rintro e w1 ⟨rfl, hb1⟩
  have z1 : w.heap.size + 1 < W0.heap.size := (Array.getElem?_eq_some_iff.1 g1).1
  have z2 : W0.heap.size ≤ w1.heap.size := hb1.size
  have LW := schTo_len l 64
  have EM : Hid (s.mix l = s.plus (s.run (schTo l 64) 64)) := rfl
  generalize schTo l 64 = W at *
  have zz : (ws (pad64 [])).size = (ws W).size := by rw [ws_size, ws_size, LW]; rfl
  have zs : (Tryd.prog.info? 67).map (·.size) = some (ws W).size := by rw [ws_size, LW]; exact hs67
  go_wp2_with (first | (refine wpList_alloc_row rfl 67 rfl (ws (pad64 [])) (hz67 _) ?_) | (refine wpList_store_row rfl 67 _ _ rfl w1.heap.size (ws W) rfl rfl 67 (ws (pad64 [])) (heap_alloc_new _ _) zs zz (ws_one _) ?_))
  have bel1 : Below w1.heap.size w1 ((w1.alloc (Obj.cells (ws (pad64 [])) 67)).setRow w1.heap.size (ws W)) := ((Below.refl _ _).alloc (Nat.le_refl _) _).trans (below_setRow _ _ _ _ (Nat.le_refl _))
  have g2 : ((w1.alloc (Obj.cells (ws (pad64 [])) 67)).setRow w1.heap.size (ws W)).heap[w1.heap.size]? = some (.cells (ws W) 67 (0, 0)) := setRow_heap _ _ _ _ _ _ (heap_alloc_new _ _)
  generalize ((w1.alloc (Obj.cells (ws (pad64 [])) 67)).setRow w1.heap.size (ws W)) = w2 at *
  have z3 : w1.heap.size < w2.heap.size := (Array.getElem?_eq_some_iff.1 g2).1
  have h0 : w2.heap[w.heap.size]? = some (.cells (ws s.list) 58 (0, 0)) := by rw [bel1.block _ (by omega), hb1.block _ (by omega)]; exact g0
  have h1 : w2.heap[w.heap.size + 1]? = some (.cells (ws z8) 58 (0, 0)) := by rw [bel1.block _ (by omega), hb1.block _ (by omega)]; exact g1
  have bel2 : Below w.heap.size w w2 := (bel0.trans (hb1.mono (by omega))).trans (bel1.mono (by omega))
  have hK1 : RoundsAt w2 := fun j hj => (bel2.cell (p := ⟨3, j, none⟩) (block_lt_of_cell (hK j hj))).trans (hK j hj)
  have hW2 : ∀ k, k < 64 → w2.cell? ⟨w1.heap.size, k, none⟩ = some (.int .u32 (U (W.getD k 0))) := fun k hk => (cell_of_row w2 w1.heap.size k _ _ _ g2).trans (ws_get W k (by omega))
  clear g0 g1 g2 bel0 bel1 hb1 hK zz zs
  have cel : ∀ j v, (ws s.list)[j]? = some v → w2.cell? ⟨w.heap.size, j, none⟩ = some v := fun j v hv => (cell_of_row w2 w.heap.size j _ _ _ h0).trans hv
  have y0 := cel 0 (.int .u32 (U s.a)) rfl
  have y1 := cel 1 (.int .u32 (U s.b)) rfl
  have y2 := cel 2 (.int .u32 (U s.c)) rfl
  have y3 := cel 3 (.int .u32 (U s.d)) rfl
  have y4 := cel 4 (.int .u32 (U s.e)) rfl
  have y5 := cel 5 (.int .u32 (U s.f)) rfl
  have y6 := cel 6 (.int .u32 (U s.g)) rfl
  have y7 := cel 7 (.int .u32 (U s.h)) rfl
  clear cel
  go_quiet (fail)
  go_wp2
  go_loopw [6, 7, 8, 9, 10, 11, 12, 13, 14, 15, 16] (fun a b c d e f g h i _ _ wr => ∃ k : Nat, k ≤ 64 ∧ i = .int .i64 k ∧ a = .int .u32 (U (s.run W k).a) ∧ b = .int .u32 (U (s.run W k).b) ∧ c = .int .u32 (U (s.run W k).c) ∧ d = .int .u32 (U (s.run W k).d) ∧ e = .int .u32 (U (s.run W k).e) ∧ f = .int .u32 (U (s.run W k).f) ∧ g = .int .u32 (U (s.run W k).g) ∧ h = .int .u32 (U (s.run W k).h) ∧ Below w2.heap.size w2 wr) (fun _ _ _ _ _ _ _ _ i _ _ _ => 64 - (intOf i).toNat)
  case atStart => exact ⟨0, by omega, rfl, rfl, rfl, rfl, rfl, rfl, rfl, rfl, rfl, below_drewN (Below.refl _ _) _⟩
  case round =>
    obtain ⟨k, hk, rfl, rfl, rfl, rfl, rfl, rfl, rfl, rfl, rfl, hsame⟩ := hrel
    by_cases hlt : k < 64
    · have wc := (hsame.cell (p := ⟨w1.heap.size, k, none⟩) z3).trans (hW2 k hlt)
      have kc := (hsame.cell (p := ⟨3, k, none⟩) (block_lt_of_cell (hK1 k hlt))).trans (hK1 k hlt)
      have ER : Hid (s.run W (k + 1) = (s.run W k).step (keys.getD k 0) (W.getD k 0)) := rfl
      clear hW2 hK1 y0 y1 y2 y3 y4 y5 y6 y7
      generalize s.run W k = r at *
      generalize keys.getD k 0 = kk at *
      generalize W.getD k 0 = ww at *
      have hlt2 : (k : Int) < 64 := by omega
      have sg : IntKind.u32.signed = false := rfl
      go_wp2
      go_quiet (first
        | (go_at_call_of 39 (Value.int .i64 6); exact Calls.quiet_of (tur6 _ _))
        | (go_at_call_of 39 (Value.int .i64 11); exact Calls.quiet_of (tur11 _ _))
        | (go_at_call_of 39 (Value.int .i64 25); exact Calls.quiet_of (tur25 _ _)))
      go_wp2_with fail
      refine (tur2 _ _).mono ?_
      rintro e w' ⟨rfl, n2, rfl⟩
      go_wp2_with fail
      refine (tur13 _ _).mono ?_
      rintro e w' ⟨rfl, n13, rfl⟩
      go_wp2_with fail
      refine (tur22 _ _).mono ?_
      rintro e w' ⟨rfl, n22, rfl⟩
      go_wp2
      go_roundw
      case rel => exact ⟨k + 1, by omega, by go_num, by rw [ER.out]; rfl, by rw [ER.out]; rfl, by rw [ER.out]; rfl, by rw [ER.out]; rfl, by rw [ER.out]; rfl, by rw [ER.out]; rfl, by rw [ER.out]; rfl, by rw [ER.out]; rfl, below_drewN hsame _⟩
      case measure => simp [intOf]; omega
    · have hk2 : k = 64 := by omega
      subst hk2
      clear hW2 hK1
      have q0 := (hsame.cell (p := ⟨w.heap.size, 0, none⟩) (show w.heap.size < _ by omega)).trans y0
      have q1 := (hsame.cell (p := ⟨w.heap.size, 1, none⟩) (show w.heap.size < _ by omega)).trans y1
      have q2 := (hsame.cell (p := ⟨w.heap.size, 2, none⟩) (show w.heap.size < _ by omega)).trans y2
      have q3 := (hsame.cell (p := ⟨w.heap.size, 3, none⟩) (show w.heap.size < _ by omega)).trans y3
      have q4 := (hsame.cell (p := ⟨w.heap.size, 4, none⟩) (show w.heap.size < _ by omega)).trans y4
      have q5 := (hsame.cell (p := ⟨w.heap.size, 5, none⟩) (show w.heap.size < _ by omega)).trans y5
      have q6 := (hsame.cell (p := ⟨w.heap.size, 6, none⟩) (show w.heap.size < _ by omega)).trans y6
      have q7 := (hsame.cell (p := ⟨w.heap.size, 7, none⟩) (show w.heap.size < _ by omega)).trans y7
      clear y0 y1 y2 y3 y4 y5 y6 y7
      have h1' : wr.heap[w.heap.size + 1]? = some (.cells (ws z8) 58 (0, 0)) := by rw [hsame.block _ (by omega)]; exact h1
      generalize s.run W 64 = r at *
      go_wp2_with (first | (refine wpList_store_row rfl 58 (.tmp 4) (.tmp 130) rfl (w.heap.size + 1) #[.int .u32 (U (s.a + r.a)), .int .u32 (U (s.b + r.b)), .int .u32 (U (s.c + r.c)), .int .u32 (U (s.d + r.d)), .int .u32 (U (s.e + r.e)), .int .u32 (U (s.f + r.f)), .int .u32 (U (s.g + r.g)), .int .u32 (U (s.h + r.h))] rfl rfl 58 (ws z8) h1' hs58 hz8s (one8 _ _ _ _ _ _ _ _) ?_; rw [lit8]))
      have EM2 : Hid ((s.mix l).list = [s.a + r.a, s.b + r.b, s.c + r.c, s.d + r.d, s.e + r.e, s.f + r.f, s.g + r.g, s.h + r.h]) := by rw [EM.out]; rfl
      refine bodyPost_ret (res32 _ _ (w.heap.size + 1) 58 [s.a + r.a, s.b + r.b, s.c + r.c, s.d + r.d, s.e + r.e, s.f + r.f, s.g + r.g, s.h + r.h] rfl (0, 0) rfl (setRow_heap _ _ _ _ _ _ h1')) rfl ⟨by rw [EM2.out], (bel2.trans (hsame.mono (by omega))).trans (below_setRow _ _ _ _ (by omega))⟩
end Go.Proofs.YtpmdlhlojifoeaaDoor

