import Derived.Test.YtmmdbilfjgmdhaaDg
import Derived.Test.YtmmdbilfjgmdhaaOw
namespace Go.Proofs.Ytmmdbilfjgmdhaa
open Go.RowKit
set_option linter.unusedVariables false
set_option linter.unusedSimpArgs false

/-- The hash of which k digits are read. -/
def halfB (l : List UInt8) (k i : Nat) : UInt8 := if 2 * i + 1 < k then two l i else if 2 * i < k then UInt8.ofNat (dgVal (at8 l (2 * i))).toNat else 0
def half (l : List UInt8) (k : Nat) : List UInt8 := (List.range 32).map (halfB l k)
theorem half_len (l : List UInt8) (k : Nat) : (half l k).length = 32 := by simp [half]
theorem half_zero (l : List UInt8) : half l 0 = z32 := by simp [half, halfB, z32]; rfl
theorem half_all (l : List UInt8) : half l 64 = unTo l 32 := by
  unfold half unTo
  apply List.map_congr_left
  intro i hi
  have : i < 32 := by simpa using hi
  unfold halfB
  rw [if_pos (by omega), if_pos this]
theorem half_at (l : List UInt8) (k i : Nat) (hi : i < 32) : at8 (half l k) i = ((halfB l k i).toNat : Int) := by
  simp [at8, half, hi]
theorem half_succ (l : List UInt8) (k : Nat) (hk : k < 64) : (half l k).set (k / 2) (halfB l (k + 1) (k / 2)) = half l (k + 1) := by
  apply List.ext_getElem
  · simp [half]
  · intro i h1 h2
    have hi : i < 32 := by simpa [half] using h2
    simp only [half, List.getElem_set, List.getElem_map, List.getElem_range]
    by_cases e : k / 2 = i
    · subst e; simp
    · rw [if_neg e]
      unfold halfB
      have e1 : (2 * i + 1 < k) = (2 * i + 1 < k + 1) := by apply propext; omega
      have e2 : (2 * i < k) = (2 * i < k + 1) := by apply propext; omega
      simp only [e1, e2]

/-- What UnHex answers. -/
def unAns (s : ByteArray) : Value := .tuple (if good s.data.toList = 64 ∧ s.size = 64 then #[.agg (bs (unTo s.data.toList 32)), .int .i64 0, .int .i64 0] else #[.agg (bs z32), .int .i64 10, .int .i64 (good s.data.toList)])
theorem unAns_no {s : ByteArray} {k : Nat} (h : ¬ (good s.data.toList = 64 ∧ s.size = 64)) (hg : good s.data.toList = k) : unAns s = .tuple #[.agg (bs z32), .int .i64 10, .int .i64 (k : Int)] := by
  unfold unAns; rw [if_neg h, hg]
theorem unAns_yes {s : ByteArray} (h : good s.data.toList = 64 ∧ s.size = 64) : unAns s = .tuple #[.agg (bs (unTo s.data.toList 32)), .int .i64 0, .int .i64 0] := by
  unfold unAns; rw [if_pos h]
theorem ret_val {a b : Value} (h : a = b) : Ending.returned a = .returned b := by rw [h]
theorem res6 (tmps : Array Value) (w : World) (g : Nat) (t : TypeId) (l : List UInt8) (hl : l.length = 32) (fr : Nat × Nat) (a b : Value) (hp : tmps[2]?.getD undef = .pointer (some ⟨g, 0, none⟩))
    (h3 : tmps[3]?.getD undef = a) (h4 : tmps[4]?.getD undef = b) (hg : w.heap[g]? = some (.cells (bs l) t fr)) :
    (results Try.f6 tmps).run Try.prog w = .ok (.tuple #[.agg (bs l), a, b]) w := by
  simp [results, Try.results6, hp, h3, h4, asAddr, load23 w g t l hl fr hg]
theorem or0 : ∀ v, v < 16 → bits .or .u8 0 ((v : Nat) : Int) = (v : Int) := by decide +kernel
theorem half_or (l : List UInt8) (k : Nat) (hk : k < 64) (hd : ∀ j, j ≤ k → isDg (at8 l j) = true) : bits .or .u8 (at8 (half l k) (k / 2) * 16 % 256) (dgVal (at8 l k)) = ((halfB l (k + 1) (k / 2)).toNat : Int) := by
  have hd1 := dgVal_digit (hd k (Nat.le_refl _))
  rw [half_at _ _ _ (by omega)]
  by_cases hp : k % 2 = 0
  · have e0 : halfB l k (k / 2) = 0 := by unfold halfB; rw [if_neg (by omega), if_neg (by omega)]
    have e1 : halfB l (k + 1) (k / 2) = UInt8.ofNat (dgVal (at8 l k)).toNat := by unfold halfB; rw [if_neg (by omega), if_pos (by omega), show 2 * (k / 2) = k by omega]
    rw [e0, e1, UInt8.toNat_ofNat']
    have := or0 (dgVal (at8 l k)).toNat (by omega)
    rw [show (((dgVal (at8 l k)).toNat : Nat) : Int) = dgVal (at8 l k) by omega] at this
    show bits .or .u8 0 (dgVal (at8 l k)) = _
    rw [this]
    omega
  · have h2 : 2 * (k / 2) + 1 = k := by omega
    have hd0 := dgVal_digit (hd (2 * (k / 2)) (by omega))
    have e0 : halfB l k (k / 2) = UInt8.ofNat (dgVal (at8 l (2 * (k / 2)))).toNat := by unfold halfB; rw [if_neg (by omega), if_pos (by omega)]
    have e1 : halfB l (k + 1) (k / 2) = two l (k / 2) := by unfold halfB; rw [if_pos (by omega)]
    have ht := two_or l (k / 2) hd0.1 hd0.2 (by rw [h2]; exact hd1.1) (by rw [h2]; exact hd1.2)
    rw [h2] at ht
    rw [e0, e1, UInt8.toNat_ofNat', ← ht]
    congr 1
    omega
set_option maxRecDepth 100000 in
set_option maxHeartbeats 2000000 in
theorem runhex_any (s : ByteArray) (w : World) (hs : s.size ≤ maxLen) :
    Calls Try.prog 6 #[.string s] w fun e w' => e = .returned (unAns s) ∧ Below w.heap.size w w' := by
  have hln : s.data.toList.length = s.size := by rw [Array.length_toList]; rfl
  have HS : Hid (s.size ≤ maxLen) := hs
  clear hs
  go_enter Try.func6, Try.ntmps6
  go_wp2_with (first | (refine wpList_alloc_row rfl 23 rfl (bs z32) (hz23 _) ?_) | fail)
  go_loopw [6] (fun i wr => ∃ k : Nat, k ≤ 64 ∧ k ≤ s.size ∧ i = .int .i64 k ∧ Hid (∀ j, j < k → isDg (at8 s.data.toList j) = true) ∧ wr.heap[w.heap.size + 1]? = some (.cells (bs (half s.data.toList k)) 23 (0, 0)) ∧ wr.heap[w.heap.size]? = some (.cells (bs z32) 23 (0, 0)) ∧ Below w.heap.size w wr) (fun i _ => 64 - (intOf i).toNat)
  case atStart => exact ⟨0, by omega, by omega, rfl, (fun j hj => by omega : ∀ j, j < 0 → isDg (at8 s.data.toList j) = true), by rw [half_zero]; exact heap_alloc2_new _ _ _, heap_alloc2_old _ _ _, ((Below.refl _ _).alloc (Nat.le_refl _) _).alloc (by simp) _⟩
  case round =>
    obtain ⟨k, hk, hks, rfl, hdig, hb1, hb0, hbel⟩ := hrel
    have hz : (bs z32).size = 32 := by rw [bs_size]; rfl
    have hlt1 : w.heap.size + 1 < wr.heap.size := (Array.getElem?_eq_some_iff.1 hb1).1
    by_cases hk64 : k < 64
    · have hk64' : (k : Int) < 64 := by omega
      by_cases hend : s.size ≤ k
      · have hend' : (s.size : Int) ≤ (k : Int) := by omega
        have HG : Hid (good s.data.toList = k) := goodOf_eq 64 _ k (by omega) (by omega) hdig.out (.inr (.inl (by omega)))
        have HN : Hid (¬ (good s.data.toList = 64 ∧ s.size = 64)) := (by have := HG.out; intro h; omega : ¬ (good s.data.toList = 64 ∧ s.size = 64))
        have HU : Hid (unAns s = .tuple #[.agg (bs z32), .int .i64 10, .int .i64 (k : Int)]) := unAns_no HN.out HG.out
        go_wp2_with (first | (refine wpList_build_row rfl 23 rfl (bs z32) hb23 ?_) | (refine wpList_store_row rfl 23 _ _ rfl w.heap.size (bs z32) rfl rfl 23 (bs z32) hb0 (by rw [hz]; exact hs23) rfl (bs_one _) ?_) | fail)
        exact bodyPost_ret (res6 _ _ w.heap.size 23 z32 rfl (0, 0) _ _ rfl rfl rfl (setRow_heap _ _ _ _ _ _ hb0)) rfl ⟨ret_val HU.out.symm, hbel.trans (below_setRow _ _ _ _ (Nat.le_refl _))⟩
      · have hend' : ¬ (s.size : Int) ≤ (k : Int) := by omega
        have hix := fun wx => index_str s k wx (by omega)
        have b1 := at8_lo s.data.toList k
        have b2 := at8_hi s.data.toList k
        have HD1 : Hid (∀ wx, Calls Try.prog 15 #[.int .u8 (at8 s.data.toList k)] wx fun e w' => e = .returned (.int .i64 (dgNo (at8 s.data.toList k))) ∧ w' = wx) := fun wx => digit_any _ wx b1 b2
        by_cases hdg : isDg (at8 s.data.toList k) = true
        · have hv := dgVal_digit hdg
          have hno : dgNo (at8 s.data.toList k) = dgVal (at8 s.data.toList k) := by unfold dgNo; rw [if_pos hdg]
          rw [hno] at HD1
          obtain ⟨v, hvv⟩ : ∃ v, v = dgVal (at8 s.data.toList k) := ⟨_, rfl⟩
          have HA : Hid (bits .or .u8 (at8 (half s.data.toList k) (k / 2) * 16 % 256) v = ((halfB s.data.toList (k + 1) (k / 2)).toNat : Int)) := (by
            rw [hvv]
            exact half_or _ k hk64 (fun j hj => by
              by_cases e : j = k
              · subst e; exact hdg
              · exact hdig.out j (by omega)))
          rw [← hvv] at HD1 hv
          clear hvv hno
          obtain ⟨v0, v1⟩ := hv
          have hnn : ¬ v < 0 := by omega
          obtain ⟨q, hq⟩ : ∃ q, q = k / 2 := ⟨_, rfl⟩
          have hq32 : q < 32 := by omega
          have hqI : (k : Int).tdiv 2 = (q : Int) := by rw [Int.tdiv_eq_ediv_of_nonneg (by omega), hq]; omega
          have hqE : (k : Int) / 2 = (q : Int) := by rw [hq]; omega
          rw [← hq] at HA
          have HSu : Hid ((half s.data.toList k).set q (halfB s.data.toList (k + 1) q) = half s.data.toList (k + 1)) := (by rw [hq]; exact half_succ _ k hk64)
          have HDD : Hid (∀ j, j < k + 1 → isDg (at8 s.data.toList j) = true) := fun j hj => (by
            by_cases e : j = k
            · subst e; exact hdg
            · exact hdig.out j (by omega))
          have hc := (cell_of_row wr (w.heap.size + 1) q _ _ _ hb1).trans (bs_get _ q (by rw [half_len]; omega))
          have hf := frozen_of_row wr (w.heap.size + 1) q _ _ hb1
          have wq : IntKind.i64.wrap (q : Int) = q := by simp only [IntKind.wrap, IntKind.bits, IntKind.signed]; simp; omega
          have wv : IntKind.u8.wrap v = v := by simp only [IntKind.wrap, IntKind.bits, IntKind.signed]; simp; omega
          obtain ⟨c, hcc⟩ : ∃ c, c = at8 (half s.data.toList k) q := ⟨_, rfl⟩
          rw [← hcc] at hc HA
          clear hcc hq
          go_wp2_with (first | (go_at_call 15; refine (HD1.out _).mono ?_; rintro e w' ⟨rfl, hw'⟩; subst hw') | fail)
          go_region_with (go_at_call 15; refine (HD1.out _).mono ?_; rintro e w' ⟨rfl, rfl⟩)
          all_goals go_wp2
          all_goals refine ⟨⟨k + 1, by omega, by omega, by go_num, HDD, ?_, ?_, ?_⟩, by simp [intOf]; omega⟩
          all_goals first
            | exact (hbel.setCell (by simp) _).drew
            | exact hbel.setCell (by simp) _
            | (show (World.setCell _ _ _).heap[w.heap.size + 1]? = _; rw [HA.out, ← HSu.out, ← bs_set]; exact heap_setCell_same _ (w.heap.size + 1) q _ 23 _ hb1)
            | (show (World.setCell _ _ _).heap[w.heap.size]? = _; rw [heap_setCell_other _ _ _ _ (by simp)]; exact hb0)
        · have hno : dgNo (at8 s.data.toList k) = -1 := by unfold dgNo; rw [if_neg hdg]
          rw [hno] at HD1
          have HG : Hid (good s.data.toList = k) := goodOf_eq 64 _ k (by omega) (by omega) hdig.out (.inr (.inr (by simpa using hdg)))
          have HN : Hid (¬ (good s.data.toList = 64 ∧ s.size = 64)) := (by have := HG.out; intro h; omega : ¬ (good s.data.toList = 64 ∧ s.size = 64))
          have HU : Hid (unAns s = .tuple #[.agg (bs z32), .int .i64 10, .int .i64 (k : Int)]) := unAns_no HN.out HG.out
          clear hno
          go_wp2_with (first | (go_at_call 15; refine (HD1.out _).mono ?_; rintro e w' ⟨rfl, hw'⟩; subst hw') | (refine wpList_build_row rfl 23 rfl (bs z32) hb23 ?_) | (refine wpList_store_row rfl 23 _ _ rfl w.heap.size (bs z32) rfl rfl 23 (bs z32) hb0 (by rw [hz]; exact hs23) rfl (bs_one _) ?_) | fail)
          exact bodyPost_ret (res6 _ _ w.heap.size 23 z32 rfl (0, 0) _ _ rfl rfl rfl (setRow_heap _ _ _ _ _ _ hb0)) rfl ⟨ret_val HU.out.symm, hbel.trans (below_setRow _ _ _ _ (Nat.le_refl _))⟩
    · have hk2 : k = 64 := by omega
      subst hk2
      have HG : Hid (good s.data.toList = 64) := goodOf_eq 64 _ 64 (by omega) (by omega) hdig.out (.inl rfl)
      by_cases hbig : 64 < s.size
      · have hbig' : (64 : Int) < (s.size : Int) := by omega
        have HN : Hid (¬ (good s.data.toList = 64 ∧ s.size = 64)) := (by have := HG.out; intro h; omega : ¬ (good s.data.toList = 64 ∧ s.size = 64))
        have HU : Hid (unAns s = .tuple #[.agg (bs z32), .int .i64 10, .int .i64 64]) := unAns_no HN.out HG.out
        go_wp2_with (first | (refine wpList_build_row rfl 23 rfl (bs z32) hb23 ?_) | (refine wpList_store_row rfl 23 _ _ rfl w.heap.size (bs z32) rfl rfl 23 (bs z32) hb0 (by rw [hz]; exact hs23) rfl (bs_one _) ?_) | fail)
        exact bodyPost_ret (res6 _ _ w.heap.size 23 z32 rfl (0, 0) _ _ rfl rfl rfl (setRow_heap _ _ _ _ _ _ hb0)) rfl ⟨ret_val HU.out.symm, hbel.trans (below_setRow _ _ _ _ (Nat.le_refl _))⟩
      · have hbig' : ¬ (64 : Int) < (s.size : Int) := by omega
        have HU : Hid (unAns s = .tuple #[.agg (bs (unTo s.data.toList 32)), .int .i64 0, .int .i64 0]) := unAns_yes ⟨HG.out, by omega⟩
        rw [half_all] at hb1
        have ul := unTo_len s.data.toList 32
        generalize unTo s.data.toList 32 = u at *
        go_wp2_with (first | (refine wpList_load_arr rfl 23 (.tmp 5) rfl (w.heap.size + 1) rfl 23 (bs u) (0, 0) _ hb1 Try.underlying23 rfl (by rw [bs_size, ul]; exact hs23) ?_) | (refine wpList_store_row rfl 23 _ _ rfl w.heap.size (bs u) rfl rfl 23 (bs z32) hb0 (by rw [bs_size, ul]; exact hs23) (by rw [bs_size, bs_size, ul]; rfl) (bs_one _) ?_) | fail)
        exact bodyPost_ret (res6 _ _ w.heap.size 23 u ul (0, 0) _ _ rfl rfl rfl (setRow_heap _ _ _ _ _ _ hb0)) rfl ⟨ret_val HU.out.symm, hbel.trans (below_setRow _ _ _ _ (Nat.le_refl _))⟩
end Go.Proofs.Ytmmdbilfjgmdhaa
