import Derived.Test.YtmmdbilfjgmdhaaB
import Derived.Deep.RegionWith
import Derived.Deep.QuietTactic
import Derived.BigQuiet
namespace Go.Proofs.Ytmmdbilfjgmdhaa
open Go.RowKit
set_option linter.unusedVariables false
set_option linter.unusedSimpArgs false

/-- The byte that two digits make. -/
def two (l : List UInt8) (k : Nat) : UInt8 := UInt8.ofNat ((dgVal (at8 l (2 * k)) * 16 + dgVal (at8 l (2 * k + 1))) % 256).toNat

/-- The first k bytes that the digits make, zeros behind. -/
def unTo (l : List UInt8) (k : Nat) : List UInt8 := (List.range 32).map (fun i => if i < k then two l i else 0)

def z32 : List UInt8 := List.replicate 32 0
theorem hz23 (w : World) : (zeroValue 23).run Try.prog w = .ok (.agg (bs z32)) w := (zero_of_info (n := 32) (by kernel_rfl)).1 w
theorem hb23 : Try.prog.built 23 [] = some (bs z32) := by kernel_rfl
theorem hs23 : (Try.prog.info? 23).map (·.size) = some 32 := by kernel_rfl
theorem bs_one (l : List UInt8) : (bs l).all (·.oneCell') = true := by
  simp [bs, Value.oneCell']


theorem load23 (w : World) (g : Nat) (t : TypeId) (l : List UInt8) (hl : l.length = 32) (fr : Nat × Nat) (hg : w.heap[g]? = some (.cells (bs l) t fr)) :
    (loadVar 23 ⟨g, 0, none⟩).run Try.prog w = .ok (.agg (bs l)) w :=
  run_loadVar_row w g t 23 (bs l) fr _ hg Try.underlying23 rfl (by rw [bs_size, hl]; exact hs23)

theorem res5 (tmps : Array Value) (w : World) (g : Nat) (t : TypeId) (l : List UInt8) (hl : l.length = 32) (fr : Nat × Nat) (a b : Value) (hp : tmps[2]?.getD undef = .pointer (some ⟨g, 0, none⟩))
    (h3 : tmps[3]?.getD undef = a) (h4 : tmps[4]?.getD undef = b) (hg : w.heap[g]? = some (.cells (bs l) t fr)) :
    (results Try.f5 tmps).run Try.prog w = .ok (.tuple #[.agg (bs l), a, b]) w := by
  simp [results, Try.results5, hp, h3, h4, asAddr, load23 w g t l hl fr hg]

set_option maxHeartbeats 800000 in
theorem unhex_no (s : ByteArray) (w : World) (hs : s.size ≤ maxLen) (h : good s.data.toList ≠ 64 ∨ s.size ≠ 64) :
    Calls Try.prog 5 #[.string s] w fun e w' => e = .returned (.tuple #[.agg (bs z32), .int .i64 10, .int .i64 (good s.data.toList)]) ∧ Below w.heap.size w w' := by
  unfold maxLen at hs
  have hz : (bs z32).size = 32 := by rw [bs_size]; rfl
  go_enter Try.func5, Try.ntmps5
  go_wp2_with (first | (go_at_call 13; refine (goodDigits_any _ _ hs).mono ?_; rintro e w' ⟨rfl, rfl⟩) | (refine wpList_alloc_row rfl 23 rfl (bs z32) (hz23 _) ?_) | (refine wpList_build_row rfl 23 rfl (bs z32) hb23 ?_) | (refine wpList_store_row rfl 23 _ _ rfl w.heap.size (bs z32) rfl rfl 23 (bs z32) (heap_alloc_new _ _) (by rw [hz]; exact hs23) rfl (bs_one _) ?_))
  · rename_i e _
    rw [World.setRow_alloc_new]
    refine bodyPost_ret (res5 _ _ w.heap.size 23 z32 rfl (0, 0) _ _ rfl rfl rfl (heap_alloc_new _ _)) rfl ⟨?_, (Below.refl _ _).alloc (Nat.le_refl _) _⟩
    rw [e]
    rfl
  · rw [World.setRow_alloc_new]
    exact bodyPost_ret (res5 _ _ w.heap.size 23 z32 rfl (0, 0) _ _ rfl rfl rfl (heap_alloc_new _ _)) rfl ⟨rfl, (Below.refl _ _).alloc (Nat.le_refl _) _⟩

theorem unTo_len (l : List UInt8) (k : Nat) : (unTo l k).length = 32 := by simp [unTo]
theorem unTo_zero (l : List UInt8) : unTo l 0 = z32 := by simp [unTo, z32]; rfl
theorem unTo_succ (l : List UInt8) (k : Nat) (hk : k < 32) : (unTo l k).set k (two l k) = unTo l (k + 1) := by
  apply List.ext_getElem
  · simp [unTo]
  · intro i h1 h2
    simp only [unTo, List.getElem_set, List.getElem_map, List.getElem_range]
    by_cases e : k = i
    · subst e; simp
    · have : (i < k + 1) = (i < k) := by apply propext; omega
      simp [e, this]

theorem goodOf_all (n : Nat) (l : List UInt8) (h : goodOf n l = n) : ∀ j, j < n → isDg (at8 l j) = true := by
  induction n generalizing l with
  | zero => intro j hj; omega
  | succ n ih =>
    cases l with
    | nil => simp [goodOf] at h
    | cons a r =>
      cases ha : isDg (a.toNat : Int) with
      | false => simp [goodOf, ha] at h
      | true =>
        simp only [goodOf, ha, if_true, Nat.add_right_cancel_iff] at h
        intro j hj
        cases j with
        | zero => rw [at8_zero]; exact ha
        | succ j => rw [at8_succ]; exact ih r h j (by omega)

theorem dgVal_digit {c : Int} (h : isDg c = true) : 0 ≤ dgVal c ∧ dgVal c < 16 := by
  have := isDg_digit h
  unfold dgVal
  split <;> omega

theorem two_or (l : List UInt8) (k : Nat) (h1 : 0 ≤ dgVal (at8 l (2 * k))) (h2 : dgVal (at8 l (2 * k)) < 16) (h3 : 0 ≤ dgVal (at8 l (2 * k + 1))) (h4 : dgVal (at8 l (2 * k + 1)) < 16) :
    bits .or .u8 (dgVal (at8 l (2 * k)) * 16) (dgVal (at8 l (2 * k + 1))) = ((two l k).toNat : Int) := by
  unfold two
  generalize dgVal (at8 l (2 * k)) = a at *
  generalize dgVal (at8 l (2 * k + 1)) = b at *
  rw [u8_or _ _ (by omega) (by omega) h3 (by omega)]
  have e : (a * 16).toNat = a.toNat * 16 := by omega
  rw [e, nat_join 4 _ _ (by omega) (by omega), UInt8.toNat_ofNat']
  omega

theorem below_setRow (B : Nat) (w : World) (g : Nat) (cs : Array Value) (h : B ≤ g) : Below B w (w.setRow g cs) :=
  ⟨rfl, rfl, rfl, by simp, fun k hk => setRow_other w g k cs (by omega)⟩

theorem index_str (s : ByteArray) (k : Nat) (w : World) (h : k < s.size) : (Instr.index 9 (.string s) (.int .i64 (k : Int))).run Try.prog w = .ok (.int .u8 (at8 s.data.toList k)) w := by
  rw [run_index_string _ _ _ _ _ Try.underlying9, dif_pos ⟨by omega, by omega⟩]
  simp only [Int.toNat_natCast]
  rw [at8_str s k h]

set_option maxHeartbeats 1600000 in
theorem unhex_yes (s : ByteArray) (w : World) (h : good s.data.toList = 64) (hs : s.size = 64) :
    Calls Try.prog 5 #[.string s] w fun e w' => e = .returned (.tuple #[.agg (bs (unTo s.data.toList 32)), .int .i64 0, .int .i64 0]) ∧ Below w.heap.size w w' := by
  have hz : (bs z32).size = 32 := by rw [bs_size]; rfl
  have HG := goodDigits_any s (w.alloc (.cells (bs z32) 23)) (by unfold maxLen; omega)
  rw [h] at HG
  have hsl : s.size ≤ 64 := by omega
  have hsg : 64 ≤ s.size := by omega
  have hsb : ((s.size : Int) != 64) = false := by simp; omega
  have HH : Hid (s.size = 64) := hs
  have HD : Hid (good s.data.toList = 64) := h
  clear hs h
  go_enter Try.func5, Try.ntmps5
  go_wp2_with (first | (go_at_call 13; refine HG.mono ?_; rintro e w' ⟨rfl, rfl⟩) | (refine wpList_alloc_row rfl 23 rfl (bs z32) (hz23 _) ?_))
  go_loopw [7, 19] (fun _ n wr => ∃ k : Nat, k ≤ 32 ∧ n = .int .i64 k ∧ wr.heap[w.heap.size + 1]? = some (.cells (bs (unTo s.data.toList k)) 23 (0, 0)) ∧ wr.heap[w.heap.size]? = some (.cells (bs z32) 23 (0, 0)) ∧ Below w.heap.size w wr) (fun _ n _ => 32 - (intOf n).toNat)
  case atStart => exact ⟨0, by omega, rfl, by rw [unTo_zero]; exact heap_alloc2_new _ _ _, heap_alloc2_old _ _ _, ((Below.refl _ _).alloc (Nat.le_refl _) _).alloc (by simp) _⟩
  case round =>
    obtain ⟨k, hk, rfl, hb1, hb0, hbel⟩ := hrel
    by_cases h1 : k < 32
    · have e1 := at8_str s (2 * k) (by omega)
      have e2 := at8_str s (2 * k + 1) (by omega)
      have b1 := at8_lo s.data.toList (2 * k)
      have b2 := at8_hi s.data.toList (2 * k)
      have b3 := at8_lo s.data.toList (2 * k + 1)
      have b4 := at8_hi s.data.toList (2 * k + 1)
      have d1 := dgVal_digit (goodOf_all 64 _ HD.out (2 * k) (by omega))
      have d2 := dgVal_digit (goodOf_all 64 _ HD.out (2 * k + 1) (by omega))
      have hlt : w.heap.size + 1 < wr.heap.size := (Array.getElem?_eq_some_iff.1 hb1).1
      have hc := (cell_of_row wr (w.heap.size + 1) k _ _ _ hb1).trans (bs_get _ k (by rw [unTo_len]; omega))
      have hf := frozen_of_row wr (w.heap.size + 1) k _ _ hb1
      have i1 : 2 * (k : Int) < (s.size : Int) := by omega
      have i2 : 2 * (k : Int) + 1 < (s.size : Int) := by omega
      have i3 : 2 * k < s.size := by omega
      have i4 : 2 * k + 1 < s.size := by omega
      have w1 : IntKind.i64.wrap (2 * (k : Int)) = 2 * k := by simp only [IntKind.wrap, IntKind.bits, IntKind.signed]; simp; omega
      have w2 : IntKind.i64.wrap (2 * (k : Int) + 1) = 2 * k + 1 := by simp only [IntKind.wrap, IntKind.bits, IntKind.signed]; simp; omega
      have x1 := fun wx => index_str s (2 * k) wx i3
      have x2 := fun wx => index_str s (2 * k + 1) wx i4
      push_cast at x1 x2
      go_wp2
      go_region_with (go_at_call 14; refine (digitValue_any _ _ (by omega) (by omega)).mono ?_; rintro e w' ⟨rfl, rfl⟩)
      all_goals
        go_wp2
        go_roundw
        case rel =>
          refine ⟨k + 1, by omega, by go_num, ?_, ?_, ?_⟩
          · rw [two_or _ k d1.1 d1.2 d2.1 d2.2]
            show (wr.setCell _ _).heap[_]? = _
            rw [heap_setCell_same wr (w.heap.size + 1) k _ 23 _ hb1, bs_set, unTo_succ _ _ h1]
          · show (wr.setCell _ _).heap[_]? = _
            rw [heap_setCell_other _ _ _ _ (by simp)]; exact hb0
          · exact (hbel.setCell (by simp) _).drew
        case measure => simp [intOf]; omega
    · have hk2 : k = 32 := by omega
      subst hk2
      go_wp2_with (first | (refine wpList_load_row rfl 23 _ rfl (w.heap.size + 1) rfl 23 (bs (unTo s.data.toList 32)) (0, 0) _ hb1 Try.underlying23 rfl (by rw [bs_size, unTo_len]; exact hs23) ?_) | (refine wpList_store_row rfl 23 _ _ rfl w.heap.size (bs (unTo s.data.toList 32)) rfl rfl 23 (bs z32) hb0 (by rw [bs_size, unTo_len]; exact hs23) (by rw [hz, bs_size, unTo_len]) (bs_one _) ?_))
      refine bodyPost_ret (res5 _ _ w.heap.size 23 (unTo s.data.toList 32) (unTo_len _ _) (0, 0) _ _ rfl rfl rfl (setRow_heap _ _ _ _ _ _ hb0)) rfl ⟨rfl, ?_⟩
      exact hbel.trans (below_setRow _ _ _ _ (Nat.le_refl _))
end Go.Proofs.Ytmmdbilfjgmdhaa
