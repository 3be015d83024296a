import Derived.Test.YtdajeabhhkgibaaKOb
namespace Go.Proofs.Ytdajeabhhkgibaa.K
open Go.RowKit
set_option linter.unusedVariables false
set_option linter.unusedSimpArgs false

theorem made_bs (n : Nat) : madeCells #[.int .u8 0] n = bs (List.replicate n 0) := by
  apply Array.ext
  · simp [madeCells, bs]
  · intro i h1 h2
    simp [madeCells, bs, Nat.mod_one]
set_option maxHeartbeats 2000000 in
/-- The same bytes at two places. -/
theorem same_any (a1 a2 : Option Addr) (l : List UInt8) (n c1 c2 : Nat) (w : World) (hn : l.length = n) (h1 : Byt w a1 l) (h2 : Byt w a2 l) (hl : n ≤ 140737488351232) :
    Calls Try.prog 35 #[.slice a1 n c1, .slice a2 n c2] w fun e w' => e = .returned (.bool true) ∧ ∃ m, w' = w.drewN m := by
  subst hn
  go_enter Try.func35, Try.ntmps35
  go_wp2
  go_loopw [5] (fun i wr => ∃ k : Nat, k ≤ l.length ∧ i = .int .i64 k ∧ ∃ m, wr = w.drewN m) (fun i _ => l.length - (intOf i).toNat)
  case atStart => exact ⟨0, Nat.zero_le _, rfl, 0, rfl⟩
  case round =>
    obtain ⟨k, hk, rfl, m, rfl⟩ := hrel
    by_cases hlt : k < l.length
    · rcases h1 with rfl | ⟨b1, o1, rfl, d1⟩
      · simp at hlt
      rcases h2 with rfl | ⟨b2, o2, rfl, d2⟩
      · simp at hlt
      have e1 := d1 k hlt
      have e2 := d2 k hlt
      go_wp2
      go_quiet (fail)
      go_wp2
      go_roundw
      case rel => exact ⟨k + 1, by omega, by go_num, _, rfl⟩
      case measure => simp [intOf]; omega
    · have hk2 : k = l.length := by omega
      subst hk2
      go_wp2
      go_ret
      exact ⟨rfl, m, rfl⟩

/-- The marks behind what is handed in. -/
def marks : List UInt8 := [160, 161, 162, 163, 164, 165, 166, 167, 168]
/-- What is handed in, with its marks, as far as place k. -/
def handTo (l : List UInt8) (k : Nat) : List UInt8 := (l ++ marks).take k ++ List.replicate (l.length + 9 - k) 0
theorem handTo_len (l : List UInt8) (k : Nat) (h : k ≤ l.length + 9) : (handTo l k).length = l.length + 9 := by
  simp [handTo, marks]; omega
theorem handTo_zero (l : List UInt8) : handTo l 0 = List.replicate (l.length + 9) 0 := by simp [handTo]
theorem handTo_all (l : List UInt8) : handTo l (l.length + 9) = l ++ marks := by
  unfold handTo
  rw [List.take_of_length_le (by simp [marks])]
  simp
theorem handTo_succ (l : List UInt8) (k : Nat) (v : UInt8) (h : k < l.length + 9) (hv : (l ++ marks).getD k 0 = v) : (handTo l k).set k v = handTo l (k + 1) := by
  have hL : k < (l ++ marks).length := by simp [marks]; omega
  unfold handTo
  have e : l.length + 9 - k = (l.length + 9 - (k + 1)) + 1 := by omega
  have e1 : ((l ++ marks).take k).length = k := by rw [List.length_take]; omega
  rw [e, List.replicate_succ, List.set_append_right _ _ (by omega), e1, Nat.sub_self, List.take_succ_eq_append_getElem hL]
  have e2 : (l ++ marks)[k] = v := by rw [← hv]; simp [List.getElem?_eq_getElem hL]
  rw [e2]
  simp
theorem mark_at (l : List UInt8) (k : Nat) (h : k < 9) : at8 (l ++ marks) (l.length + k) = 160 + (k : Int) := by
  have e : (l ++ marks).getD (l.length + k) 0 = marks.getD k 0 := by
    simp [List.getElem?_append_right]
  unfold at8
  rw [e]
  have : ∀ k : Fin 9, (((marks.getD k.val 0).toNat : Nat) : Int) = 160 + (k.val : Int) := by decide
  exact this ⟨k, h⟩
theorem own_at (l : List UInt8) (k : Nat) (h : k < l.length) : at8 (l ++ marks) k = at8 l k := by
  simp [at8, List.getElem?_append_left h]

set_option maxHeartbeats 2000000 in
theorem hand_any (a : Option Addr) (l : List UInt8) (cap : Nat) (w : World) (hb : Byt w a l) (hl : l.length ≤ 140737488351232) :
    Calls Try.prog 28 #[.slice a l.length cap] w fun e w' => e = .returned (.slice (some ⟨w.heap.size, 0, none⟩) l.length (l.length + 9)) ∧ w'.heap[w.heap.size]? = some (.cells (bs (l ++ marks)) 5 (0, 0)) ∧ Below w.heap.size w w' := by
  have hmk := fun wx => run_make_row' (P := Try.prog) 53 5 (.int .u8 0) 1 Try.underlying53 info5k rfl .i64 .i64 (l.length + 9) (by omega) (by omega) wx
  rw [made_bs] at hmk
  have hc1 : ((l.length + 9 : Nat) : Int) = (l.length : Int) + 9 := by omega
  rw [hc1] at hmk
  go_enter Try.func28, Try.ntmps28
  go_wp2
  clear hmk
  go_loopw [4] (fun i wr => ∃ k : Nat, k ≤ l.length ∧ i = .int .i64 k ∧ wr.heap[w.heap.size]? = some (.cells (bs (handTo l k)) 5 (0, 0)) ∧ Below w.heap.size w wr) (fun i _ => l.length - (intOf i).toNat)
  case atStart => exact ⟨0, Nat.zero_le _, rfl, by rw [handTo_zero]; exact heap_alloc_new _ _, (Below.refl _ _).alloc (Nat.le_refl _) _⟩
  case round =>
    obtain ⟨k, hk, rfl, hg, hbel⟩ := hrel
    have hlt : w.heap.size < wr.heap.size := (Array.getElem?_eq_some_iff.1 hg).1
    by_cases h1 : k < l.length
    · have hc := (cell_of_row wr w.heap.size k _ _ _ hg).trans (bs_get _ k (by rw [handTo_len _ _ (by omega)]; omega))
      have hf := frozen_of_row wr w.heap.size k _ _ hg
      rcases hb with rfl | ⟨b, off, rfl, hcc⟩
      · simp at h1
      · have d1 := (hbel.cell (p := ⟨b, off + k, none⟩) (block_lt_of_cell (hcc k h1))).trans (hcc k h1)
        go_wp2
        go_roundw
        case rel =>
          refine ⟨k + 1, by omega, by go_num, ?_, ?_⟩
          · show (wr.setCell _ _).heap[_]? = _
            rw [heap_setCell_same wr w.heap.size k _ 5 _ hg]
            unfold at8
            rw [bs_set, handTo_succ _ _ _ (by omega) (by simp [List.getElem?_append_left h1])]
          · exact (hbel.setCell (by simp) _)
        case measure => simp [intOf]; omega
    · have hk2 : k = l.length := by omega
      subst hk2
      clear h1 hk
      go_wp2
      go_loopw [5] (fun i wq => ∃ k : Nat, k ≤ 9 ∧ i = .int .i64 ((l.length : Int) + k) ∧ wq.heap[w.heap.size]? = some (.cells (bs (handTo l (l.length + k))) 5 (0, 0)) ∧ Below w.heap.size w wq) (fun i _ => l.length + 9 - (intOf i).toNat)
      case atStart => exact ⟨0, by omega, by simp, hg, hbel⟩
      case round =>
        clear hg hbel hlt
        obtain ⟨k, hk, rfl, hg, hbel⟩ := hrel
        have hlt : w.heap.size < wr.heap.size := (Array.getElem?_eq_some_iff.1 hg).1
        by_cases h1 : k < 9
        · have hc := (cell_of_row wr w.heap.size (l.length + k) _ _ _ hg).trans (bs_get _ (l.length + k) (by rw [handTo_len _ _ (by omega)]; omega))
          have hf := frozen_of_row wr w.heap.size (l.length + k) _ _ hg
          have hm := mark_at l k h1
          have ht : ((l.length : Int) + (k : Int)).toNat = l.length + k := by omega
          have hw1 : IntKind.u8.wrap (160 + ((l.length : Int) + (k : Int)) - (l.length : Int)) = at8 (l ++ marks) (l.length + k) := by
            rw [hm, IntKind.wrap_u8']; omega
          go_wp2
          go_roundw
          case rel =>
            refine ⟨k + 1, by omega, by go_num, ?_, ?_⟩
            · show (wr.setCell _ _).heap[_]? = _
              rw [heap_setCell_same wr w.heap.size (l.length + k) _ 5 _ hg]
              rw [← hm]
              unfold at8
              rw [bs_set, handTo_succ _ _ _ (by omega) rfl]
              rfl
            · exact (hbel.setCell (by simp) _)
          case measure => simp [intOf]; omega
        · have hk2 : k = 9 := by omega
          subst hk2
          rw [handTo_all] at hg
          go_wp2
          go_ret
          exact ⟨rfl, hg, hbel⟩

set_option maxHeartbeats 2000000 in
theorem kept_any (g : Nat) (a : Option Addr) (l : List UInt8) (cap : Nat) (w : World) (hg : w.heap[g]? = some (.cells (bs (l ++ marks)) 5 (0, 0))) (hb : Byt w a l) (hl : l.length ≤ 140737488351232) :
    Calls Try.prog 31 #[.slice (some ⟨g, 0, none⟩) l.length (l.length + 9), .slice a l.length cap] w fun e w' => e = .returned (.bool true) ∧ ∃ m, w' = w.drewN m := by
  have hL : (l ++ marks).length = l.length + 9 := by simp [marks]
  have hq : Byt w (some ⟨g, 0, none⟩) l := .inr ⟨g, 0, rfl, fun j hj => by
    rw [Nat.zero_add, ← own_at l j hj]
    exact (cell_of_row w g j _ _ _ hg).trans (bs_get _ j (by omega))⟩
  go_enter Try.func31, Try.ntmps31
  go_wp2_with fail
  refine (same_any _ _ l l.length _ _ w rfl hq hb hl).mono ?_
  rintro e w' ⟨rfl, m, rfl⟩
  go_wp2
  go_loopw [6] (fun i wr => ∃ k : Nat, k ≤ 9 ∧ i = .int .i64 ((l.length : Int) + k) ∧ wr = w.drewN m) (fun i _ => l.length + 9 - (intOf i).toNat)
  case atStart => exact ⟨0, by omega, by simp, rfl⟩
  case round =>
    obtain ⟨k, hk, rfl, rfl⟩ := hrel
    by_cases h1 : k < 9
    · have hc := (cell_of_row w g (l.length + k) _ _ _ hg).trans (bs_get _ (l.length + k) (by omega))
      have hm := mark_at l k h1
      rw [hm] at hc
      have ht : ((l.length : Int) + (k : Int)).toNat = l.length + k := by omega
      have hw1 : IntKind.u8.wrap (160 + ((l.length : Int) + (k : Int)) - (l.length : Int)) = 160 + (k : Int) := by
        rw [IntKind.wrap_u8']; omega
      go_wp2
      go_roundw
      case rel => exact ⟨k + 1, by omega, by go_num, trivial⟩
      case measure => simp [intOf]; omega
    · have hk2 : k = 9 := by omega
      subst hk2
      go_wp2
      go_ret
      exact ⟨rfl, m, rfl⟩
end Go.Proofs.Ytdajeabhhkgibaa.K
