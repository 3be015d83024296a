import Derived.Test.YtpalbfkkegaliabDoorC
import Derived.Deep.OwnRows
import Derived.Laws.BytesArg
import Derived.Laws.IdiomStrings
namespace Go.Proofs.YtpalbfkkegaliabDoor
open Go.RowKit
set_option linter.unusedVariables false
set_option linter.unusedSimpArgs false

/-- A digit. -/
def hx (d : Int) : UInt8 := if d < 10 then UInt8.ofNat (48 + d.toNat) else UInt8.ofNat (87 + d.toNat)
/-- The first m digits, of which k are written. -/
def hexTo (h : List UInt8) (m k : Nat) : List UInt8 := (List.range m).map (fun i => if i < k then hx (dig h i) else 0)
/-- The first m digits. -/
def hexl (h : List UInt8) (m : Nat) : List UInt8 := (List.range m).map (fun i => hx (dig h i))

theorem hexTo_len (h : List UInt8) (m k : Nat) : (hexTo h m k).length = m := by simp [hexTo]
theorem hexl_len (h : List UInt8) (m : Nat) : (hexl h m).length = m := by simp [hexl]
theorem hexTo_zero (h : List UInt8) (m : Nat) : hexTo h m 0 = List.replicate m 0 := by
  simp [hexTo, List.map_const']
theorem hexTo_all (h : List UInt8) (m : Nat) : hexTo h m m = hexl h m := by
  unfold hexTo hexl
  apply List.map_congr_left
  intro i hi
  rw [if_pos (by simpa using hi)]
theorem hexTo_succ (h : List UInt8) (m k : Nat) (hk : k < m) : (hexTo h m k).set k (hx (dig h k)) = hexTo h m (k + 1) := by
  apply List.ext_getElem
  · simp [hexTo]
  · intro i h1 h2
    simp only [hexTo, List.getElem_set, List.getElem_map, List.getElem_range]
    by_cases e : k = i
    · subst e; simp
    · have : (i < k + 1) = (i < k) := by apply propext; omega
      simp [e, this]

theorem made_bs (n : Nat) : madeCells #[.int .u8 0] n = bs (List.replicate n 0) := by
  apply Array.ext
  · simp [madeCells, bs]
  · intro i h1 h2
    simp [madeCells, bs, Nat.mod_one]

def digitsS : ByteArray := { data := #[48, 49, 50, 51, 52, 53, 54, 55, 56, 57, 97, 98, 99, 100, 101, 102] }
theorem index_digits (d : Int) (w : World) (h0 : 0 ≤ d) (h1 : d < 16) :
    (Instr.index 9 (.string { data := #[48, 49, 50, 51, 52, 53, 54, 55, 56, 57, 97, 98, 99, 100, 101, 102] }) (.int .u8 d)).run Tryd.prog w = .ok (.int .u8 ((hx d).toNat : Int)) w := by
  rw [run_index_string _ _ _ _ _ Tryd.underlying9]
  have : d = 0 ∨ d = 1 ∨ d = 2 ∨ d = 3 ∨ d = 4 ∨ d = 5 ∨ d = 6 ∨ d = 7 ∨ d = 8 ∨ d = 9 ∨ d = 10 ∨ d = 11 ∨ d = 12 ∨ d = 13 ∨ d = 14 ∨ d = 15 := by omega
  rcases this with h | h | h | h | h | h | h | h | h | h | h | h | h | h | h | h <;> subst h <;> rfl

theorem Tryd.info5 : (Tryd.prog.info? 5).map (fun i => (i.zero, i.size, i.bytes)) = some (some (.int .u8 0), 1, 1) := by kernel_rfl

theorem zlen (m : Nat) : (List.replicate m (0 : UInt8)).length = m := by simp

set_option maxHeartbeats 1600000 in
theorem short_in (h : List UInt8) (hl : h.length = 32) (m : Nat) (hm : m ≤ 64) (w : World) :
    Calls Tryd.prog 75 #[.agg (bs h), .int .i64 (m : Int)] w fun e w' => e = .returned (.string ⟨(hexl h m).toArray⟩) ∧ Below w.heap.size w w' := by
  have hmk := fun wx => run_make_row' (P := Tryd.prog) 25 5 (.int .u8 0) 1 Tryd.underlying25 Tryd.info5 rfl .i64 .i64 m (by omega) (by omega) wx
  have hmb := made_bs m
  have hl2 := hexTo_zero h m
  rw [← hl2] at hmb
  clear hl2
  rw [hmb] at hmk
  clear hmb
  go_enter Tryd.func75, Tryd.ntmps75
  go_wp2
  clear hmk
  go_loopw [6, 14] (fun _ n wr => ∃ k : Nat, k ≤ m ∧ n = .int .i64 k ∧ wr.heap[w.heap.size + 1]? = some (.cells (bs (hexTo h m k)) 5 (0, 0)) ∧ wr.heap[w.heap.size]? = some (.cells (bs h) 36 (0, 0)) ∧ Below w.heap.size w wr) (fun _ n _ => m - (intOf n).toNat)
  case atStart => exact ⟨0, by omega, rfl, heap_alloc2_new _ _ _, heap_alloc2_old _ _ _, ((Below.refl _ _).alloc (Nat.le_refl _) _).alloc (by simp) _⟩
  case round =>
    obtain ⟨k, hk, rfl, hb1, hb0, hbel⟩ := hrel
    have hlt : w.heap.size + 1 < wr.heap.size := (Array.getElem?_eq_some_iff.1 hb1).1
    by_cases h1 : k < m
    · have hc := (cell_of_row wr (w.heap.size + 1) k _ _ _ hb1).trans (bs_get _ k (by rw [hexTo_len]; omega))
      have hf := frozen_of_row wr (w.heap.size + 1) k _ _ hb1
      have hd := dig_bd h k
      have hx1 := fun wx => index_digits (dig h k) wx hd.1 hd.2
      go_wp2_with (first | (go_at_call 89; refine (digitAt_any h k _ hl (by omega)).mono ?_; rintro e w' ⟨rfl, rfl⟩) | (refine wpList_load_row rfl 36 _ rfl w.heap.size rfl 36 (bs h) (0, 0) _ hb0 Tryd.underlying36 rfl (by rw [bs_size, hl]; exact hs23) ?_))
      go_roundw
      case rel =>
        refine ⟨k + 1, by omega, by go_num, ?_, ?_, ?_⟩
        · rw [Below.heap_alloc _ _ _ (by simpa using hlt), heap_setCell_same _ (w.heap.size + 1) k _ 5 _ hb1, bs_set, hexTo_succ _ _ _ h1]
        · rw [Below.heap_alloc _ _ _ (by simp; omega), heap_setCell_other _ _ _ _ (by simp)]; exact hb0
        · exact (hbel.setCell (by simp) _).alloc (by simp; omega) _
      case measure => simp [intOf]; omega
    · have hk2 : k = m := by omega
      subst hk2
      rw [hexTo_all] at hb1
      have hcv := run_convert_bytes_back (P := Tryd.prog) wr 25 9 5 ⟨w.heap.size + 1, 0, none⟩ k (hexl h k) Tryd.underlying25 Tryd.underlying5 Tryd.underlying9 (fun j hj => by
        have e : (⟨w.heap.size + 1, 0, none⟩ : Addr).add j = ⟨w.heap.size + 1, j, none⟩ := by simpa using Addr.add_mid (w.heap.size + 1) 0 j
        rw [e, cell_of_row wr _ j _ _ _ hb1, bs_get _ _ hj]
        simp [at8, List.getElem?_eq_getElem hj])
      rw [hexl_len] at hcv
      go_wp2
      go_ret
      exact ⟨rfl, hbel⟩

set_option maxHeartbeats 400000 in
theorem hex_any (h : List UInt8) (hl : h.length = 32) (w : World) :
    Calls Tryd.prog 26 #[.agg (bs h)] w fun e w' => e = .returned (.string ⟨(hexl h 64).toArray⟩) ∧ Below w.heap.size w w' := by
  go_enter Tryd.func26, Tryd.ntmps26
  go_wp2_with (first | (go_at_call 75; refine (short_in h hl 64 (by omega) _).mono ?_; rintro e w' ⟨rfl, hb⟩) | (refine wpList_load_row rfl 36 _ rfl w.heap.size rfl 36 (bs h) (0, 0) _ (heap_alloc_new _ _) Tryd.underlying36 rfl (by rw [bs_size, hl]; exact hs23) ?_))
  go_ret
  exact ⟨rfl, ((Below.refl _ _).alloc (Nat.le_refl _) _).trans (hb.mono (by simp))⟩
end Go.Proofs.YtpalbfkkegaliabDoor
