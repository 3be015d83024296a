import Derived.Test.YthlcmijekgjgjaaDoorDLinB
import Derived.Test.YthlcmijekgjgjaaDoorDWr2
namespace Go.Proofs.YthlcmijekgjgjaaDoor
open Go.RowKit
set_option linter.unusedVariables false
set_option linter.unusedSimpArgs false

theorem write_any (g : Nat) (m l : List UInt8) (a : Option Addr) (len cap : Nat) (w : World) (hlen : l.length = len) (hr : Rep w g m) (hb : Byt w a l) (hbg : ∀ b off, a = some ⟨b, off, none⟩ → b ≠ g) (hK : KeysAt w) (hg4 : g ≠ 3)
    (hm : m.length ≤ 1152921504606846976) (hl : l.length ≤ 1152921504606846976) (hcap : l.length ≤ cap) :
    Calls Tryd.prog 12 #[.pointer (some ⟨g, 0, none⟩), .slice a len cap] w fun e w' => e = .returned (.tuple #[]) ∧ Rep w' g (m ++ l) ∧ But g w w' := by
  subst hlen
  by_cases hu : m.length % 64 = 0
  · exact write_u0 g m l a cap w hr hb hbg hK hg4 hm hl hcap hu
  · by_cases h0 : 0 < l.length
    · by_cases h1 : m.length % 64 + l.length < 64
      · exact write_u1 g m l a cap w hr hb hbg hK hg4 hm hl hcap (by omega) h0 h1
      · exact write_u2 g m l a cap w hr hb hbg hK hg4 hm hl hcap (by omega) (by omega)
    · obtain rfl : l = [] := List.eq_nil_of_length_eq_zero (by omega)
      exact write_u1e g m a cap w hr hm (by omega)

/-- How much room stands ahead of the length. -/
def room (n : Nat) : Nat := 64 - (n + 8) % 64
def lenB (n i : Nat) : UInt8 := UInt8.ofNat (n * 8 / 2 ^ (56 - 8 * i))
def padTo (n k : Nat) : List UInt8 := (List.range (room n + 8)).map (fun j => if j = 0 then 128 else if room n ≤ j ∧ j < room n + k then lenB n (j - room n) else 0)
def padL (n : Nat) : List UInt8 := padTo n 8
theorem padTo_len (n k : Nat) : (padTo n k).length = room n + 8 := by simp [padTo]
theorem padTo_zero (n : Nat) : (List.replicate (room n + 8) (0 : UInt8)).set 0 128 = padTo n 0 := by
  apply List.ext_getElem
  · simp [padTo]
  · intro i h1 h2
    simp only [padTo, List.getElem_set, List.getElem_map, List.getElem_range, List.getElem_replicate]
    by_cases e : 0 = i
    · subst e; simp
    · have : ¬ (room n ≤ i ∧ i < room n + 0) := by omega
      rw [if_neg e, if_neg (by omega), if_neg this]
theorem padTo_succ (n k : Nat) (hk : k < 8) : (padTo n k).set (room n + k) (lenB n k) = padTo n (k + 1) := by
  have hr : 0 < room n := by unfold room; omega
  apply List.ext_getElem
  · simp [padTo]
  · intro i h1 h2
    simp only [padTo, List.getElem_set, List.getElem_map, List.getElem_range]
    by_cases e : room n + k = i
    · subst e
      rw [if_pos rfl, if_neg (by omega), if_pos (by omega), show room n + k - room n = k by omega]
    · have h : (room n ≤ i ∧ i < room n + (k + 1)) = (room n ≤ i ∧ i < room n + k) := by apply propext; omega
      rw [if_neg e]
      simp only [h]

theorem pad_rel (k : Nat) (hk : k < 8) {n : Nat} {w wr : World} (v : Int) (hv : v = ((lenB n k).toNat : Int)) (i : Int) (hi : i = ((k + 1 : Nat) : Int)) (o : Nat) (ho : o = room n + k)
    (hg : wr.heap[w.heap.size]? = some (.cells (bs (padTo n k)) 5 (0, 0))) (hbel : Below w.heap.size w wr) :
    ∃ k' : Nat, k' ≤ 8 ∧ Value.int .i64 i = .int .i64 k' ∧ (wr.setCell ⟨w.heap.size, o, none⟩ (.int .u8 v)).heap[w.heap.size]? = some (.cells (bs (padTo n k')) 5 (0, 0)) ∧ Below w.heap.size w (wr.setCell ⟨w.heap.size, o, none⟩ (.int .u8 v)) := by
  subst hv hi ho
  exact ⟨k + 1, by omega, rfl, by rw [heap_setCell_same wr w.heap.size _ _ 5 _ hg, bs_set, padTo_succ n k hk], hbel.setCell (Nat.le_refl _) _⟩

set_option maxHeartbeats 2000000 in
theorem padding_any (n : Nat) (w : World) (hn : n ≤ 1152921504606846976) :
    Calls Tryd.prog 16 #[.int .i64 (n : Int)] w fun e w' => e = .returned (.slice (some ⟨w.heap.size, 0, none⟩) (room n + 8) (room n + 8)) ∧ w'.heap[w.heap.size]? = some (.cells (bs (padL n)) 5 (0, 0)) ∧ Below w.heap.size w w' := by
  have hR1 : room n ≤ 64 := by unfold room; omega
  have hR2 : 0 < room n := by unfold room; omega
  have eR : 64 - ((n : Int) + 8) % 64 = (room n : Int) := by unfold room; omega
  have hmk := fun wx => run_make_row' (P := Tryd.prog) 45 5 (.int .u8 0) 1 Tryd.underlying45 Tryd.info5 rfl .i64 .i64 (room n + 8) (by omega) (by omega) wx
  rw [made_bs] at hmk
  have ec : ((room n + 8 : Nat) : Int) = (room n : Int) + 8 := by omega
  rw [ec] at hmk
  clear ec
  have hz0 := bs_set (List.replicate (room n + 8) 0) 0 128
  rw [padTo_zero] at hz0
  obtain ⟨Z, hZ⟩ : ∃ Z, Z = bs (List.replicate (room n + 8) 0) := ⟨_, rfl⟩
  rw [← hZ] at hmk hz0
  have c0 : Z[0]? = some (.int .u8 0) := by rw [hZ, bs_get _ 0 (by simp)]; simp [at8, List.getElem?_replicate]
  have HZ : Hid (Z.setIfInBounds 0 (.int .u8 ((128 : UInt8).toNat : Int)) = bs (padTo n 0)) := hz0
  clear hz0 hZ
  go_enter Tryd.func16, Tryd.ntmps16
  go_wp2
  clear hmk
  go_loopw [6, 19] (fun _ i wr => ∃ k : Nat, k ≤ 8 ∧ i = .int .i64 k ∧ wr.heap[w.heap.size]? = some (.cells (bs (padTo n k)) 5 (0, 0)) ∧ Below w.heap.size w wr) (fun _ i _ => 8 - (intOf i).toNat)
  case atStart => exact ⟨0, by omega, rfl, by rw [← HZ.out]; exact heap_alloc_new _ _, (Below.refl _ _).alloc (Nat.le_refl _) _⟩
  case round =>
    obtain ⟨k, hk, rfl, hg, hbel⟩ := hrel
    have hlt : w.heap.size < wr.heap.size := (Array.getElem?_eq_some_iff.1 hg).1
    by_cases h1 : k < 8
    · have hc := (cell_of_row wr w.heap.size (room n + k) _ _ _ hg).trans (bs_get _ (room n + k) (by rw [padTo_len]; omega))
      have hf := frozen_of_row wr w.heap.size (room n + k) _ _ hg
      have hs1 := padTo_succ n k h1
      have HS : Hid ((padTo n k).set (room n + k) (lenB n k) = padTo n (k + 1)) := hs1
      clear hs1
      rcases (show k = 0 ∨ k = 1 ∨ k = 2 ∨ k = 3 ∨ k = 4 ∨ k = 5 ∨ k = 6 ∨ k = 7 by omega) with rfl | rfl | rfl | rfl | rfl | rfl | rfl | rfl
      · simp only [Int.cast_ofNat_Int, Nat.add_zero, Int.natCast_zero] at *
        go_wp2
        go_roundw
        case rel => exact pad_rel 0 (by decide) _ (by unfold lenB; rw [UInt8.toNat_ofNat', show 2 ^ (56 - 8 * 0) = 72057594037927936 by decide]; omega) _ rfl _ rfl hg hbel
        case measure => simp [intOf]
      · simp only [Int.cast_ofNat_Int, Nat.add_zero, Int.natCast_zero] at *
        go_wp2
        go_roundw
        case rel => exact pad_rel 1 (by decide) _ (by unfold lenB; rw [UInt8.toNat_ofNat', show 2 ^ (56 - 8 * 1) = 281474976710656 by decide]; omega) _ rfl _ rfl hg hbel
        case measure => simp [intOf]
      · simp only [Int.cast_ofNat_Int, Nat.add_zero, Int.natCast_zero] at *
        go_wp2
        go_roundw
        case rel => exact pad_rel 2 (by decide) _ (by unfold lenB; rw [UInt8.toNat_ofNat', show 2 ^ (56 - 8 * 2) = 1099511627776 by decide]; omega) _ rfl _ rfl hg hbel
        case measure => simp [intOf]
      · simp only [Int.cast_ofNat_Int, Nat.add_zero, Int.natCast_zero] at *
        go_wp2
        go_roundw
        case rel => exact pad_rel 3 (by decide) _ (by unfold lenB; rw [UInt8.toNat_ofNat', show 2 ^ (56 - 8 * 3) = 4294967296 by decide]; omega) _ rfl _ rfl hg hbel
        case measure => simp [intOf]
      · simp only [Int.cast_ofNat_Int, Nat.add_zero, Int.natCast_zero] at *
        go_wp2
        go_roundw
        case rel => exact pad_rel 4 (by decide) _ (by unfold lenB; rw [UInt8.toNat_ofNat', show 2 ^ (56 - 8 * 4) = 16777216 by decide]; omega) _ rfl _ rfl hg hbel
        case measure => simp [intOf]
      · simp only [Int.cast_ofNat_Int, Nat.add_zero, Int.natCast_zero] at *
        go_wp2
        go_roundw
        case rel => exact pad_rel 5 (by decide) _ (by unfold lenB; rw [UInt8.toNat_ofNat', show 2 ^ (56 - 8 * 5) = 65536 by decide]; omega) _ rfl _ rfl hg hbel
        case measure => simp [intOf]
      · simp only [Int.cast_ofNat_Int, Nat.add_zero, Int.natCast_zero] at *
        go_wp2
        go_roundw
        case rel => exact pad_rel 6 (by decide) _ (by unfold lenB; rw [UInt8.toNat_ofNat', show 2 ^ (56 - 8 * 6) = 256 by decide]; omega) _ rfl _ rfl hg hbel
        case measure => simp [intOf]
      · simp only [Int.cast_ofNat_Int, Nat.add_zero, Int.natCast_zero] at *
        go_wp2
        go_roundw
        case rel => exact pad_rel 7 (by decide) _ (by unfold lenB; rw [UInt8.toNat_ofNat', show 2 ^ (56 - 8 * 7) = 1 by decide]; omega) _ rfl _ rfl hg hbel
        case measure => simp [intOf]
    · have hk2 : k = 8 := by omega
      subst hk2
      go_wp2
      go_ret
      exact ⟨rfl, hg, hbel⟩
end Go.Proofs.YthlcmijekgjgjaaDoor
