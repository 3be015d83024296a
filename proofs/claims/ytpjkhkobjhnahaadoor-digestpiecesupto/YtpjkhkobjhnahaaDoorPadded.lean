import Derived.Test.YtpjkhkobjhnahaaDoorKb
namespace Go.Proofs.YtpjkhkobjhnahaaDoor
open Go.RowKit
set_option linter.unusedVariables false
set_option linter.unusedSimpArgs false

def xorB (B : List UInt8) (p : UInt8) : List UInt8 := B.map (fun b => b ^^^ p)
def xorTo (B : List UInt8) (p : UInt8) (k : Nat) : List UInt8 := (B.take k).map (fun b => b ^^^ p) ++ B.drop k
theorem xorB_len (B : List UInt8) (p : UInt8) : (xorB B p).length = B.length := by simp [xorB]
theorem xorTo_len (B : List UInt8) (p : UInt8) (k : Nat) : (xorTo B p k).length = B.length := by simp [xorTo]; omega
theorem xorTo_zero (B : List UInt8) (p : UInt8) : xorTo B p 0 = B := by simp [xorTo]
theorem xorTo_all (B : List UInt8) (p : UInt8) (k : Nat) (h : B.length ≤ k) : xorTo B p k = xorB B p := by simp [xorTo, xorB, List.take_of_length_le h, List.drop_eq_nil_of_le h]
theorem xorTo_at (B : List UInt8) (p : UInt8) (k : Nat) (h : k < B.length) : at8 (xorTo B p k) k = at8 B k := by
  unfold at8 xorTo
  rw [List.getD_eq_getElem?_getD, List.getElem?_append_right (by simp; omega)]
  simp [Nat.min_eq_left (Nat.le_of_lt h)]
theorem xorTo_succ (B : List UInt8) (p : UInt8) (k : Nat) (h : k < B.length) : (xorTo B p k).set k (B.getD k 0 ^^^ p) = xorTo B p (k + 1) := by
  apply List.ext_getElem
  · simp [xorTo]; omega
  · intro i h1 h2
    have hi : i < B.length := by rw [List.length_set, xorTo_len] at h1; exact h1
    rw [List.getElem_set]
    by_cases e : k = i
    · subst e
      rw [if_pos rfl]
      simp only [xorTo]
      rw [List.getElem_append_left (by simp; omega)]
      simp [List.getElem?_eq_getElem h]
    · rw [if_neg e]
      simp only [xorTo]
      by_cases hlt : i < k
      · rw [List.getElem_append_left (by simp; omega), List.getElem_append_left (by simp; omega)]
        simp
      · rw [List.getElem_append_right (by simp; omega), List.getElem_append_right (by simp; omega)]
        simp only [List.length_map, List.length_take, List.getElem_drop]
        congr 1
        omega
theorem xor_bits8 (B : List UInt8) (p : UInt8) (k : Nat) : bits .xor .u8 (at8 B k) (p.toNat : Int) = ((B.getD k 0 ^^^ p).toNat : Int) := by
  unfold at8
  rw [u8_xor_nat _ _ (UInt8.toNat_lt _) (UInt8.toNat_lt _), ← UInt8.toNat_xor]

set_option maxHeartbeats 2000000 in
theorem padded_any (B : List UInt8) (hB : B.length = 64) (p : UInt8) (pv : Int) (hpv : pv = (p.toNat : Int)) (w : World) (hK : KeysAt w) (hF : FirstAt w) :
    Calls Tryd.prog 31 #[.agg (bs B), .int .u8 pv] w fun e w' => ∃ g' : Nat, e = .returned (.pointer (some ⟨g', 0, none⟩)) ∧ w.heap.size ≤ g' ∧ g' < w'.heap.size ∧ Rep w' g' (xorB B p) ∧ Below w.heap.size w w' := by
  have hK4 : 4 < w.heap.size := block_lt_of_cell (hK 0 (by omega))
  have HP : Hid (pv = (p.toNat : Int)) := hpv
  clear hpv
  go_enter Tryd.func31, Tryd.ntmps31
  go_wp2
  go_loopw [5, 7] (fun _ i wr => ∃ k : Nat, k ≤ 64 ∧ i = .int .i64 k ∧ wr.heap[w.heap.size]? = some (.cells (bs (xorTo B p k)) 54 (0, 0)) ∧ Below w.heap.size w wr) (fun _ i _ => 64 - (intOf i).toNat)
  case atStart => exact ⟨0, by omega, rfl, by rw [xorTo_zero]; exact heap_alloc_new _ _, (Below.refl _ _).alloc (Nat.le_refl _) _⟩
  case round =>
    obtain ⟨k, hk, rfl, hg, hbel⟩ := hrel
    have hlt : w.heap.size < wr.heap.size := (Array.getElem?_eq_some_iff.1 hg).1
    by_cases h1 : k < 64
    · have hc := (cell_of_row wr w.heap.size k _ _ _ hg).trans (bs_get _ k (by rw [xorTo_len]; omega))
      rw [xorTo_at _ _ _ (by omega)] at hc
      have hf := frozen_of_row wr w.heap.size k _ _ hg
      have hx : bits .xor .u8 (at8 B k) pv = ((B.getD k 0 ^^^ p).toNat : Int) := by rw [HP.out]; exact xor_bits8 B p k
      generalize hv : B.getD k 0 ^^^ p = v at hx
      have HV : Hid (B.getD k 0 ^^^ p = v) := hv
      clear hv
      go_wp2
      go_roundw
      case rel =>
        refine ⟨k + 1, by omega, by go_num, ?_, hbel.setCell (Nat.le_refl _) _⟩
        rw [heap_setCell_same wr w.heap.size k _ 54 _ hg, bs_set, ← HV.out, xorTo_succ _ _ _ (by omega)]
      case measure => simp [intOf]; omega
    · have hk2 : k = 64 := by omega
      subst hk2
      rw [xorTo_all B p 64 (by omega)] at hg
      have LX : (xorB B p).length = 64 := by rw [xorB_len, hB]
      have K0 := fun j hj => (hbel.cell (p := ⟨4, j, none⟩) hK4).trans (hK j hj)
      have F0 : FirstAt wr := fun j hj => (hbel.cell (p := ⟨2, j, none⟩) (block_lt_of_cell (hF j hj))).trans (hF j hj)
      have K00 : KeysAt wr := K0
      clear K0
      have by0 : Byt wr (some ⟨w.heap.size, 0, none⟩) (xorB B p) := .inr ⟨_, _, rfl, fun j hj => by rw [Nat.zero_add]; exact (cell_of_row wr _ j _ _ _ hg).trans (bs_get _ j hj)⟩
      go_wp2_with fail
      refine (new_any wr F0).mono ?_
      rintro e w1 ⟨rfl, rfl⟩
      have r1 := rep_new wr
      have bl1 : Below wr.heap.size wr (wr.alloc (.cells (hc first z64 0) 62)) := (Below.refl _ _).alloc (Nat.le_refl _) _
      have K1 := keysAt_below K00 bl1
      have B1 := byt_below by0 bl1
      have Z1 : Hid ((wr.alloc (.cells (hc first z64 0) 62)).heap.size = wr.heap.size + 1) := by show _ = _; simp
      go_wp2_with fail
      generalize (wr.alloc (.cells (hc first z64 0) 62)) = W1 at *
      refine (write_any wr.heap.size [] (xorB B p) (some ⟨w.heap.size, 0, none⟩) 64 64 W1 LX r1 B1 (fun b off e => by cases e; omega) K1 (by omega) (by simp) (by omega) (by omega)).mono ?_
      rintro e w2 ⟨rfl, r2, hbut⟩
      rw [List.nil_append] at r2
      have hz := hbut.size
      have BB : Hid (Below w.heap.size w w2) := (hbel.trans (bl1.mono (by omega))).trans (hbut.below (by rw [Z1.out]; omega) (by omega))
      have GG : Hid (wr.heap.size < w2.heap.size) := by show _ < _; have := Z1.out; omega
      have RR : Hid (Rep w2 wr.heap.size (xorB B p)) := r2
      clear r1 bl1 K1 B1 K00 F0 by0 r2 hbut
      go_wp2
      go_ret
      exact ⟨_, rfl, by omega, GG.out, RR.out, BB.out⟩
end Go.Proofs.YtpjkhkobjhnahaaDoor
