import Derived.Test.YtifendlpeebofaaGreatDoorRows
import Derived.Test.YtifendlpeebofaaGreatDoorBase
import Derived.Test.YtifendlpeebofaaGreatDoorLaws
import Derived.Test.YtifendlpeebofaaGreatDoorE
import Derived.Deep.Upon
import Derived.Deep.MidRow
import Derived.Deep.OwnRows
namespace Go.Proofs.YtifendlpeebofaaGreatDoor
open Go.RowKit
set_option linter.unusedVariables false
set_option linter.unusedSimpArgs false

def z32 : List UInt8 := List.replicate 32 0
theorem z32_len : z32.length = 32 := rfl
theorem hzH (w : World) : (zeroValue 34).run Tryz.prog w = .ok (.agg (bs z32)) w := (zero_of_info (n := 32) (by kernel_rfl)).1 w
theorem hsH : (Tryz.prog.info? 34).map (·.size) = some 32 := by kernel_rfl
theorem bs_one (l : List UInt8) : (bs l).all (·.oneCell') = true := by
  simp [bs, Value.oneCell']

/-- The cells of a hash. -/
def hcs (h : List UInt8) : List Value := (bs h).toList
theorem hcs_len (h : List UInt8) : (hcs h).length = h.length := by simp [hcs, bs]
theorem hcs_arr (h : List UInt8) : (hcs h).toArray = bs h := by simp [hcs]
theorem hcs_one (h : List UInt8) : ∀ v ∈ hcs h, v.oneCell' = true := by
  intro v hv
  simp [hcs, bs] at hv
  obtain ⟨b, _, rfl⟩ := hv
  rfl
/-- All have 32 bytes. -/
def All32 (L : List (List UInt8)) : Prop := ∀ h ∈ L, h.length = 32
theorem All32.get {L : List (List UInt8)} (hL : All32 L) {i : Nat} {h : List UInt8} (e : L[i]? = some h) : h.length = 32 := hL h (List.mem_of_getElem? e)
theorem All32.set {L : List (List UInt8)} (hL : All32 L) (i : Nat) {h : List UInt8} (hh : h.length = 32) : All32 (L.set i h) := fun x hx => by
  rcases List.mem_or_eq_of_mem_set hx with h1 | rfl
  · exact hL x h1
  · exact hh

/-- Hashes lie in a block from a place on. -/
def Hs (w : World) (b off : Nat) (L : List (List UInt8)) : Prop := ∀ i h, L[i]? = some h → w.rangeAt b (off + 32 * i) (hcs h)
/-- A slice of hashes that lies in memory. -/
def Hl (w : World) (a : Option Addr) (L : List (List UInt8)) : Prop := L = [] ∨ ∃ b off, a = some ⟨b, off, none⟩ ∧ Hs w b off L

theorem rangeAt_lt {w : World} {b o : Nat} {cs : List Value} (h : w.rangeAt b o cs) (h0 : 0 < cs.length) : b < w.heap.size :=
  World.block_lt_of_cell? w ⟨b, o + 0, none⟩ (h 0 _ (List.getElem?_eq_getElem h0))
theorem rangeAt_below {B : Nat} {w w' : World} {b o : Nat} {cs : List Value} (h : w.rangeAt b o cs) (hb : Below B w w') (hB : b < B) : w'.rangeAt b o cs := fun j v hv => by
  rw [hb.cell (p := ⟨b, o + j, none⟩) hB]; exact h j v hv
theorem there_below {B : Nat} {w w' : World} {b o n : Nat} (h : w.there b o n) (hb : Below B w w') (hB : b < B) : w'.there b o n := fun j hj => by
  rw [hb.cell (p := ⟨b, o + j, none⟩) hB, hb.frozen (p := ⟨b, o + j, none⟩) hB]; exact h j hj
theorem Hs.below {B : Nat} {w w' : World} {b off : Nat} {L : List (List UInt8)} (h : Hs w b off L) (hb : Below B w w') (hB : b < B) : Hs w' b off L := fun i x e => rangeAt_below (h i x e) hb hB
theorem Hs.lt {w : World} {b off : Nat} {L : List (List UInt8)} (h : Hs w b off L) (hL : All32 L) (h0 : 0 < L.length) : b < w.heap.size := by
  have e := List.getElem?_eq_getElem h0
  exact rangeAt_lt (h 0 _ e) (by rw [hcs_len, hL.get e]; omega)
theorem Hl.below {w w' : World} {a : Option Addr} {L : List (List UInt8)} (h : Hl w a L) (hL : All32 L) (hb : Below w.heap.size w w') : Hl w' a L := by
  rcases h with rfl | ⟨b, off, rfl, hs⟩
  · exact .inl rfl
  · by_cases h0 : 0 < L.length
    · exact .inr ⟨b, off, rfl, hs.below hb (hs.lt hL h0)⟩
    · exact .inl (List.eq_nil_of_length_eq_zero (by omega))
theorem Hl.at {w : World} {a : Option Addr} {L : List (List UInt8)} (h : Hl w a L) {i : Nat} (hi : i < L.length) : ∃ b off, a = some ⟨b, off, none⟩ ∧ Hs w b off L := by
  rcases h with rfl | h
  · simp at hi
  · exact h
theorem below_setCells {B : Nat} {a w : World} (h : Below B a w) {g : Nat} (hg : B ≤ g) (o : Nat) (vs : List Value) : Below B a (w.setCells g o vs) := by
  induction vs generalizing w o with
  | nil => exact h
  | cons v r ih => exact ih (h.setCell (by exact hg) v) (o + 1)
theorem size_setCells (w : World) (g o : Nat) (vs : List Value) : (w.setCells g o vs).heap.size = w.heap.size := by
  induction vs generalizing w o with
  | nil => rfl
  | cons v r ih => rw [World.setCells, ih]; simp [World.setCell]

/-- A hash written over another one. -/
theorem Hs.set {w : World} {g off : Nat} {L : List (List UInt8)} (h : Hs w g off L) (hL : All32 L) (i : Nat) (x : List UInt8) (hx : x.length = 32) (hi : i < L.length) (ht : w.there g (off + 32 * i) 32) :
    Hs (w.setCells g (off + 32 * i) (hcs x)) g off (L.set i x) := fun j y e => by
  by_cases hj : i = j
  · subst hj
    rw [List.getElem?_set_self hi] at e
    cases e
    exact World.rangeAt_setCells_same _ _ _ _ (by rw [hcs_len, hx]; exact ht)
  · rw [List.getElem?_set_ne hj] at e
    refine World.rangeAt_setCells_apart (h j y e) _ _ _ ?_
    rw [hcs_len, hcs_len, hx, hL.get e]
    omega
theorem there_part {w : World} {g off n m i : Nat} (h : w.there g off n) (hi : i + m ≤ n) : w.there g (off + i) m := fun j hj => by
  have := h (i + j) (by omega)
  rwa [← Nat.add_assoc] at this

/-- The first k of a list, and zeros up to m. -/
def part (P : List (List UInt8)) (m k : Nat) : List (List UInt8) := P.take k ++ List.replicate (m - k) z32
theorem part_len (P : List (List UInt8)) (m k : Nat) (h : k ≤ m) (hP : P.length = m) : (part P m k).length = m := by simp [part, hP]; omega
theorem part_zero (P : List (List UInt8)) (m : Nat) : part P m 0 = List.replicate m z32 := by simp [part]
theorem part_all (P : List (List UInt8)) (m : Nat) (hP : P.length = m) : part P m m = P := by simp [part, ← hP]
theorem part_set (P : List (List UInt8)) (m k : Nat) (h : k < m) (hP : P.length = m) (x : List UInt8) (hx : P[k]? = some x) : (part P m k).set k x = part P m (k + 1) := by
  apply List.ext_getElem?
  intro i
  have hkl : k < P.length := by omega
  have e : x = P[k] := by rw [List.getElem?_eq_getElem hkl] at hx; exact (Option.some.inj hx).symm
  subst e
  unfold part
  by_cases hi : k = i
  · subst hi
    rw [List.getElem?_set_self (by simp; omega), List.getElem?_append_left (by simp; omega), List.getElem?_take, if_pos (by omega), List.getElem?_eq_getElem hkl]
  · rw [List.getElem?_set_ne hi]
    by_cases h2 : i < k
    · rw [List.getElem?_append_left (by simp; omega), List.getElem?_append_left (by simp; omega), List.getElem?_take, List.getElem?_take, if_pos h2, if_pos (by omega)]
    · rw [List.getElem?_append_right (by simp; omega), List.getElem?_append_right (by simp; omega)]
      simp only [List.length_take, List.getElem?_replicate]
      rw [show min k P.length = k by omega, show min (k + 1) P.length = k + 1 by omega]
      by_cases h3 : i < m
      · rw [if_pos (by omega), if_pos (by omega)]
      · rw [if_neg (by omega), if_neg (by omega)]
theorem all32_part {P : List (List UInt8)} (hP : All32 P) (m k : Nat) : All32 (part P m k) := fun x hx => by
  simp only [part, List.mem_append] at hx
  rcases hx with h | h
  · exact hP x (List.mem_of_mem_take h)
  · rw [List.eq_of_mem_replicate h]; rfl

theorem get_made (m j : Nat) (hj : j < m) : (madeCells (bs z32) m)[j]? = some (.int .u8 0) := by
  have hz : (bs z32).size = 32 := by rw [bs_size]; rfl
  have hlt : j % 32 < (bs z32).size := by rw [hz]; omega
  have hm : (madeCells (bs z32) m)[j]? = (bs z32)[j % 32]? := by
    simp only [madeCells, hz, Array.getElem?_map, Array.getElem?_range, if_pos hj, Option.map_some]
    rw [Array.getElem?_eq_getElem hlt, getElem!_pos (bs z32) (j % 32) hlt]
  rw [hm, bs_get z32 (j % 32) (by rw [z32_len]; omega)]
  have : at8 z32 (j % 32) = 0 := by
    have : ∀ k, k < 32 → at8 z32 k = 0 := by decide
    exact this _ (by omega)
  rw [this]
/-- A made block of zeros. -/
theorem hs_made (w : World) (n : Nat) (t : TypeId) : Hs (w.alloc (.cells (madeCells (bs z32) (n * 32)) t)) w.heap.size 0 (List.replicate n z32) := fun i h e => by
  rw [List.getElem?_replicate] at e
  split at e
  · rename_i hi
    cases e
    intro j v hv
    have hj : j < 32 := by have := (List.getElem?_eq_some_iff.1 hv).1; rwa [hcs_len] at this
    rw [cell_of_row _ _ _ _ _ _ (heap_alloc_new _ _), get_made (n * 32) _ (by omega)]
    have : (bs z32)[j]? = some v := by simpa [hcs] using hv
    rw [bs_get z32 j (by rw [z32_len]; omega)] at this
    have h0 : at8 z32 j = 0 := by
      have : ∀ k, k < 32 → at8 z32 k = 0 := by decide
      exact this _ hj
    rw [h0] at this
    exact this
  · cases e
theorem there_made (w : World) (n : Nat) (t : TypeId) : (w.alloc (.cells (madeCells (bs z32) (n * 32)) t)).there w.heap.size 0 (32 * n) := fun j hj => by
  rw [cell_of_row _ _ _ _ _ _ (heap_alloc_new _ _), get_made (n * 32) _ (by omega)]
  exact ⟨rfl, frozen_of_row _ _ _ _ _ (heap_alloc_new _ _)⟩
end Go.Proofs.YtifendlpeebofaaGreatDoor
