import Derived.Test.YtdajeabhhkgibaaVr
import Derived.Test.YtdajeabhhkgibaaVu
namespace Go.Proofs.Ytdajeabhhkgibaa
open Go.RowKit
set_option linter.unusedVariables false
set_option linter.unusedSimpArgs false

theorem words_ext {a b : Nat → Nat} (h : ∀ n, bitAt a n = bitAt b n) (ha : ∀ i, a i < 18446744073709551616) (hb : ∀ i, b i < 18446744073709551616) : a = b := by
  funext i
  refine Nat.eq_of_testBit_eq fun j => ?_
  by_cases hj : j < 64
  · have := h (64 * i + j)
    unfold bitAt at this
    rw [show (64 * i + j) / 64 = i by omega, show (64 * i + j) % 64 = j by omega] at this
    exact this
  · have k : 18446744073709551616 ≤ 2 ^ j := Nat.le_trans (show 18446744073709551616 ≤ 2 ^ 64 by decide) (Nat.pow_le_pow_right (by omega) (by omega))
    rw [Nat.testBit_lt_two_pow (Nat.lt_of_lt_of_le (ha i) k), Nat.testBit_lt_two_pow (Nat.lt_of_lt_of_le (hb i) k)]
theorem any_same {α : Type} {X Y : List α} (P : α → Bool) (h1 : ∀ x ∈ X, x ∈ Y) (h2 : ∀ x ∈ Y, x ∈ X) : X.any P = Y.any P := by
  rw [Bool.eq_iff_iff, List.any_eq_true, List.any_eq_true]
  exact ⟨fun ⟨x, hx, hp⟩ => ⟨x, h1 x hx, hp⟩, fun ⟨x, hx, hp⟩ => ⟨x, h2 x hx, hp⟩⟩
theorem addL_same (bits : Nat) (hb : 0 < bits) (p : Nat) {X Y : List (List UInt8)} (h1 : ∀ x ∈ X, x ∈ Y) (h2 : ∀ x ∈ Y, x ∈ X) : addL bits hb p (fun _ => 0) X = addL bits hb p (fun _ => 0) Y :=
  words_ext (fun n => by rw [bit_addL, bit_addL, any_same _ h1 h2]) (addL_lt hb p (fun i => by omega) X) (addL_lt hb p (fun i => by omega) Y)
theorem orW_sub (bits : Nat) (hb : 0 < bits) (p : Nat) {X Y : List (List UInt8)} (h1 : ∀ x ∈ X, x ∈ Y) : orW (addL bits hb p (fun _ => 0) X) (addL bits hb p (fun _ => 0) Y) ((bits + 63) / 64) = addL bits hb p (fun _ => 0) Y := by
  refine words_ext (fun n => ?_) (orW_lt (addL_lt hb p (fun i => by omega) X) (addL_lt hb p (fun i => by omega) Y) _) (addL_lt hb p (fun i => by omega) Y)
  by_cases hn : n / 64 < (bits + 63) / 64
  · rw [bit_orW _ _ _ _ hn, bit_addL, bit_addL, bit_zero, Bool.or_false, Bool.or_false]
    cases hX : X.any (fun h => (spotL h bits hb p).any (fun x => decide (n = x.val))) with
    | false => rfl
    | true =>
      obtain ⟨x, hx, hp⟩ := List.any_eq_true.1 hX
      rw [List.any_eq_true.2 ⟨x, h1 x hx, hp⟩]
      rfl
  · rw [bit_orW_out _ _ _ _ hn]
    have w1 : bitAt (addL bits hb p (fun _ => 0) X) n = false := by
      cases h : bitAt (addL bits hb p (fun _ => 0) X) n with
      | false => rfl
      | true => have := within_addL hb p (within_zero bits) X n h; omega
    have w2 : bitAt (addL bits hb p (fun _ => 0) Y) n = false := by
      cases h : bitAt (addL bits hb p (fun _ => 0) Y) n with
      | false => rfl
      | true => have := within_addL hb p (within_zero bits) Y n h; omega
    rw [w1, w2]
theorem S2_pos (n j x : Nat) (hj : j < n) (h : x.testBit j = true) : 0 < PC.S 2 n x := by
  induction n generalizing j x with
  | zero => omega
  | succ n ih =>
    rw [PC.S]
    cases j with
    | zero =>
      rw [Nat.testBit_zero] at h
      have := of_decide_eq_true h
      omega
    | succ j =>
      rw [Nat.testBit_succ] at h
      have := ih j (x / 2) (by omega) h
      omega
theorem cntW_pos {ws : Nat → Nat} {n m : Nat} (h : bitAt ws n = true) (hm : n / 64 < m) : 0 < cntW ws m := by
  induction m with
  | zero => omega
  | succ m ih =>
    rw [cntW]
    by_cases e : n / 64 = m
    · have := S2_pos 64 (n % 64) (ws m) (by omega) (by rw [← e]; exact h)
      omega
    · have := ih (by omega)
      omega
theorem cnt_added {bits : Nat} (hb : 0 < bits) {p : Nat} (hp : 1 ≤ p) {L : List (List UInt8)} (hL : 0 < L.length) : 0 < cntW (addL bits hb p (fun _ => 0) L) ((bits + 63) / 64) := by
  obtain ⟨h, hh⟩ := List.exists_mem_of_length_pos hL
  have hx : spotF h bits hb 0 ∈ spotL h bits hb p := by
    unfold spotL
    exact List.mem_map.2 ⟨0, List.mem_range.2 (by omega), rfl⟩
  have := all_added (ws := fun _ => 0) hb p hh
  unfold allBits at this
  have h2 := List.all_eq_true.1 this _ hx
  exact cntW_pos h2 (by have := (spotF h bits hb 0).isLt; omega)
/-- Three filters beside one another. -/
structure ThreeF (N : Nat) (w W : World) (qa ga qb gb qc gc bits p : Nat) (wa wb wc : Nat → Nat) : Prop where
  a : FW W qa ga bits p wa
  b : FW W qb gb bits p wb
  c : FW W qc gc bits p wc
  be : Below N w W
  na : N ≤ ga
  nb : N ≤ gb
  nc : N ≤ gc
  d : ga ≠ gb ∧ ga ≠ gc ∧ gb ≠ gc ∧ qa ≠ gb ∧ qa ≠ gc ∧ qb ≠ ga ∧ qb ≠ gc ∧ qc ≠ ga ∧ qc ≠ gb
variable {N : Nat} {w W W' : World} {qa ga qb gb qc gc bits p : Nat} {wa wb wc : Nat → Nat}
theorem ThreeF.nW (h : ThreeF N w W qa ga qb gb qc gc bits p wa wb wc) : N ≤ W.heap.size := by have := h.a.wr.lt; have := h.na; omega
theorem ThreeF.below (h : ThreeF N w W qa ga qb gb qc gc bits p wa wb wc) (hb : Below W.heap.size W W') : ThreeF N w W' qa ga qb gb qc gc bits p wa wb wc :=
  ⟨h.a.below hb, h.b.below hb, h.c.below hb, h.be.trans (hb.mono h.nW), h.na, h.nb, h.nc, h.d⟩
theorem ThreeF.addA {v : Nat → Nat} (h : ThreeF N w W qa ga qb gb qc gc bits p wa wb wc) (hf : FW W' qa ga bits p v) (hk : Kb W.heap.size ga W W') : ThreeF N w W' qa ga qb gb qc gc bits p v wb wc := by
  obtain ⟨d1, d2, d3, d4, d5, d6, d7, d8, d9⟩ := h.d
  exact ⟨hf, h.b.of (hk.block qb h.b.fc.lt d6) (hk.block gb h.b.wr.lt d1.symm), h.c.of (hk.block qc h.c.fc.lt d8) (hk.block gc h.c.wr.lt d2.symm), hk.toBelow h.be h.nW h.na, h.na, h.nb, h.nc, h.d⟩
theorem ThreeF.addB {v : Nat → Nat} (h : ThreeF N w W qa ga qb gb qc gc bits p wa wb wc) (hf : FW W' qb gb bits p v) (hk : Kb W.heap.size gb W W') : ThreeF N w W' qa ga qb gb qc gc bits p wa v wc := by
  obtain ⟨d1, d2, d3, d4, d5, d6, d7, d8, d9⟩ := h.d
  exact ⟨h.a.of (hk.block qa h.a.fc.lt d4) (hk.block ga h.a.wr.lt d1), hf, h.c.of (hk.block qc h.c.fc.lt d9) (hk.block gc h.c.wr.lt d3.symm), hk.toBelow h.be h.nW h.nb, h.na, h.nb, h.nc, h.d⟩
theorem ThreeF.addC {v : Nat → Nat} (h : ThreeF N w W qa ga qb gb qc gc bits p wa wb wc) (hf : FW W' qc gc bits p v) (hk : Kb W.heap.size gc W W') : ThreeF N w W' qa ga qb gb qc gc bits p wa wb v := by
  obtain ⟨d1, d2, d3, d4, d5, d6, d7, d8, d9⟩ := h.d
  exact ⟨h.a.of (hk.block qa h.a.fc.lt d5) (hk.block ga h.a.wr.lt d2), h.b.of (hk.block qb h.b.fc.lt d7) (hk.block gb h.b.wr.lt d3), hf, hk.toBelow h.be h.nW h.nc, h.na, h.nb, h.nc, h.d⟩
theorem ThreeF.joinC {v : Nat → Nat} (h : ThreeF N w W qa ga qb gb qc gc bits p wa wb wc) (hf : FW W' qc gc bits p v) (hk : W.grownBy W' (some gc)) : ThreeF N w W' qa ga qb gb qc gc bits p wa wb v :=
  h.addC hf (Kb.grown hk (Nat.le_refl _))
end Go.Proofs.Ytdajeabhhkgibaa
