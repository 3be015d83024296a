import Derived.WalkKit
import Derived.Test.YtbpmpcmmdiaiiaaDoorP0
import Derived.Test.YtbpmpcmmdiaiiaaDoorP5
import Derived.Lib.SliceRun
import Derived.Shelf.SlSortCmp.WholeK
import Derived.Shelf.SlSortCmp.NoneTotal
import Derived.Shelf.SlGeneric
import Derived.Ground.SlsfProg
import Derived.Test.YtbpmpcmmdiaiiaaDoorRows
import Derived.WalkLawsBesides
import Derived.Deep.DeepAppendWide
import Derived.OwnWalk
import Derived.Lib.BufferMore
import Derived.Maps.AppendAt
namespace Go.Proofs.YtbpmpcmmdiaiiaaDoor
open Go.RowKit
set_option linter.unusedVariables false
set_option linter.unusedSimpArgs false

/-- Two rows of 32 bytes have the same digits up to number n. -/
def Agree (a b : List UInt8) (n : Nat) : Prop := ∀ j, j < n → dig a j = dig b j
theorem Agree.mono {a b : List UInt8} {n m : Nat} (h : Agree a b n) (hm : m ≤ n) : Agree a b m := fun j hj => h j (by omega)
theorem Agree.symm {a b : List UInt8} {n : Nat} (h : Agree a b n) : Agree b a n := fun j hj => (h j hj).symm
theorem Agree.trans {a b c : List UInt8} {n : Nat} (h : Agree a b n) (k : Agree b c n) : Agree a c n := fun j hj => (h j hj).trans (k j hj)
theorem agree_zero (a b : List UInt8) : Agree a b 0 := fun j hj => by omega

theorem dig_even (h : List UInt8) (i : Nat) : dig h (2 * i) = at8 h i / 16 := by unfold dig; rw [if_pos (by omega), show 2 * i / 2 = i by omega]
theorem dig_odd (h : List UInt8) (i : Nat) : dig h (2 * i + 1) = at8 h i % 16 := by unfold dig; rw [if_neg (by omega), show (2 * i + 1) / 2 = i by omega]
theorem at8_dig (h : List UInt8) (i : Nat) : at8 h i = dig h (2 * i) * 16 + dig h (2 * i + 1) := by rw [dig_even, dig_odd]; have := at8_lo h i; omega

theorem agree_all {a b : List UInt8} (ha : a.length = 32) (hb : b.length = 32) (h : Agree a b 64) : a = b :=
  at8_ext 32 ha hb fun i hi => by rw [at8_dig, at8_dig, h (2 * i) (by omega), h (2 * i + 1) (by omega)]

/-- How many of the first n digits, counted from number k on, agree till one parts. -/
def cmF (a b : List UInt8) : Nat → Nat → Nat
  | 0, k => k
  | n + 1, k => if dig a k = dig b k then cmF a b n (k + 1) else k
/-- With how many digits both begin. -/
def cm (a b : List UInt8) : Nat := cmF a b 64 0
theorem cmF_spec (a b : List UInt8) : ∀ n k, Agree a b k → k ≤ cmF a b n k ∧ cmF a b n k ≤ k + n ∧ Agree a b (cmF a b n k) ∧ (cmF a b n k < k + n → dig a (cmF a b n k) ≠ dig b (cmF a b n k))
  | 0, k, h => ⟨Nat.le_refl _, by simp [cmF], h, by simp [cmF]⟩
  | n + 1, k, h => by
    unfold cmF
    split
    · rename_i e
      have h' : Agree a b (k + 1) := fun j hj => by
        by_cases ej : j = k
        · subst ej; exact e
        · exact h j (by omega)
      obtain ⟨h1, h2, h3, h4⟩ := cmF_spec a b n (k + 1) h'
      exact ⟨by omega, by omega, h3, fun hh => h4 (by omega)⟩
    · rename_i e
      exact ⟨Nat.le_refl _, by omega, h, fun _ => e⟩
theorem cm_le (a b : List UInt8) : cm a b ≤ 64 := by have := (cmF_spec a b 64 0 (agree_zero a b)).2.1; unfold cm; omega
theorem cm_agree (a b : List UInt8) : Agree a b (cm a b) := (cmF_spec a b 64 0 (agree_zero a b)).2.2.1
theorem cm_parts (a b : List UInt8) (h : cm a b < 64) : dig a (cm a b) ≠ dig b (cm a b) := (cmF_spec a b 64 0 (agree_zero a b)).2.2.2 (by unfold cm at h; omega)
theorem cm_eq {a b : List UInt8} {n : Nat} (hn : n ≤ 64) (h : Agree a b n) (hp : n < 64 → dig a n ≠ dig b n) : cm a b = n := by
  by_cases h1 : cm a b < n
  · exact absurd (h _ h1) (cm_parts a b (by omega))
  · by_cases h2 : n < cm a b
    · exact absurd (cm_agree a b n h2) (hp (by have := cm_le a b; omega))
    · omega
theorem le_cm {a b : List UInt8} {n : Nat} (hn : n ≤ 64) : n ≤ cm a b ↔ Agree a b n := by
  constructor
  · intro h; exact (cm_agree a b).mono h
  · intro h
    by_cases h1 : cm a b < n
    · exact absurd (h _ h1) (cm_parts a b (by omega))
    · omega
theorem cm_lt {a b : List UInt8} (ha : a.length = 32) (hb : b.length = 32) (h : a ≠ b) : cm a b < 64 := by
  by_cases h1 : cm a b < 64
  · exact h1
  · have := cm_le a b
    exact absurd (agree_all ha hb ((cm_agree a b).mono (by omega))) h
theorem cm_comm (a b : List UInt8) : cm a b = cm b a :=
  cm_eq (cm_le b a) (cm_agree b a).symm (fun h => fun e => cm_parts b a h e.symm)

/-- The first place at which two rows part. -/
theorem first_part {a b : List UInt8} (ha : a.length = 32) (hb : b.length = 32) (h : a ≠ b) : ∃ k, k < 32 ∧ (∀ j, j < k → at8 a j = at8 b j) ∧ at8 a k ≠ at8 b k := by
  have hc := cm_lt ha hb h
  have hg := cm_agree a b
  have hp := cm_parts a b hc
  refine ⟨cm a b / 2, by omega, fun j hj => ?_, fun e => hp ?_⟩
  · rw [at8_dig, at8_dig, hg (2 * j) (by omega), hg (2 * j + 1) (by omega)]
  · by_cases h2 : cm a b % 2 = 0
    · have e1 : cm a b = 2 * (cm a b / 2) := by omega
      rw [e1, dig_even, dig_even, e]
    · have e1 : cm a b = 2 * (cm a b / 2) + 1 := by omega
      rw [e1, dig_odd, dig_odd, e]

/-- Not behind: by digits. -/
theorem cmpL_digits {a b : List UInt8} (ha : a.length = 32) (hb : b.length = 32) (n : Nat) (hn : n < 64) (hg : Agree a b n) (h : dig a n < dig b n) : cmpL a b = -1 := by
  have hk : ∀ j, j < n / 2 → at8 a j = at8 b j := fun j hj => by rw [at8_dig, at8_dig, hg (2 * j) (by omega), hg (2 * j + 1) (by omega)]
  refine (cmpL_at a b (n / 2) (by omega) (by omega) hk).1 ?_
  by_cases h2 : n % 2 = 0
  · have e1 : n = 2 * (n / 2) := by omega
    rw [e1, dig_even, dig_even] at h
    omega
  · have e1 : n = 2 * (n / 2) + 1 := by omega
    have h3 := hg (2 * (n / 2)) (by omega)
    rw [dig_even, dig_even] at h3
    rw [e1, dig_odd, dig_odd] at h
    omega
theorem cmpL_neg {a b : List UInt8} (ha : a.length = 32) (hb : b.length = 32) : cmpL b a = - cmpL a b := by
  by_cases e : a = b
  · subst e; rw [cmpL_same]; rfl
  · obtain ⟨k, hk, h1, h2⟩ := first_part ha hb e
    have p := cmpL_at a b k (by omega) (by omega) h1
    have q := cmpL_at b a k (by omega) (by omega) (fun j hj => (h1 j hj).symm)
    by_cases h3 : at8 a k < at8 b k
    · rw [p.1 h3, q.2 h3]; rfl
    · have h4 : at8 b k < at8 a k := by omega
      rw [p.2 h4, q.1 h4]
theorem cmpL_zero {a b : List UInt8} (ha : a.length = 32) (hb : b.length = 32) : cmpL a b = 0 ↔ a = b := by
  constructor
  · intro h
    by_cases e : a = b
    · exact e
    · obtain ⟨k, hk, h1, h2⟩ := first_part ha hb e
      have p := cmpL_at a b k (by omega) (by omega) h1
      by_cases h3 : at8 a k < at8 b k
      · rw [p.1 h3] at h; cases h
      · rw [p.2 (by omega)] at h; cases h
  · intro h; subst h; exact cmpL_same a
/-- Less: at the first parting digit. -/
theorem cmpL_lt_iff {a b : List UInt8} (ha : a.length = 32) (hb : b.length = 32) : cmpL a b < 0 ↔ ∃ n, n < 64 ∧ Agree a b n ∧ dig a n < dig b n := by
  constructor
  · intro h
    have hne : a ≠ b := fun e => by subst e; rw [cmpL_same] at h; omega
    have hc := cm_lt ha hb hne
    refine ⟨cm a b, hc, cm_agree a b, ?_⟩
    have hp := cm_parts a b hc
    by_cases h3 : dig a (cm a b) < dig b (cm a b)
    · exact h3
    · have := cmpL_digits hb ha (cm a b) hc (cm_agree a b).symm (by omega)
      rw [cmpL_neg ha hb] at this
      omega
  · rintro ⟨n, h1, h2, h3⟩
    rw [cmpL_digits ha hb n h1 h2 h3]; omega
theorem lt_trans {a b c : List UInt8} (ha : a.length = 32) (hb : b.length = 32) (hc : c.length = 32) (h1 : cmpL a b < 0) (h2 : cmpL b c < 0) : cmpL a c < 0 := by
  rw [cmpL_lt_iff ha hb] at h1
  rw [cmpL_lt_iff hb hc] at h2
  rw [cmpL_lt_iff ha hc]
  obtain ⟨n, n1, n2, n3⟩ := h1
  obtain ⟨m, m1, m2, m3⟩ := h2
  by_cases h : n < m
  · exact ⟨n, n1, n2.trans (m2.mono (by omega)), by rw [← m2 n h]; exact n3⟩
  · by_cases h' : m < n
    · exact ⟨m, m1, (n2.mono (by omega)).trans m2, by rw [n2 m h']; exact m3⟩
    · obtain rfl : n = m := by omega
      exact ⟨n, n1, n2.trans m2, by omega⟩
/-- a, p, x in their order: what a and x have in common p and x have too. -/
theorem cm_between {a p x : List UInt8} (ha : a.length = 32) (hp : p.length = 32) (hx : x.length = 32) (h1 : ¬ cmpL p a < 0) (h2 : ¬ cmpL x p < 0) : cm a x ≤ cm p x := by
  by_cases h : cm p x < cm a x
  · exfalso
    have hl := cm_le a x
    have hg := (cm_agree p x)
    have hax : dig a (cm p x) = dig x (cm p x) := cm_agree a x _ h
    have hne := cm_parts p x (by omega)
    by_cases h3 : dig p (cm p x) < dig x (cm p x)
    · apply h1
      rw [cmpL_digits hp ha (cm p x) (by omega) (hg.trans ((cm_agree a x).mono (by omega)).symm) (by omega)]
      omega
    · apply h2
      rw [cmpL_digits hx hp (cm p x) (by omega) hg.symm (by omega)]
      omega
  · omega

/-- How many digits tell hashes apart: by who is among them alone. -/
def IsLead (S : List UInt8 → Prop) (n : Nat) : Prop :=
  (∀ a b, S a → S b → a ≠ b → cm a b < n) ∧ (n = 0 ∨ ∃ a b, S a ∧ S b ∧ a ≠ b ∧ cm a b + 1 = n)
theorem IsLead.unique {S : List UInt8 → Prop} {n m : Nat} (h : IsLead S n) (k : IsLead S m) : n = m := by
  have key : ∀ n m, IsLead S n → IsLead S m → ¬ n < m := by
    intro n m h k hlt
    rcases k.2 with k2 | ⟨a, b, sa, sb, hab, e⟩
    · omega
    · have := h.1 a b sa sb hab; omega
  have := key n m h k
  have := key m n k h
  omega
end Go.Proofs.YtbpmpcmmdiaiiaaDoor

namespace Go.Proofs.YtbpmpcmmdiaiiaaDoor
open Go.RowKit
set_option linter.unusedVariables false
set_option linter.unusedSimpArgs false

theorem range_row {w : World} {g : Nat} {l : List UInt8} {t : TypeId} {fr : Nat × Nat} (h : w.heap[g]? = some (.cells (bs l) t fr)) : w.rangeAt g 0 (hcs l) := fun j v hv => by
  rw [Nat.zero_add, cell_of_row w g j _ _ _ h]
  simpa [hcs] using hv
theorem hcs_pos {l : List UInt8} (h : l.length = 32) : 0 < (hcs l).length := by rw [hcs_len, h]; omega
theorem sizeH {l : List UInt8} (h : l.length = 32) : (Tryd.prog.info? 31).map (·.size) = some (bs l).toList.length := by
  rw [show (bs l).toList = hcs l from rfl, hcs_len, h]; exact hsH
end Go.Proofs.YtbpmpcmmdiaiiaaDoor

namespace Go.Proofs.YtbpmpcmmdiaiiaaDoor
open Go.RowKit
set_option linter.unusedVariables false
set_option linter.unusedSimpArgs false

theorem slice_fromH (g off n cap i : Nat) (w : World) (hi : i < n) (hc : n ≤ cap) : (Instr.slice 32 (.slice (some ⟨g, off, none⟩) n cap) (some (.int .i64 (i : Int))) none none).run Tryd.prog w = .ok (.slice (some ⟨g, off + 32 * i, none⟩) (n - i) (cap - i)) w := by
  obtain ⟨inf, hi', hz, hs, hb⟩ := infoH
  have h1 : i ≤ n := by omega
  have h2 : ¬ cap = i := by omega
  simp [Instr.slice, Instr.sliceBounds, Instr.sliceBound, asIntOf, run_underlying Tryd.underlying32, Go.sizeOf, typeInfo, hi', hs, h1, h2, hc, Addr.add_mid]
theorem slice_toH (g off n cap i : Nat) (w : World) (hi : i ≤ cap) : (Instr.slice 32 (.slice (some ⟨g, off, none⟩) n cap) none (some (.int .i64 (i : Int))) none).run Tryd.prog w = .ok (.slice (some ⟨g, off, none⟩) i cap) w := by
  obtain ⟨inf, hi', hz, hs, hb⟩ := infoH
  simp [Instr.slice, Instr.sliceBounds, Instr.sliceBound, asIntOf, run_underlying Tryd.underlying32, Go.sizeOf, typeInfo, hi', hs, hi, Addr.add_mid]
theorem zeroCells_one (n : Nat) : ∀ v ∈ (Builtin.zeroCells (bs z32) n).toList, v.oneCell' = true := by
  intro v hv
  have hz : (bs z32).size = 32 := by rw [bs_size]; rfl
  simp only [Builtin.zeroCells, hz, Array.toList_map, List.mem_map] at hv
  obtain ⟨i, _, rfl⟩ := hv
  have hlt : i % 32 < (bs z32).size := by rw [hz]; omega
  rw [getElem!_pos (bs z32) (i % 32) hlt]
  exact hcs_one z32 _ (by simp [hcs])
theorem run_clear_gen (w : World) (ty : TypeId) (g o n c : Nat) (Z : Array Value) (hn : 0 < n) (hv : ∀ w, (zeroValue 31).run Tryd.prog w = .ok (.agg Z) w)
    (hst : (storeCells ⟨g, o, none⟩ (Builtin.zeroCells Z n).toList).run Tryd.prog w = .ok () (w.setCells g o (Builtin.zeroCells Z n).toList)) :
    (Builtin.clear_ #[32] ty #[.slice (some ⟨g, o, none⟩) n c]).run Tryd.prog w = .ok (.tuple #[]) (w.setCells g o (Builtin.zeroCells Z n).toList) := by
  obtain ⟨m, rfl⟩ : ∃ m, n = m + 1 := ⟨n - 1, by omega⟩
  simp only [Builtin.clear_, List.getElem?_toArray, List.getElem?_cons_zero, Sem.run_bind, run_underlying Tryd.underlying32, Result.andThen_ok, hv, Value.cells, hst, Sem.run_pure]
theorem run_clearH (w : World) (ty : TypeId) (g o n c : Nat) (hn : 0 < n) (ht : w.there g o (32 * n)) :
    (Builtin.clear_ #[32] ty #[.slice (some ⟨g, o, none⟩) n c]).run Tryd.prog w = .ok (.tuple #[]) (w.setCells g o (Builtin.zeroCells (bs z32) n).toList) := by
  have hz : (bs z32).size = 32 := by rw [bs_size]; rfl
  have hlen : (Builtin.zeroCells (bs z32) n).toList.length = n * 32 := by rw [Array.length_toList, size_zeroCells, hz]
  have hst := run_storeCells_cells (P := Tryd.prog) g o (Builtin.zeroCells (bs z32) n).toList 0 w (fun j hj => by rw [hlen] at hj; exact (ht j (by omega)).1) (fun j hj => by rw [hlen] at hj; exact (ht j (by omega)).2) (zeroCells_one n)
  simp only [Nat.add_zero] at hst
  exact run_clear_gen w ty g o n c (bs z32) hn hzH hst
theorem zeroCells_len (n : Nat) : (Builtin.zeroCells (bs z32) n).toList.length = 32 * n := by
  have hz : (bs z32).size = 32 := by rw [bs_size]; rfl
  rw [Array.length_toList, size_zeroCells, hz]; omega
/-- Hashes ahead of what is written over stay. -/
theorem hs_clear {w : World} {g i n : Nat} {M : List (List UInt8)} (h : Hs w g 0 M) (hM : All32 M) (hi : i ≤ M.length) : Hs (w.setCells g (32 * i) (Builtin.zeroCells (bs z32) n).toList) g 0 (M.take i) := fun j x e => by
  rw [List.getElem?_take] at e
  split at e
  · rename_i hj
    refine World.rangeAt_setCells_apart (h j x e) _ _ _ ?_
    rw [hcs_len, hM.get e]
    omega
  · cases e

/-- Of neighbours that are alike the first alone, what stood ahead being told. -/
def ddF (p : List UInt8) : List (List UInt8) → List (List UInt8)
  | [] => []
  | x :: r => if x = p then ddF p r else x :: ddF x r
def dd : List (List UInt8) → List (List UInt8)
  | [] => []
  | x :: r => x :: ddF x r
theorem ddF_snoc (p : List UInt8) (l : List (List UInt8)) (x : List UInt8) : ddF p (l ++ [x]) = if x = (l.getLast?).getD p then ddF p l else ddF p l ++ [x] := by
  induction l generalizing p with
  | nil =>
    simp only [List.nil_append, ddF, List.getLast?_nil, Option.getD_none]
    by_cases h : x = p <;> simp [h]
  | cons y r ih =>
    simp only [List.cons_append, ddF]
    have hl : ((y :: r).getLast?).getD p = (r.getLast?).getD y := by
      cases r with
      | nil => simp
      | cons z s => simp [List.getLast?_cons_cons, List.getLast?_cons]
    rw [hl]
    by_cases hy : y = p
    · subst hy
      rw [if_pos rfl, if_pos rfl, ih y]
    · rw [if_neg hy, if_neg hy, ih y]
      split <;> simp
theorem dd_snoc (L : List (List UInt8)) (k : Nat) (p x : List UInt8) (hk : 1 ≤ k) (hp : L[k - 1]? = some p) (hx : L[k]? = some x) : dd (L.take (k + 1)) = if x = p then dd (L.take k) else dd (L.take k) ++ [x] := by
  have ht : L.take (k + 1) = L.take k ++ [x] := by rw [List.take_add_one, hx]; rfl
  rw [ht]
  have hkl : k ≤ L.length := by have := (List.getElem?_eq_some_iff.1 hx).1; omega
  cases hq : L.take k with
  | nil =>
    have := congrArg List.length hq
    rw [List.length_take, List.length_nil] at this
    omega
  | cons y r =>
    have hlast : (r.getLast?).getD y = p := by
      have h1 : (L.take k).getLast? = some p := by
        rw [List.getLast?_eq_getElem?, List.length_take, show min k L.length = k by omega, List.getElem?_take, if_pos (by omega), hp]
      rw [hq] at h1
      cases r with
      | nil => simpa using h1
      | cons z s => simpa [List.getLast?_cons_cons] using congrArg (fun o => o.getD y) h1
    simp only [List.cons_append, dd]
    rw [ddF_snoc, hlast]
    split <;> simp
theorem dd_take_one (L : List (List UInt8)) : dd (L.take 1) = L.take 1 := by
  cases L with
  | nil => rfl
  | cons x r => simp [dd, ddF]
theorem dd_short {L : List (List UInt8)} (h : L.length < 2) : dd L = L := by
  have := dd_take_one L
  rwa [List.take_of_length_le (by omega)] at this
theorem ddF_mem (p : List UInt8) (l : List (List UInt8)) (x : List UInt8) : x ∈ ddF p l → x ∈ l := by
  induction l generalizing p with
  | nil => simp [ddF]
  | cons y r ih =>
    simp only [ddF]
    split
    · intro h; exact List.mem_cons_of_mem _ (ih p h)
    · intro h
      rcases List.mem_cons.1 h with rfl | h
      · simp
      · exact List.mem_cons_of_mem _ (ih y h)
theorem dd_mem {L : List (List UInt8)} {x : List UInt8} : x ∈ dd L → x ∈ L := by
  cases L with
  | nil => simp [dd]
  | cons y r =>
    simp only [dd]
    intro h
    rcases List.mem_cons.1 h with rfl | h
    · simp
    · exact List.mem_cons_of_mem _ (ddF_mem y r x h)
theorem all32_dd {L : List (List UInt8)} (h : All32 L) : All32 (dd L) := fun x hx => h x (dd_mem hx)
end Go.Proofs.YtbpmpcmmdiaiiaaDoor

namespace Go.Proofs.YtbpmpcmmdiaiiaaDoor
open Go.RowKit
set_option linter.unusedVariables false
set_option linter.unusedSimpArgs false

set_option maxHeartbeats 1000000 in
/-- Fewer than two: as they are. -/
theorem compact_few (a : Option Addr) (n cap : Nat) (hn : n < 2) (w : World) : Calls Tryd.prog 70 #[.slice a n cap] w fun e w' => e = .returned (.slice a n cap) ∧ w' = w := by
  have h : (n : Int) < 2 := by omega
  go_enter Tryd.func70, Tryd.ntmps70
  go_wp2
  go_ret
  exact ⟨rfl, rfl⟩

/-- How the first ones lie, and that the others are as they were. -/
def Cpt (L M : List (List UInt8)) (i k : Nat) : Prop := M.length = L.length ∧ All32 M ∧ M.take i = dd (L.take k) ∧ (dd (L.take k)).length = i ∧ i < k ∧ ∀ p, k - 1 ≤ p → M[p]? = L[p]?

set_option maxRecDepth 100000 in
set_option maxHeartbeats 4000000 in
theorem compact_any (g : Nat) (L : List (List UInt8)) (cap : Nat) (w : World) (hL : All32 L) (hn2 : 2 ≤ L.length) (hb : L.length ≤ 4398046511104) (hcap : L.length ≤ cap) (hg : g < w.heap.size) (hs : Hs w g 0 L) (ht : w.there g 0 (32 * L.length)) :
    Calls Tryd.prog 70 #[.slice (some ⟨g, 0, none⟩) L.length cap] w fun e w' => e = .returned (.slice (some ⟨g, 0, none⟩) (dd L).length cap) ∧ Hs w' g 0 (dd L) ∧ (∀ B, B ≤ g → Below B w w') ∧ g < w'.heap.size := by
  obtain ⟨n, hnn⟩ : ∃ n, n = L.length := ⟨_, rfl⟩
  have HDD : Hid (dd (L.take n) = dd L) := (by rw [hnn, List.take_length] : dd (L.take n) = dd L)
  rw [← hnn] at hb hn2 ht hcap ⊢
  have HN : Hid (n = L.length) := hnn
  have HS : Hid (Hs w g 0 L) := hs
  have HT : Hid (w.there g 0 (32 * n)) := ht
  clear hnn hs ht
  have h2 : ¬ (n : Int) < 2 := by omega
  go_enter Tryd.func70, Tryd.ntmps70
  go_wp2
  go_loopw [3] (fun i wr => ∃ k : Nat, 1 ≤ k ∧ k ≤ n ∧ i = .int .i64 k ∧ Hid (dd (L.take k) = L.take k) ∧ Below w.heap.size w wr) (fun i _ => n - (intOf i).toNat)
  case atStart => exact ⟨1, by omega, by omega, rfl, dd_take_one L, Below.refl _ _⟩
  case round =>
    obtain ⟨k, hk1, hkn', rfl, hdd, bel⟩ := hrel
    by_cases hkn : k < n
    · have hkL : k < L.length := by rw [← HN.out]; exact hkn
      obtain ⟨x, hx⟩ : ∃ x, L[k]? = some x := ⟨_, List.getElem?_eq_getElem hkL⟩
      obtain ⟨p, hp⟩ : ∃ p, L[k - 1]? = some p := ⟨_, List.getElem?_eq_getElem (by omega)⟩
      have hx32 := hL.get hx
      have hp32 := hL.get hp
      have hne : Nonempty (ExtT wr) := ExtT.some wr
      have S1 : Hid (wr.rangeAt g (32 * (k - 1)) (hcs p)) := (by have := rangeAt_below (HS.out (k - 1) p hp) bel hg; rwa [Nat.zero_add] at this : wr.rangeAt g (32 * (k - 1)) (hcs p))
      have S2 : Hid (wr.rangeAt g (32 * k) (hcs x)) := (by have := rangeAt_below (HS.out k x hx) bel hg; rwa [Nat.zero_add] at this : wr.rangeAt g (32 * k) (hcs x))
      have ix1 : ∀ wx, (Instr.indexAt 32 (.slice (some ⟨g, 0, none⟩) n cap) (.int .i64 ((k : Int) - 1))).run Tryd.prog wx = .ok (.pointer (some ⟨g, 32 * (k - 1), none⟩)) wx := fun wx => (by
        have := indexH g 0 n cap (k - 1) wx (by omega)
        rwa [Nat.zero_add, show ((k - 1 : Nat) : Int) = (k : Int) - 1 by omega] at this)
      have ix2 := fun wx => indexH g 0 n cap k wx hkn
      simp only [Nat.zero_add] at ix2
      have wk : IntKind.i64.wrap ((k : Int) - 1) = (k : Int) - 1 := by simp only [IntKind.wrap, IntKind.bits, IntKind.signed]; simp; omega
      have wk2 : wrap64 ((k : Int) - 1) = (k : Int) - 1 := (by unfold wrap64; omega)
      have eqq : ∀ wx, (Op.equalIn 10000 31 (.agg (bs x)) (.agg (bs p))).run Tryd.prog wx = .ok (decide (x = p)) wx := fun wx => eq23 x p hx32 hp32 wx
      have hsn := dd_snoc L k p x hk1 hp hx
      by_cases hxp : x = p
      · have hd : decide (x = p) = true := by simp [hxp]
        rw [hd] at eqq
        rw [if_pos hxp] at hsn
        have hC : Cpt L L k (k + 1) := ⟨rfl, hL, by rw [hsn, hdd.out], by rw [hsn, hdd.out, List.length_take]; omega, by omega, fun _ _ => rfl⟩
        have HC : Hid (Cpt L L k (k + 1)) := hC
        clear hd hxp hsn hC hdd
        go_wp2_with fail
        refine wp_region_ext (by kernel_rfl) (by kernel_rfl) ?_
        repeat (first
          | (go_big_quiet_want; refine quiet_load_mid 31 _ rfl g (32 * k) rfl (bs x) _ (by rintro _ ⟨e, rfl⟩; exact e.range S2.out (hcs_pos hx32)) Tryd.underlying31 rfl (sizeH hx32) ?_; simp only [Act.put, List.setIfInBounds_toArray, List.set_cons_zero, List.set_cons_succ]; go_big_quiet_on)
          | (go_big_quiet_want; refine quiet_load_mid 31 _ rfl g (32 * (k - 1)) rfl (bs p) _ (by rintro _ ⟨e, rfl⟩; exact e.range S1.out (hcs_pos hp32)) Tryd.underlying31 rfl (sizeH hp32) ?_; simp only [Act.put, List.setIfInBounds_toArray, List.set_cons_zero, List.set_cons_succ]; go_big_quiet_on)
          | go_big_quiet_step (fail))
        refine wpQuiet_nil ?_
        rintro w3 ⟨⟨_, bl3⟩, rfl⟩
        have bel3 : Below w.heap.size w w3 := bel.trans (bl3.mono bel.size)
        have HS3 : Hid (Hs w3 g 0 L) := HS.out.below bel3 hg
        have HT3 : Hid (w3.there g 0 (32 * n)) := there_below HT.out bel3 hg
        have hg3 : g < w3.heap.size := by have := bel3.size; omega
        have HB3 : Hid (∀ B, B ≤ g → Below B w w3) := (fun B hB => bel3.mono (by omega) : ∀ B, B ≤ g → Below B w w3)
        have sl1 := fun wx => slice_fromH g 0 n cap k wx hkn hcap
        simp only [Nat.zero_add] at sl1
        clear bel bl3 bel3 S1 S2 ix1 ix2 eqq wk wk2 hne hp hx
        go_wp2
        go_loopw [3, 5] (fun i q wr => ∃ (i' j : Nat) (M : List (List UInt8)), 1 ≤ j ∧ j ≤ n - k ∧ i' < n ∧ i = .int .i64 i' ∧ q = .int .i64 j ∧ Hid (Cpt L M i' (k + j)) ∧ Hid (Hs wr g 0 M) ∧ Hid (wr.there g 0 (32 * n)) ∧ Hid (∀ B, B ≤ g → Below B w wr) ∧ g < wr.heap.size) (fun _ q _ => n - k - (intOf q).toNat)
        case atStart => exact ⟨k, 1, L, by omega, by omega, hkn, rfl, rfl, HC, HS3, HT3, HB3, hg3⟩
        case round =>
          clear HS3 HT3 HB3 hg3 HC
          obtain ⟨i, j, M, hj1, hjn, hin, rfl, rfl, hC, HM, HT4, HB4, hg4⟩ := hrel
          by_cases hjl : j < n - k
          · obtain ⟨c1, c2, c3, c4, c5, c6⟩ := hC.out
            have hkjL : k + j < L.length := by rw [← HN.out]; omega
            obtain ⟨x, hx⟩ : ∃ x, L[k + j]? = some x := ⟨_, List.getElem?_eq_getElem hkjL⟩
            obtain ⟨p, hp⟩ : ∃ p, L[k + j - 1]? = some p := ⟨_, List.getElem?_eq_getElem (by omega)⟩
            have hx32 := hL.get hx
            have hp32 := hL.get hp
            have hne : Nonempty (ExtT wr) := ExtT.some wr
            have S1 : Hid (wr.rangeAt g (32 * k + 32 * (j - 1)) (hcs p)) := (by
              have := HM.out (k + j - 1) p (by rw [c6 _ (by omega)]; exact hp)
              rwa [show 0 + 32 * (k + j - 1) = 32 * k + 32 * (j - 1) by omega] at this : wr.rangeAt g (32 * k + 32 * (j - 1)) (hcs p))
            have S2 : Hid (wr.rangeAt g (32 * k + 32 * j) (hcs x)) := (by
              have := HM.out (k + j) x (by rw [c6 _ (by omega)]; exact hx)
              rwa [show 0 + 32 * (k + j) = 32 * k + 32 * j by omega] at this : wr.rangeAt g (32 * k + 32 * j) (hcs x))
            have ix1 : ∀ wx, (Instr.indexAt 32 (.slice (some ⟨g, 32 * k, none⟩) (n - k) (cap - k)) (.int .i64 ((j : Int) - 1))).run Tryd.prog wx = .ok (.pointer (some ⟨g, 32 * k + 32 * (j - 1), none⟩)) wx := fun wx => (by
              have := indexH g (32 * k) (n - k) (cap - k) (j - 1) wx (by omega)
              rwa [show ((j - 1 : Nat) : Int) = (j : Int) - 1 by omega] at this)
            have ix2 := fun wx => indexH g (32 * k) (n - k) (cap - k) j wx hjl
            have ix3 := fun wx => indexH g 0 n cap i wx hin
            simp only [Nat.zero_add] at ix3
            have wk : IntKind.i64.wrap ((j : Int) - 1) = (j : Int) - 1 := by simp only [IntKind.wrap, IntKind.bits, IntKind.signed]; simp; omega
            have wk2 : wrap64 ((j : Int) - 1) = (j : Int) - 1 := (by unfold wrap64; omega)
            have hjlI : (j : Int) < ((n - k : Nat) : Int) := by omega
            have eqq : ∀ wx, (Op.equalIn 10000 31 (.agg (bs x)) (.agg (bs p))).run Tryd.prog wx = .ok (decide (x = p)) wx := fun wx => eq23 x p hx32 hp32 wx
            have hsn := dd_snoc L (k + j) p x (by omega) hp hx
            by_cases hxp : x = p
            · have hd : decide (x = p) = true := by simp [hxp]
              rw [hd] at eqq
              rw [if_pos hxp] at hsn
              have HC2 : Hid (Cpt L M i (k + j + 1)) := ⟨c1, c2, by rw [hsn, c3], by rw [hsn, c4], by omega, fun q hq => c6 q (by omega)⟩
              clear hd hxp hsn hC c1 c2 c3 c4 c5 c6 hp hx
              go_wp2_with fail
              refine wp_region_ext (by kernel_rfl) (by kernel_rfl) ?_
              repeat (first
                | (go_big_quiet_want; refine quiet_load_mid 31 _ rfl g (32 * k + 32 * j) rfl (bs x) _ (by rintro _ ⟨e, rfl⟩; exact e.range S2.out (hcs_pos hx32)) Tryd.underlying31 rfl (sizeH hx32) ?_; simp only [Act.put, List.setIfInBounds_toArray, List.set_cons_zero, List.set_cons_succ]; go_big_quiet_on)
                | (go_big_quiet_want; refine quiet_load_mid 31 _ rfl g (32 * k + 32 * (j - 1)) rfl (bs p) _ (by rintro _ ⟨e, rfl⟩; exact e.range S1.out (hcs_pos hp32)) Tryd.underlying31 rfl (sizeH hp32) ?_; simp only [Act.put, List.setIfInBounds_toArray, List.set_cons_zero, List.set_cons_succ]; go_big_quiet_on)
                | go_big_quiet_step (fail))
              refine wpQuiet_nil ?_
              rintro w5 ⟨⟨_, bl5⟩, rfl⟩
              have HT5 : Hid (w5.there g 0 (32 * n)) := there_below HT4.out bl5 hg4
              have HM5 : Hid (Hs w5 g 0 M) := HM.out.below bl5 hg4
              have hg5 : g < w5.heap.size := by have := bl5.size; omega
              have HB5 : Hid (∀ B, B ≤ g → Below B w w5) := (fun B hB => (HB4.out B hB).trans (bl5.mono (by omega)) : ∀ B, B ≤ g → Below B w w5)
              go_wp2
              exact ⟨⟨i, j + 1, M, by omega, by omega, hin, rfl, by go_num, HC2, HM5, HT5, HB5, hg5⟩, by simp [intOf]; omega⟩
            · have hd : decide (x = p) = false := by simp [hxp]
              rw [hd] at eqq
              rw [if_neg hxp] at hsn
              have hiM : i < M.length := by rw [c1, ← HN.out]; exact hin
              have HC2 : Hid (Cpt L (M.set i x) (i + 1) (k + j + 1)) := ⟨by rw [List.length_set, c1], c2.set i hx32, by rw [hsn, ← c3, List.take_add_one, List.getElem?_set_self hiM, List.take_set_of_le (Nat.le_refl _)]; rfl, by rw [hsn, List.length_append, c4]; rfl, by omega, fun q hq => by rw [List.getElem?_set_ne (by omega)]; exact c6 q (by omega)⟩
              clear hd hxp hsn hC c1 c3 c4 c6 hp hx
              go_wp2_with fail
              refine wp_region_ext (by kernel_rfl) (by kernel_rfl) ?_
              repeat (first
                | (go_big_quiet_want; refine quiet_load_mid 31 _ rfl g (32 * k + 32 * j) rfl (bs x) _ (by rintro _ ⟨e, rfl⟩; exact e.range S2.out (hcs_pos hx32)) Tryd.underlying31 rfl (sizeH hx32) ?_; simp only [Act.put, List.setIfInBounds_toArray, List.set_cons_zero, List.set_cons_succ]; go_big_quiet_on)
                | (go_big_quiet_want; refine quiet_load_mid 31 _ rfl g (32 * k + 32 * (j - 1)) rfl (bs p) _ (by rintro _ ⟨e, rfl⟩; exact e.range S1.out (hcs_pos hp32)) Tryd.underlying31 rfl (sizeH hp32) ?_; simp only [Act.put, List.setIfInBounds_toArray, List.set_cons_zero, List.set_cons_succ]; go_big_quiet_on)
                | go_big_quiet_step (fail))
              refine wpQuiet_nil ?_
              rintro w5 ⟨⟨_, bl5⟩, rfl⟩
              have HT5 : Hid (w5.there g 0 (32 * n)) := there_below HT4.out bl5 hg4
              have HM5 : Hid (Hs w5 g 0 M) := HM.out.below bl5 hg4
              have hg5 : g < w5.heap.size := by have := bl5.size; omega
              have HB5 : Hid (∀ B, B ≤ g → Below B w w5) := (fun B hB => (HB4.out B hB).trans (bl5.mono (by omega)) : ∀ B, B ≤ g → Below B w w5)
              have HX5 : Hid (w5.rangeAt g (32 * k + 32 * j) (hcs x)) := rangeAt_below S2.out bl5 hg4
              have HW : Hid (w5.there g (32 * i) 32) := (by have := there_part (m := 32) (i := 32 * i) HT5.out (by omega); rwa [Nat.zero_add] at this : w5.there g (32 * i) 32)
              have HM6 : Hid (Hs (w5.setCells g (32 * i) (hcs x)) g 0 (M.set i x)) := (by have := Hs.set HM5.out c2 i x hx32 hiM (there_part HT5.out (by omega)); rwa [Nat.zero_add] at this : Hs (w5.setCells g (32 * i) (hcs x)) g 0 (M.set i x))
              have hi1 : i + 1 < n := by clear wk wk2; omega
              clear c2 c5
              go_wp2_with (first
                | (refine wpList_load_mid rfl 31 _ rfl g (32 * k + 32 * j) rfl (hcs x) _ HX5.out Tryd.underlying31 rfl (by rw [hcs_len, hx32]; exact hsH) ?_; rw [hcs_arr])
                | (refine wpList_store_mid rfl 31 _ _ rfl g (32 * i) (bs x) rfl rfl (by rw [bs_size, hx32]; exact HW.out) (by rw [bs_size, hx32]; exact hsH) (bs_one _) ?_)
                | fail)
              exact ⟨⟨i + 1, j + 1, M.set i x, by omega, by omega, hi1, by go_num, by go_num, HC2, HM6, World.there_setCells HT5.out _ _ _, (fun B hB => below_setCells (HB5.out B hB) hB _ _ : ∀ B, B ≤ g → Below B w _), by rw [size_setCells]; exact hg5⟩, by simp [intOf]; omega⟩
          · obtain ⟨c1, c2, c3, c4, c5, c6⟩ := hC.out
            have hkj : k + j = n := by omega
            rw [hkj, HDD.out] at c3 c4
            have sl2 := fun wx => slice_fromH g 0 n cap i wx hin hcap
            simp only [Nat.zero_add] at sl2
            have sl3 := fun wx => slice_toH g 0 n cap i wx (by omega)
            have hcl := fun ty => run_clearH wr ty g (32 * i) (n - i) (cap - i) (by omega) (by have := there_part (m := 32 * (n - i)) (i := 32 * i) HT4.out (by omega); rwa [Nat.zero_add] at this)
            have HH : Hid (Hs (wr.setCells g (32 * i) (Builtin.zeroCells (bs z32) (n - i)).toList) g 0 (dd L)) := (by have := hs_clear (n := n - i) HM.out c2 (show i ≤ M.length by rw [c1, ← HN.out]; omega); rwa [c3] at this : Hs (wr.setCells g (32 * i) (Builtin.zeroCells (bs z32) (n - i)).toList) g 0 (dd L))
            have HLN : Hid ((dd L).length = i) := c4
            have hnl : ¬ (j : Int) < ((n - k : Nat) : Int) := by omega
            have hpo : (0 : Int) < ((n - i : Nat) : Int) := by omega
            clear c1 c2 c3 c4 c5 c6 hC HM
            generalize (Builtin.zeroCells (bs z32) (n - i)).toList = vs at *
            go_wp2
            go_ret
            exact ⟨by rw [HLN.out]; rfl, HH.out, fun B hB => below_setCells (HB4.out B hB) hB _ _, by rw [size_setCells]; exact hg4⟩
      · have hd : decide (x = p) = false := by simp [hxp]
        rw [hd] at eqq
        rw [if_neg hxp] at hsn
        have HK : Hid (dd (L.take (k + 1)) = L.take (k + 1)) := (by rw [hsn, hdd.out, List.take_add_one, hx]; rfl : dd (L.take (k + 1)) = L.take (k + 1))
        clear hd hxp hsn
        go_wp2_with fail
        refine wp_region_ext (by kernel_rfl) (by kernel_rfl) ?_
        repeat (first
          | (go_big_quiet_want; refine quiet_load_mid 31 _ rfl g (32 * k) rfl (bs x) _ (by rintro _ ⟨e, rfl⟩; exact e.range S2.out (hcs_pos hx32)) Tryd.underlying31 rfl (sizeH hx32) ?_; simp only [Act.put, List.setIfInBounds_toArray, List.set_cons_zero, List.set_cons_succ]; go_big_quiet_on)
          | (go_big_quiet_want; refine quiet_load_mid 31 _ rfl g (32 * (k - 1)) rfl (bs p) _ (by rintro _ ⟨e, rfl⟩; exact e.range S1.out (hcs_pos hp32)) Tryd.underlying31 rfl (sizeH hp32) ?_; simp only [Act.put, List.setIfInBounds_toArray, List.set_cons_zero, List.set_cons_succ]; go_big_quiet_on)
          | go_big_quiet_step (fail))
        refine wpQuiet_nil ?_
        rintro w3 ⟨⟨_, bl3⟩, rfl⟩
        go_wp2
        exact ⟨⟨k + 1, by omega, by omega, by go_num, HK, bel.trans (bl3.mono bel.size)⟩, by simp [intOf]; omega⟩
    · obtain rfl : k = n := by omega
      have HE : Hid (dd L = L) := (by have h := hdd.out; rw [HDD.out, HN.out, List.take_length] at h; exact h : dd L = L)
      have HEL : Hid (dd L = L) := HE
      have hll : (dd L).length = k := by rw [HE.out, ← HN.out]
      go_wp2
      go_ret
      refine ⟨by rw [hll]; rfl, by rw [HE.out]; exact HS.out.below bel hg, fun B hB => bel.mono (by omega), by have := bel.size; omega⟩
end Go.Proofs.YtbpmpcmmdiaiiaaDoor

namespace Go.Proofs.YtbpmpcmmdiaiiaaDoor
open Go.Shelf
def sortLays_ren : Go.Shelf.Ren := ⟨fun | 6 => 68 | 15 => 79 | 14 => 78 | 28 => 92 | 29 => 93 | 20 => 84 | 21 => 85 | 22 => 86 | 23 => 87 | 24 => 88 | 25 => 89 | 26 => 90 | 27 => 91 | 46 => 95 | 47 => 96 | 48 => 97 | 49 => 98 | 50 => 99 | 57 => 100 | n => n, fun | 22 => 32 | 24 => 31 | 25 => 110 | 3 => 3 | 39 => 96 | 0 => 0 | 53 => 69 | 55 => 27 | 4 => 4 | 46 => 130 | 45 => 129 | 50 => 134 | 5 => 5 | 9 => 9 | 66 => 138 | 70 => 142 | 76 => 144 | 77 => 145 | n => n, fun | n => n⟩
theorem sortLays : Go.Proofs.SlLaysF0.n6 Tryd.prog sortLays_ren := {
  mixed := by kernel_rfl
  f6 := ⟨Tryd.f68.name, by decide, Tryd.func68.trans (congrArg some (by kernel_rfl))⟩
  f14 := ⟨Tryd.f78.name, by decide, Tryd.func78.trans (congrArg some (by kernel_rfl))⟩
  f15 := Tryd.func79.trans (congrArg some (by kernel_rfl))
  f20 := ⟨Tryd.f84.name, by decide, Tryd.func84.trans (congrArg some (by kernel_rfl))⟩
  f21 := ⟨Tryd.f85.name, by decide, Tryd.func85.trans (congrArg some (by kernel_rfl))⟩
  f22 := ⟨Tryd.f86.name, by decide, Tryd.func86.trans (congrArg some (by kernel_rfl))⟩
  f23 := ⟨Tryd.f87.name, by decide, Tryd.func87.trans (congrArg some (by kernel_rfl))⟩
  f24 := ⟨Tryd.f88.name, by decide, Tryd.func88.trans (congrArg some (by kernel_rfl))⟩
  f25 := ⟨Tryd.f89.name, by decide, Tryd.func89.trans (congrArg some (by kernel_rfl))⟩
  f26 := ⟨Tryd.f90.name, by decide, Tryd.func90.trans (congrArg some (by kernel_rfl))⟩
  f27 := ⟨Tryd.f91.name, by decide, Tryd.func91.trans (congrArg some (by kernel_rfl))⟩
  f28 := Tryd.func92.trans (congrArg some (by kernel_rfl))
  f29 := Tryd.func93.trans (congrArg some (by kernel_rfl))
  f46 := ⟨Tryd.f95.name, by decide, Tryd.func95.trans (congrArg some (by kernel_rfl))⟩
  f47 := Tryd.func96.trans (congrArg some (by kernel_rfl))
  f48 := Tryd.func97.trans (congrArg some (by kernel_rfl))
  f49 := ⟨Tryd.f98.name, by decide, Tryd.func98.trans (congrArg some (by kernel_rfl))⟩
  f50 := ⟨Tryd.f99.name, by decide, Tryd.func99.trans (congrArg some (by kernel_rfl))⟩
  f57 := ⟨Tryd.f100.name, by decide, Tryd.func100.trans (congrArg some (by kernel_rfl))⟩
  t0 := Tryd.underlying0
  a0 := Tryd.isAgg0
  z0 := Tryd.sizeOf0
  v0 := Tryd.zeroValue0
  t3 := Tryd.underlying3
  a3 := Tryd.isAgg3
  z3 := Tryd.sizeOf3
  v3 := Tryd.zeroValue3
  t4 := Tryd.underlying4
  a4 := Tryd.isAgg4
  z4 := Tryd.sizeOf4
  v4 := Tryd.zeroValue4
  t5 := Tryd.underlying5
  a5 := Tryd.isAgg5
  z5 := Tryd.sizeOf5
  v5 := Tryd.zeroValue5
  t9 := Tryd.underlying9
  a9 := Tryd.isAgg9
  z9 := Tryd.sizeOf9
  v9 := Tryd.zeroValue9
  t22 := Tryd.underlying32
  a22 := Tryd.isAgg32
  z22 := Tryd.sizeOf32
  v22 := Tryd.zeroValue32
  t25 := Tryd.underlying110
  a25 := Tryd.isAgg110
  z25 := Tryd.sizeOf110
  v25 := Tryd.zeroValue110
  t39 := Tryd.underlying96
  a39 := Tryd.isAgg96
  z39 := Tryd.sizeOf96
  v39 := Tryd.zeroValue96
  t45 := Tryd.underlying129
  a45 := Tryd.isAgg129
  z45 := Tryd.sizeOf129
  v45 := Tryd.zeroValue129
  t46 := Tryd.underlying130
  a46 := Tryd.isAgg130
  z46 := Tryd.sizeOf130
  v46 := Tryd.zeroValue130
  t50 := Tryd.underlying134
  a50 := Tryd.isAgg134
  z50 := Tryd.sizeOf134
  v50 := Tryd.zeroValue134
  t53 := Tryd.underlying69
  a53 := Tryd.isAgg69
  z53 := Tryd.sizeOf69
  v53 := Tryd.zeroValue69
  t55 := Tryd.underlying27
  a55 := Tryd.isAgg27
  z55 := Tryd.sizeOf27
  v55 := Tryd.zeroValue27
  t66 := Tryd.underlying138
  a66 := Tryd.isAgg138
  z66 := Tryd.sizeOf138
  v66 := Tryd.zeroValue138
  t70 := Tryd.underlying142
  a70 := Tryd.isAgg142
  z70 := Tryd.sizeOf142
  v70 := Tryd.zeroValue142
  t76 := Tryd.underlying144
  a76 := Tryd.isAgg144
  z76 := Tryd.sizeOf144
  v76 := Tryd.zeroValue144
  t77 := Tryd.underlying145
  a77 := Tryd.isAgg145
  z77 := Tryd.sizeOf145
  v77 := Tryd.zeroValue145 }
end Go.Proofs.YtbpmpcmmdiaiiaaDoor

namespace Go.Proofs.YtbpmpcmmdiaiiaaDoor
open Go.RowKit Go.Shelf
open Go.Sort hiding Below
set_option linter.unusedVariables false
set_option linter.unusedSimpArgs false

def pad (x : List UInt8) : List UInt8 := (x ++ List.replicate 32 0).take 32
theorem pad_len (x : List UInt8) : (pad x).length = 32 := by simp [pad]
theorem pad_id {x : List UInt8} (h : x.length = 32) : pad x = x := by
  unfold pad
  rw [List.take_append_of_le_length (by omega), ← h, List.take_length]
def encH (x : List UInt8) : List Value := hcs (pad x)
theorem encH_len (x : List UInt8) : (encH x).length = 32 := by rw [encH, hcs_len, pad_len]
theorem encH_id {x : List UInt8} (h : x.length = 32) : encH x = hcs x := by rw [encH, pad_id h]
def cfH (x y : List UInt8) : Int := cmpL (pad x) (pad y)
theorem ltOf_cfH (x y : List UInt8) : ltOf cfH x y = decide (cmpL (pad x) (pad y) < 0) := rfl
theorem swoH : Go.Sort.SWO (ltOf cfH) := {
  irrefl := fun x => by rw [ltOf_cfH, cmpL_same]; rfl
  trans := fun x y z h1 h2 => by
    rw [ltOf_cfH, decide_eq_true_eq] at *
    exact lt_trans (pad_len x) (pad_len y) (pad_len z) h1 h2
  ntrans := fun x y z h1 h2 => by
    rw [ltOf_cfH, decide_eq_false_iff_not] at *
    intro h3
    have e1 := cmpL_neg (pad_len x) (pad_len y)
    by_cases h : cmpL (pad y) (pad x) < 0
    · exact h2 (lt_trans (pad_len y) (pad_len x) (pad_len z) h h3)
    · have h0 : cmpL (pad x) (pad y) = 0 := by omega
      rw [cmpL_zero (pad_len x) (pad_len y)] at h0
      rw [h0] at h3
      exact h2 h3 }
theorem alloc_grow (w : World) (a b : Obj) (m : Nat) : ((w.alloc a).alloc b).drewN m = Go.Sort.grow (w.drewN m) #[a, b] := by
  rw [Go.Sort.alloc_eq_grow, Go.Sort.alloc_eq_grow, Go.Sort.grow_grow]
  rfl
theorem cmpLaysH (blk off size : Nat) (w : World) : CmpLays Tryd.prog 69 #[] encH 32 cfH blk off size w :=
  fun m os dk hdk x y => by
    have h := cmp_grow (pad x) (pad y) (pad_len x) (pad_len y) (sortWorldK encH 32 w blk off m dk os)
    have e1 : (encH x).toArray = bs (pad x) := by rw [encH, hcs_arr]
    have e2 : (encH y).toArray = bs (pad y) := by rw [encH, hcs_arr]
    rw [e1, e2]
    exact h.mono fun e w' ⟨he, q, hw⟩ => ⟨he, q, #[.cells (bs (pad x)) 31, .cells (bs (pad y)) 31], by rw [hw, alloc_grow]⟩
theorem holdsK_of {w : World} {g : Nat} {L : List (List UInt8)} (hL : All32 L) (h : Hs w g 0 L) (ht : w.there g 0 (32 * L.length)) : HoldsK encH 32 w g 0 L.toArray := fun j hj => by
  rw [size_flatK] at hj
  simp only [List.size_toArray] at hj
  have hi : j / 32 < L.length := by omega
  have hx : L[j / 32]? = some L[j / 32] := List.getElem?_eq_getElem hi
  have h32 := hL.get hx
  rw [get_flatK _ _ _ _ (by simpa using hj)]
  have hc := h (j / 32) _ hx (j % 32) ((hcs L[j / 32])[j % 32]'(by rw [hcs_len, h32]; omega)) (List.getElem?_eq_getElem _)
  rw [show 0 + 32 * (j / 32) + j % 32 = 0 + j by omega] at hc
  refine ⟨?_, (ht j (by omega)).2⟩
  rw [hc]
  have e : L.toArray[j / 32]! = L[j / 32] := by simp [hi]
  rw [e, encH_id h32]
  simp only [id_eq]
  rw [getElem!_pos]
theorem hs_of_holdsK {w : World} {g : Nat} {L : List (List UInt8)} (hL : All32 L) (h : HoldsK encH 32 w g 0 L.toArray) : Hs w g 0 L ∧ w.there g 0 (32 * L.length) := by
  constructor
  · intro i x hx j v hv
    have hi := (List.getElem?_eq_some_iff.1 hx).1
    have h32 := hL.get hx
    have hj : j < 32 := by have := (List.getElem?_eq_some_iff.1 hv).1; rwa [hcs_len, h32] at this
    have hc := (HoldsK.cell h (i := i) (c := j) (by simpa using hi) hj).1
    rw [show 0 + 32 * i + j = 0 + i * 32 + j by omega, hc]
    have e : L.toArray[i]! = x := by
      rw [List.getElem?_eq_getElem hi] at hx
      have := Option.some.inj hx
      simp [hi, this]
    rw [e, encH_id h32]
    obtain ⟨hl, hv'⟩ := List.getElem?_eq_some_iff.1 hv
    rw [getElem!_pos (hcs x) j hl, hv']
  · intro j hj
    have hc := HoldsK.cell h (i := j / 32) (c := j % 32) (by simp; omega) (by omega)
    rw [show 0 + j / 32 * 32 + j % 32 = 0 + j by omega] at hc
    exact ⟨by rw [hc.1]; rfl, hc.2⟩
theorem sortW_below {w : World} {g n : Nat} {os : Array Obj} (d : Array (List UInt8)) (B : Nat) (hB : B ≤ g) (hg : g < w.heap.size) : Go.RowKit.Below B w (sortWorldK encH 32 w g 0 n d os) := by
  refine ⟨rfl, rfl, rfl, by simp [sortWorldK, Go.Sort.grow, putRowK, Go.Sort.putRow, Go.Sort.mapBlock, Go.Sort.ahead], fun k hk => ?_⟩
  have hne : g ≠ k := by omega
  have hk2 : k < w.heap.size := by omega
  simp [sortWorldK, Go.Sort.grow, putRowK, Go.Sort.putRow, Go.Sort.mapBlock, Go.Sort.ahead, Array.getElem?_append, Array.getElem?_modify, Array.getElem_modify, hk2, hne]
/-- No later one is less than an earlier one. -/
def Rises (L : List (List UInt8)) : Prop := ∀ (i j : Nat) (x y : List UInt8), L[i]? = some x → L[j]? = some y → i < j → ¬ cmpL y x < 0
theorem sortW_holds {w : World} {g n : Nat} {os : Array Obj} (d d' : Array (List UInt8)) (h : HoldsK encH 32 w g 0 d) (hs : d'.size = d.size) (hg : g < w.heap.size) : HoldsK encH 32 (sortWorldK encH 32 w g 0 n d' os) g 0 d' :=
  holdsK_grow _ _ _ _ _ _ _ (by simpa [putRowK, Go.Sort.ahead] using hg) (holdsK_putRowK _ _ _ _ _ d d' (holdsK_ahead _ _ _ _ _ _ _ h) hs)

set_option maxHeartbeats 1000000 in
/-- slices.SortFunc by digest.Compare. -/
theorem sortH_any (g : Nat) (L : List (List UInt8)) (cap : Nat) (w : World) (hL : All32 L) (hn : L.length ≤ 4398046511104) (hg : g < w.heap.size) (hs : Hs w g 0 L) (ht : w.there g 0 (32 * L.length)) :
    Calls Tryd.prog 68 #[.slice (some ⟨g, 0, none⟩) L.length cap, .func (.func 69) #[] #[]] w fun e w' => e = .returned (.tuple #[]) ∧
      ∃ L' : List (List UInt8), L'.Perm L ∧ Rises L' ∧ Hs w' g 0 L' ∧ w'.there g 0 (32 * L.length) ∧ ∀ B, B ≤ g → Go.RowKit.Below B w w' := by
  have eg : ∀ args w, (callFunc 69 args).run Tryd.prog w = .ok (.enter 69 args) w := enters_of Tryd.func69 (by kernel_rfl) rfl
  have hH := holdsK_of hL hs ht
  have h := AnyQ.slices_SortFunc sortLays 32 Tryd.isAgg31 Tryd.sizeOf31 encH encH_len (fun x v hv => hcs_one (pad x) v hv) cfH swoH 69 #[] g 0 cap L.toArray w eg (cmpLaysH g 0 _ w) hH hg (by simp; omega)
  change Calls Tryd.prog 68 _ _ _ at h
  simp only [List.size_toArray] at h
  refine h.mono ?_
  rintro e w' ⟨he, d', n, os, hp, hsrt, rfl⟩
  have hsz : d'.size = L.length := by simpa using hp.1
  have hperm : d'.toList.Perm L := by
    have := hp.2.2
    rw [← hsz, Array.extract_size] at this
    have e2 : L.toArray.extract 0 d'.size = L.toArray := by rw [hsz]; simp
    rw [e2] at this
    simpa using this
  have hL' : All32 d'.toList := fun x hx => hL x (hperm.mem_iff.1 hx)
  have hh := sortW_holds (n := n) (os := os) L.toArray d' hH (by simpa using hsz) hg
  have hh2 := hs_of_holdsK hL' (by simpa using hh)
  refine ⟨he, d'.toList, hperm, ?_, hh2.1, ?_, fun B hB => sortW_below _ B hB hg⟩
  · intro i j x y hx hy hij
    have hi := (List.getElem?_eq_some_iff.1 hx).1
    have hj := (List.getElem?_eq_some_iff.1 hy).1
    have hlt := hsrt i j (by omega) hij (by rw [← hsz]; simpa using hj)
    have e1 : d'[i]! = x := by
      have h2 := (List.getElem?_eq_some_iff.1 hx).2
      rw [getElem!_pos d' i (by simpa using hi)]
      simpa using h2
    have e2 : d'[j]! = y := by
      have h2 := (List.getElem?_eq_some_iff.1 hy).2
      rw [getElem!_pos d' j (by simpa using hj)]
      simpa using h2
    rw [e1, e2, ltOf_cfH, decide_eq_false_iff_not, pad_id (hL'.get hx), pad_id (hL'.get hy)] at hlt
    exact hlt
  · have := hh2.2
    rw [show d'.toList.length = L.length by simpa using hsz] at this
    exact this
end Go.Proofs.YtbpmpcmmdiaiiaaDoor

namespace Go.Proofs.YtbpmpcmmdiaiiaaDoor
open Go.RowKit
set_option linter.unusedVariables false
set_option linter.unusedSimpArgs false

/-- The cells of a list of hashes. -/
def flat (L : List (List UInt8)) : List Value := L.flatMap hcs
theorem flat_len {L : List (List UInt8)} (h : All32 L) : (flat L).length = L.length * 32 := by
  induction L with
  | nil => rfl
  | cons x r ih =>
    have h1 := h x (by simp)
    have h2 := ih (fun y hy => h y (by simp [hy]))
    simp only [flat, List.flatMap_cons, List.length_append, List.length_cons] at h2 ⊢
    rw [h2, hcs_len, h1]
    omega
theorem flat_get {L : List (List UInt8)} (h : All32 L) (i j : Nat) (x : List UInt8) (hx : L[i]? = some x) (hj : j < 32) : (flat L)[i * 32 + j]? = (hcs x)[j]? := by
  induction L generalizing i with
  | nil => simp at hx
  | cons y r ih =>
    have h1 := h y (by simp)
    have hl : (hcs y).length = 32 := by rw [hcs_len, h1]
    simp only [flat, List.flatMap_cons]
    cases i with
    | zero =>
      simp at hx
      subst hx
      rw [List.getElem?_append_left (by omega)]
      simp
    | succ i =>
      rw [List.getElem?_append_right (by omega), hl, show (i + 1) * 32 + j - 32 = i * 32 + j by omega]
      exact ih (fun z hz => h z (by simp [hz])) i (by simpa using hx)
theorem flat_app (L M : List (List UInt8)) : flat (L ++ M) = flat L ++ flat M := by simp [flat]
theorem flat_one (L : List (List UInt8)) : ∀ v ∈ flat L, v.oneCell' = true := by
  intro v hv
  simp only [flat, List.mem_flatMap] at hv
  obtain ⟨x, _, hx⟩ := hv
  exact hcs_one x v hx
/-- A slice of the call's own that holds hashes. -/
def OwnH (w : World) (base : Nat) (v : Value) (L : List (List UInt8)) : Prop := All32 L ∧ w.ownsRow base 31 32 v L.length (flat L)
theorem OwnH.nil (w : World) (base : Nat) : OwnH w base (.slice none 0 0) [] := ⟨fun _ h => by simp at h, World.ownsRow_nil w base 31 32⟩
theorem OwnH.open {w : World} {base : Nat} {v : Value} {L : List (List UInt8)} (h : OwnH w base v L) :
    (v = .slice none 0 0 ∧ L = []) ∨ ∃ g cap, v = .slice (some ⟨g, 0, none⟩) L.length cap ∧ L.length ≤ cap ∧ base ≤ g ∧ g < w.heap.size ∧ Hs w g 0 L ∧ w.there g 0 (32 * L.length) := by
  obtain ⟨hL, hlen, ⟨rfl, hn⟩ | ⟨g, cap, cur, rfl, hbg, hg, hnc, hcm, hcs', htake⟩⟩ := h
  · exact .inl ⟨rfl, List.eq_nil_of_length_eq_zero hn⟩
  · have hcell : ∀ j, j < 32 * L.length → w.cell? ⟨g, 0 + j, none⟩ = (flat L)[j]? := fun j hj => by
      rw [Nat.zero_add, cell_of_row w g j cur _ (0, 0) hg, ← htake, List.getElem?_take, if_pos (by omega)]
      simp
    refine .inr ⟨g, cap, rfl, hnc, hbg, (Array.getElem?_eq_some_iff.1 hg).1, ?_, ?_⟩
    · intro i x hx j v hv
      have hi := (List.getElem?_eq_some_iff.1 hx).1
      have hj : j < 32 := by have := (List.getElem?_eq_some_iff.1 hv).1; rwa [hcs_len, hL.get hx] at this
      have := hcell (i * 32 + j) (by omega)
      rw [flat_get hL i j x hx hj, hv] at this
      rw [show 0 + 32 * i + j = 0 + (i * 32 + j) by omega]
      exact this
    · intro j hj
      refine ⟨?_, ?_⟩
      · rw [hcell j hj, List.getElem?_eq_getElem (by rw [flat_len hL]; omega)]; rfl
      · rw [Nat.zero_add]; exact frozen_of_row w g j cur _ hg
theorem OwnH.below {w w' : World} {base : Nat} {v : Value} {L : List (List UInt8)} (h : OwnH w base v L) (hb : Below w.heap.size w w') : OwnH w' base v L := by
  refine ⟨h.1, h.2.1, ?_⟩
  rcases h.2.2 with hn | ⟨g, cap, cur, rfl, hbg, hg, rest⟩
  · exact .inl hn
  · exact .inr ⟨g, cap, cur, rfl, hbg, by rw [hb.block g (Array.getElem?_eq_some_iff.1 hg).1]; exact hg, rest⟩
theorem zsize : (Value.agg (bs z32)).cells.size = 32 := by show (bs z32).size = 32; rw [bs_size]; rfl

theorem run_appH (w : World) (base : Nat) (ty : TypeId) (v : Value) (L : List (List UInt8)) (a : Addr) (M : List (List UInt8)) (c : Nat) (hown : OwnH w base v L) (hM : All32 M) (hb : Hl w (some a) M)
    (h : L.length + M.length ≤ 4398046511104 + 4096) (hbase : base ≤ w.heap.size) :
    ∃ v' w', (Builtin.append_ #[32, 32] ty #[v, .slice (some a) M.length c]).run Tryd.prog w = .ok v' w' ∧ OwnH w' base v' (L ++ M) ∧ w.grownBy w' v.ownBlock ∧ (v' = .slice none 0 0 ↔ v = .slice none 0 0 ∧ M.length = 0) := by
  obtain ⟨i, hi, hz, hs, hby⟩ := infoH
  have hnews : ∀ j u, (flat M)[j]? = some u → w.cell? (a.add j) = some u := fun j u hj => by
    have hlt : j < M.length * 32 := by have := (List.getElem?_eq_some_iff.1 hj).1; rwa [flat_len hM] at this
    rcases hb with rfl | ⟨b, off, e, hc⟩
    · simp at hlt
    · cases e
      have hx : M[j / 32]? = some M[j / 32] := List.getElem?_eq_getElem (by omega)
      have h1 := flat_get hM (j / 32) (j % 32) _ hx (by omega)
      rw [show j / 32 * 32 + j % 32 = j by omega, hj] at h1
      have h2 := hc (j / 32) _ hx (j % 32) u h1.symm
      rw [Addr.add_mid]
      rwa [show off + 32 * (j / 32) + j % 32 = off + j by omega] at h2
  obtain ⟨v', w', hr, h2, h3, h4⟩ := run_append_own_wide (P := Tryd.prog) w base 32 ty 31 i (.agg (bs z32)) 32 32 Tryd.underlying32 hi hz hs hby zsize (by omega) v L.length (flat L) hown.2 a M.length c (flat M) (flat_len hM) hnews (flat_one M) (by unfold maxLen; omega) (by omega) hbase
  refine ⟨v', w', hr, ⟨?_, ?_⟩, h3, h4⟩
  · intro x hx
    rcases List.mem_append.1 hx with hx | hx
    · exact hown.1 x hx
    · exact hM x hx
  · rw [List.length_append, flat_app]; exact h2
theorem wpList_appH {ops : Array Oper} {rest : List Oper} {o : Oper} {a : Act} {w : World} {Q : Exit → Act → World → Prop} (hgd : o.guard = none) (s x : Operand)
    (ho : o.op = .call { callee := .builtin .append, args := #[s, x], argTypes := #[32, 32] }) (base : Nat) (v : Value) (L : List (List UInt8)) (hs : a.eval s = v) (hown : OwnH w base v L)
    (aa : Addr) (m c : Nat) (M : List (List UInt8)) (hx : a.eval x = .slice (some aa) m c) (hm : M.length = m) (hM : All32 M) (hb : Hl w (some aa) M) (hlen : L.length + M.length ≤ 4398046511104 + 4096) (hbase : base ≤ w.heap.size)
    (h : ∀ v' w', OwnH w' base v' (L ++ M) → w.grownBy w' v.ownBlock → (v' = .slice none 0 0 ↔ v = .slice none 0 0 ∧ M.length = 0) → wpList Tryd.prog ops Q rest (a.put o.dst v') w') : wpList Tryd.prog ops Q (o :: rest) a w :=
  wpList_plain hgd fun _ hK => by
    subst hm
    obtain ⟨v', w', hr, h2, h3, h4⟩ := run_appH w base o.type v L aa M c hown hM hb hlen hbase
    unfold Oper.wp execOp
    simp only [ho, resolve, invoke, builtin, Sem.run_bind, Sem.run_pure, Result.andThen_ok, List.map_toArray, List.map_cons, List.map_nil, hs, hx, hr]
    exact hK _ _ (h v' w' h2 h3 h4)

set_option maxHeartbeats 1000000 in
/-- A clone of nil is nil. -/
theorem cloneH_nil (w : World) : Calls Tryd.prog 67 #[.slice none 0 0] w fun e w' => e = .returned (.slice none 0 0) ∧ w' = w := by
  have hnil : ∀ W, (binOp .eql 32 (.slice none 0 0) (.slice none 0 0)).run Tryd.prog W = .ok (.bool true) W := fun W => Lib.run_eql_slice_nil_nil W 0 0 Tryd.underlying32
  go_enter Tryd.func67, Tryd.ntmps67
  go_wp2
  go_ret
  exact ⟨rfl, rfl⟩

set_option maxHeartbeats 1000000 in
theorem cloneH_any (a : Addr) (L : List (List UInt8)) (cap : Nat) (w : World) (hL : All32 L) (hn : L.length ≤ 4398046511104) (hl : Hl w (some a) L) :
    Calls Tryd.prog 67 #[.slice (some a) L.length cap] w fun e w' => ∃ g cap', e = .returned (.slice (some ⟨g, 0, none⟩) L.length cap') ∧ OwnH w' w.heap.size (.slice (some ⟨g, 0, none⟩) L.length cap') L ∧ Below w.heap.size w w' := by
  obtain ⟨n, hnn⟩ : ∃ n, n = L.length := ⟨_, rfl⟩
  rw [← hnn] at hn ⊢
  have HN : Hid (n = L.length) := hnn
  have hnil : ∀ W, (binOp .eql 32 (.slice (some a) n cap) (.slice none 0 0)).run Tryd.prog W = .ok (.bool false) W := fun W => Lib.run_eql_slice_some_nil W _ _ _ Tryd.underlying32
  have O0 : Hid (OwnH (w.alloc (.cells #[] 31)) w.heap.size (.slice (some ⟨w.heap.size, 0, none⟩) 0 0) []) := ⟨fun _ h => by simp at h, rfl, .inr ⟨w.heap.size, 0, #[], rfl, Nat.le_refl _, heap_alloc_new _ _, by simp, by simp [maxLen], rfl, rfl⟩⟩
  have be0 : Below w.heap.size w (w.alloc (.cells #[] 31)) := (Below.refl _ _).alloc (Nat.le_refl _) _
  have B0 : Hid (Hl (w.alloc (.cells #[] 31)) (some a) L) := hl.below hL be0
  have S0 : Hid (([] : List (List UInt8)).length + L.length ≤ 4398046511104 + 4096) := by show _ ≤ _; simp; omega
  have Z0 : Hid (w.heap.size ≤ (w.alloc (.cells #[] 31)).heap.size) := by show _ ≤ _; simp
  have HL32 : Hid (All32 L) := hL
  have hln : Hid (L.length = n) := hnn.symm
  clear hnn hl hL
  go_enter Tryd.func67, Tryd.ntmps67
  go_wp2_with (first | (at_builtin; refine wpList_appH rfl (.tmp 5) (.tmp 6) rfl w.heap.size (.slice (some ⟨w.heap.size, 0, none⟩) 0 0) [] rfl O0.out a n cap L rfl hln.out HL32.out B0.out S0.out Z0.out ?_) | fail)
  intro v w1 own1 grow1 hv
  have be1 : Below w.heap.size w w1 := be0.grown grow1 Z0.out (fun k hk => (World.ownsRow.lt O0.out.2 k hk).1)
  have own2 : OwnH w1 w.heap.size v L := by simpa using own1
  obtain ⟨g, cap', hvv⟩ : ∃ g cap', v = .slice (some ⟨g, 0, none⟩) n cap' := by
    rcases own2.open with ⟨h1, _⟩ | ⟨g, cap', h1, _⟩
    · exact (hv h1).elim
    · exact ⟨g, cap', by rw [h1, ← HN.out]⟩
  subst hvv
  have OW : Hid (OwnH w1 w.heap.size (.slice (some ⟨g, 0, none⟩) n cap') L) := own2
  clear own1 own2 grow1 O0 B0 S0 Z0 hv
  go_wp2
  go_ret
  exact ⟨g, cap', rfl, OW.out, be1⟩
end Go.Proofs.YtbpmpcmmdiaiiaaDoor

