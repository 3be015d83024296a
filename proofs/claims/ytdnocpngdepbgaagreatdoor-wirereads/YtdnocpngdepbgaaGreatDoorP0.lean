import Derived.Test.YtdnocpngdepbgaaGreatDoorMat
import Derived.Test.YtdnocpngdepbgaaGreatDoorHj
import Derived.Test.YtdnocpngdepbgaaGreatDoorQx
import Derived.Lib.SliceRun
import Derived.Shelf.SlSortCmp.WholeK
import Derived.Shelf.SlSortCmp.NoneTotal
import Derived.Shelf.SlGeneric
import Derived.Ground.SlsfProg
import Derived.Test.YtdnocpngdepbgaaGreatDoorRows
import Derived.Test.YtdnocpngdepbgaaGreatDoorHl
import Derived.Test.YtdnocpngdepbgaaGreatDoorHh
import Derived.WalkLawsBesides
import Derived.Deep.DeepAppendWide
import Derived.OwnWalk
import Derived.Lib.BufferMore
import Derived.Maps.AppendAt
import Derived.Test.YtdnocpngdepbgaaGreatDoorKWb
import Derived.Laws.CopyOwn
namespace Go.Proofs.YtdnocpngdepbgaaGreatDoor
open Go.RowKit
set_option linter.unusedVariables false
set_option linter.unusedSimpArgs false

theorem range_row {w : World} {g : Nat} {l : List UInt8} {t : TypeId} {fr : Nat × Nat} (h : w.heap[g]? = some (.cells (bs l) t fr)) : w.rangeAt g 0 (hcs l) := fun j v hv => by
  rw [Nat.zero_add, cell_of_row w g j _ _ _ h]
  simpa [hcs] using hv
theorem hcs_pos {l : List UInt8} (h : l.length = 32) : 0 < (hcs l).length := by rw [hcs_len, h]; omega
theorem sizeH {l : List UInt8} (h : l.length = 32) : (Tryz.prog.info? 36).map (·.size) = some (bs l).toList.length := by
  rw [show (bs l).toList = hcs l from rfl, hcs_len, h]; exact hsH
end Go.Proofs.YtdnocpngdepbgaaGreatDoor

namespace Go.Proofs.YtdnocpngdepbgaaGreatDoor
open Go.RowKit
set_option linter.unusedVariables false
set_option linter.unusedSimpArgs false

theorem slice_fromH (g off n cap i : Nat) (w : World) (hi : i < n) (hc : n ≤ cap) : (Instr.slice 37 (.slice (some ⟨g, off, none⟩) n cap) (some (.int .i64 (i : Int))) none none).run Tryz.prog w = .ok (.slice (some ⟨g, off + 32 * i, none⟩) (n - i) (cap - i)) w := by
  obtain ⟨inf, hi', hz, hs, hb⟩ := infoH
  have h1 : i ≤ n := by omega
  have h2 : ¬ cap = i := by omega
  simp [Instr.slice, Instr.sliceBounds, Instr.sliceBound, asIntOf, run_underlying Tryz.underlying37, Go.sizeOf, typeInfo, hi', hs, h1, h2, hc, Addr.add_mid]
theorem slice_toH (g off n cap i : Nat) (w : World) (hi : i ≤ cap) : (Instr.slice 37 (.slice (some ⟨g, off, none⟩) n cap) none (some (.int .i64 (i : Int))) none).run Tryz.prog w = .ok (.slice (some ⟨g, off, none⟩) i cap) w := by
  obtain ⟨inf, hi', hz, hs, hb⟩ := infoH
  simp [Instr.slice, Instr.sliceBounds, Instr.sliceBound, asIntOf, run_underlying Tryz.underlying37, Go.sizeOf, typeInfo, hi', hs, hi, Addr.add_mid]
theorem zeroCells_one (n : Nat) : ∀ v ∈ (Builtin.zeroCells (bs z32) n).toList, v.oneCell' = true := by
  intro v hv
  have hz : (bs z32).size = 32 := by rw [bs_size]; rfl
  simp only [Builtin.zeroCells, hz, Array.toList_map, List.mem_map] at hv
  obtain ⟨i, _, rfl⟩ := hv
  have hlt : i % 32 < (bs z32).size := by rw [hz]; omega
  rw [getElem!_pos (bs z32) (i % 32) hlt]
  exact hcs_one z32 _ (by simp [hcs])
theorem run_clear_gen (w : World) (ty : TypeId) (g o n c : Nat) (Z : Array Value) (hn : 0 < n) (hv : ∀ w, (zeroValue 36).run Tryz.prog w = .ok (.agg Z) w)
    (hst : (storeCells ⟨g, o, none⟩ (Builtin.zeroCells Z n).toList).run Tryz.prog w = .ok () (w.setCells g o (Builtin.zeroCells Z n).toList)) :
    (Builtin.clear_ #[37] ty #[.slice (some ⟨g, o, none⟩) n c]).run Tryz.prog w = .ok (.tuple #[]) (w.setCells g o (Builtin.zeroCells Z n).toList) := by
  obtain ⟨m, rfl⟩ : ∃ m, n = m + 1 := ⟨n - 1, by omega⟩
  simp only [Builtin.clear_, List.getElem?_toArray, List.getElem?_cons_zero, Sem.run_bind, run_underlying Tryz.underlying37, Result.andThen_ok, hv, Value.cells, hst, Sem.run_pure]
theorem run_clearH (w : World) (ty : TypeId) (g o n c : Nat) (hn : 0 < n) (ht : w.there g o (32 * n)) :
    (Builtin.clear_ #[37] ty #[.slice (some ⟨g, o, none⟩) n c]).run Tryz.prog w = .ok (.tuple #[]) (w.setCells g o (Builtin.zeroCells (bs z32) n).toList) := by
  have hz : (bs z32).size = 32 := by rw [bs_size]; rfl
  have hlen : (Builtin.zeroCells (bs z32) n).toList.length = n * 32 := by rw [Array.length_toList, size_zeroCells, hz]
  have hst := run_storeCells_cells (P := Tryz.prog) g o (Builtin.zeroCells (bs z32) n).toList 0 w (fun j hj => by rw [hlen] at hj; exact (ht j (by omega)).1) (fun j hj => by rw [hlen] at hj; exact (ht j (by omega)).2) (zeroCells_one n)
  simp only [Nat.add_zero] at hst
  exact run_clear_gen w ty g o n c (bs z32) hn hzH hst
theorem zeroCells_len (n : Nat) : (Builtin.zeroCells (bs z32) n).toList.length = 32 * n := by
  have hz : (bs z32).size = 32 := by rw [bs_size]; rfl
  rw [Array.length_toList, size_zeroCells, hz]; omega
/-- Hashes ahead of what is written over stay. -/
theorem hs_clear {w : World} {g i n : Nat} {M : List (List UInt8)} (h : Hs w g 0 M) (hM : All32 M) (hi : i ≤ M.length) : Hs (w.setCells g (32 * i) (Builtin.zeroCells (bs z32) n).toList) g 0 (M.take i) := fun j x e => by
  rw [List.getElem?_take] at e
  split at e
  · rename_i hj
    refine World.rangeAt_setCells_apart (h j x e) _ _ _ ?_
    rw [hcs_len, hM.get e]
    omega
  · cases e

/-- Of neighbours that are alike the first alone, what stood ahead being told. -/
def ddF (p : List UInt8) : List (List UInt8) → List (List UInt8)
  | [] => []
  | x :: r => if x = p then ddF p r else x :: ddF x r
def dd : List (List UInt8) → List (List UInt8)
  | [] => []
  | x :: r => x :: ddF x r
theorem ddF_snoc (p : List UInt8) (l : List (List UInt8)) (x : List UInt8) : ddF p (l ++ [x]) = if x = (l.getLast?).getD p then ddF p l else ddF p l ++ [x] := by
  induction l generalizing p with
  | nil =>
    simp only [List.nil_append, ddF, List.getLast?_nil, Option.getD_none]
    by_cases h : x = p <;> simp [h]
  | cons y r ih =>
    simp only [List.cons_append, ddF]
    have hl : ((y :: r).getLast?).getD p = (r.getLast?).getD y := by
      cases r with
      | nil => simp
      | cons z s => simp [List.getLast?_cons_cons, List.getLast?_cons]
    rw [hl]
    by_cases hy : y = p
    · subst hy
      rw [if_pos rfl, if_pos rfl, ih y]
    · rw [if_neg hy, if_neg hy, ih y]
      split <;> simp
theorem dd_snoc (L : List (List UInt8)) (k : Nat) (p x : List UInt8) (hk : 1 ≤ k) (hp : L[k - 1]? = some p) (hx : L[k]? = some x) : dd (L.take (k + 1)) = if x = p then dd (L.take k) else dd (L.take k) ++ [x] := by
  have ht : L.take (k + 1) = L.take k ++ [x] := by rw [List.take_add_one, hx]; rfl
  rw [ht]
  have hkl : k ≤ L.length := by have := (List.getElem?_eq_some_iff.1 hx).1; omega
  cases hq : L.take k with
  | nil =>
    have := congrArg List.length hq
    rw [List.length_take, List.length_nil] at this
    omega
  | cons y r =>
    have hlast : (r.getLast?).getD y = p := by
      have h1 : (L.take k).getLast? = some p := by
        rw [List.getLast?_eq_getElem?, List.length_take, show min k L.length = k by omega, List.getElem?_take, if_pos (by omega), hp]
      rw [hq] at h1
      cases r with
      | nil => simpa using h1
      | cons z s => simpa [List.getLast?_cons_cons] using congrArg (fun o => o.getD y) h1
    simp only [List.cons_append, dd]
    rw [ddF_snoc, hlast]
    split <;> simp
theorem dd_take_one (L : List (List UInt8)) : dd (L.take 1) = L.take 1 := by
  cases L with
  | nil => rfl
  | cons x r => simp [dd, ddF]
theorem dd_short {L : List (List UInt8)} (h : L.length < 2) : dd L = L := by
  have := dd_take_one L
  rwa [List.take_of_length_le (by omega)] at this
theorem ddF_mem (p : List UInt8) (l : List (List UInt8)) (x : List UInt8) : x ∈ ddF p l → x ∈ l := by
  induction l generalizing p with
  | nil => simp [ddF]
  | cons y r ih =>
    simp only [ddF]
    split
    · intro h; exact List.mem_cons_of_mem _ (ih p h)
    · intro h
      rcases List.mem_cons.1 h with rfl | h
      · simp
      · exact List.mem_cons_of_mem _ (ih y h)
theorem dd_mem {L : List (List UInt8)} {x : List UInt8} : x ∈ dd L → x ∈ L := by
  cases L with
  | nil => simp [dd]
  | cons y r =>
    simp only [dd]
    intro h
    rcases List.mem_cons.1 h with rfl | h
    · simp
    · exact List.mem_cons_of_mem _ (ddF_mem y r x h)
theorem all32_dd {L : List (List UInt8)} (h : All32 L) : All32 (dd L) := fun x hx => h x (dd_mem hx)
end Go.Proofs.YtdnocpngdepbgaaGreatDoor

namespace Go.Proofs.YtdnocpngdepbgaaGreatDoor
open Go.RowKit
set_option linter.unusedVariables false
set_option linter.unusedSimpArgs false

set_option maxHeartbeats 1000000 in
/-- Fewer than two: as they are. -/
theorem compact_few (a : Option Addr) (n cap : Nat) (hn : n < 2) (w : World) : Calls Tryz.prog 117 #[.slice a n cap] w fun e w' => e = .returned (.slice a n cap) ∧ w' = w := by
  have h : (n : Int) < 2 := by omega
  go_enter Tryz.func117, Tryz.ntmps117
  go_wp2
  go_ret
  exact ⟨rfl, rfl⟩

/-- How the first ones lie, and that the others are as they were. -/
def Cpt (L M : List (List UInt8)) (i k : Nat) : Prop := M.length = L.length ∧ All32 M ∧ M.take i = dd (L.take k) ∧ (dd (L.take k)).length = i ∧ i < k ∧ ∀ p, k - 1 ≤ p → M[p]? = L[p]?

set_option maxRecDepth 100000 in
set_option maxHeartbeats 4000000 in
theorem compact_any (g : Nat) (L : List (List UInt8)) (cap : Nat) (w : World) (hL : All32 L) (hn2 : 2 ≤ L.length) (hb : L.length ≤ 4398046511104) (hcap : L.length ≤ cap) (hg : g < w.heap.size) (hs : Hs w g 0 L) (ht : w.there g 0 (32 * L.length)) :
    Calls Tryz.prog 117 #[.slice (some ⟨g, 0, none⟩) L.length cap] w fun e w' => e = .returned (.slice (some ⟨g, 0, none⟩) (dd L).length cap) ∧ Hs w' g 0 (dd L) ∧ (∀ B, B ≤ g → Below B w w') ∧ g < w'.heap.size := by
  obtain ⟨n, hnn⟩ : ∃ n, n = L.length := ⟨_, rfl⟩
  have HDD : Hid (dd (L.take n) = dd L) := (by rw [hnn, List.take_length] : dd (L.take n) = dd L)
  rw [← hnn] at hb hn2 ht hcap ⊢
  have HN : Hid (n = L.length) := hnn
  have HS : Hid (Hs w g 0 L) := hs
  have HT : Hid (w.there g 0 (32 * n)) := ht
  clear hnn hs ht
  have h2 : ¬ (n : Int) < 2 := by omega
  go_enter Tryz.func117, Tryz.ntmps117
  go_wp2
  go_loopw [3] (fun i wr => ∃ k : Nat, 1 ≤ k ∧ k ≤ n ∧ i = .int .i64 k ∧ Hid (dd (L.take k) = L.take k) ∧ Below w.heap.size w wr) (fun i _ => n - (intOf i).toNat)
  case atStart => exact ⟨1, by omega, by omega, rfl, dd_take_one L, Below.refl _ _⟩
  case round =>
    obtain ⟨k, hk1, hkn', rfl, hdd, bel⟩ := hrel
    by_cases hkn : k < n
    · have hkL : k < L.length := by rw [← HN.out]; exact hkn
      obtain ⟨x, hx⟩ : ∃ x, L[k]? = some x := ⟨_, List.getElem?_eq_getElem hkL⟩
      obtain ⟨p, hp⟩ : ∃ p, L[k - 1]? = some p := ⟨_, List.getElem?_eq_getElem (by omega)⟩
      have hx32 := hL.get hx
      have hp32 := hL.get hp
      have hne : Nonempty (ExtT wr) := ExtT.some wr
      have S1 : Hid (wr.rangeAt g (32 * (k - 1)) (hcs p)) := (by have := rangeAt_below (HS.out (k - 1) p hp) bel hg; rwa [Nat.zero_add] at this : wr.rangeAt g (32 * (k - 1)) (hcs p))
      have S2 : Hid (wr.rangeAt g (32 * k) (hcs x)) := (by have := rangeAt_below (HS.out k x hx) bel hg; rwa [Nat.zero_add] at this : wr.rangeAt g (32 * k) (hcs x))
      have ix1 : ∀ wx, (Instr.indexAt 37 (.slice (some ⟨g, 0, none⟩) n cap) (.int .i64 ((k : Int) - 1))).run Tryz.prog wx = .ok (.pointer (some ⟨g, 32 * (k - 1), none⟩)) wx := fun wx => (by
        have := indexH g 0 n cap (k - 1) wx (by omega)
        rwa [Nat.zero_add, show ((k - 1 : Nat) : Int) = (k : Int) - 1 by omega] at this)
      have ix2 := fun wx => indexH g 0 n cap k wx hkn
      simp only [Nat.zero_add] at ix2
      have wk : IntKind.i64.wrap ((k : Int) - 1) = (k : Int) - 1 := by simp only [IntKind.wrap, IntKind.bits, IntKind.signed]; simp; omega
      have wk2 : wrap64 ((k : Int) - 1) = (k : Int) - 1 := (by unfold wrap64; omega)
      have eqq : ∀ wx, (Op.equalIn 10000 36 (.agg (bs x)) (.agg (bs p))).run Tryz.prog wx = .ok (decide (x = p)) wx := fun wx => eq23 x p hx32 hp32 wx
      have hsn := dd_snoc L k p x hk1 hp hx
      by_cases hxp : x = p
      · have hd : decide (x = p) = true := by simp [hxp]
        rw [hd] at eqq
        rw [if_pos hxp] at hsn
        have hC : Cpt L L k (k + 1) := ⟨rfl, hL, by rw [hsn, hdd.out], by rw [hsn, hdd.out, List.length_take]; omega, by omega, fun _ _ => rfl⟩
        have HC : Hid (Cpt L L k (k + 1)) := hC
        clear hd hxp hsn hC hdd
        go_wp2_with fail
        refine wp_region_ext (by kernel_rfl) (by kernel_rfl) ?_
        repeat (first
          | (go_big_quiet_want; refine quiet_load_mid 36 _ rfl g (32 * k) rfl (bs x) _ (by rintro _ ⟨e, rfl⟩; exact e.range S2.out (hcs_pos hx32)) Tryz.underlying36 rfl (sizeH hx32) ?_; simp only [Act.put, List.setIfInBounds_toArray, List.set_cons_zero, List.set_cons_succ]; go_big_quiet_on)
          | (go_big_quiet_want; refine quiet_load_mid 36 _ rfl g (32 * (k - 1)) rfl (bs p) _ (by rintro _ ⟨e, rfl⟩; exact e.range S1.out (hcs_pos hp32)) Tryz.underlying36 rfl (sizeH hp32) ?_; simp only [Act.put, List.setIfInBounds_toArray, List.set_cons_zero, List.set_cons_succ]; go_big_quiet_on)
          | go_big_quiet_step (fail))
        refine wpQuiet_nil ?_
        rintro w3 ⟨⟨_, bl3⟩, rfl⟩
        have bel3 : Below w.heap.size w w3 := bel.trans (bl3.mono bel.size)
        have HS3 : Hid (Hs w3 g 0 L) := HS.out.below bel3 hg
        have HT3 : Hid (w3.there g 0 (32 * n)) := there_below HT.out bel3 hg
        have hg3 : g < w3.heap.size := by have := bel3.size; omega
        have HB3 : Hid (∀ B, B ≤ g → Below B w w3) := (fun B hB => bel3.mono (by omega) : ∀ B, B ≤ g → Below B w w3)
        have sl1 := fun wx => slice_fromH g 0 n cap k wx hkn hcap
        simp only [Nat.zero_add] at sl1
        clear bel bl3 bel3 S1 S2 ix1 ix2 eqq wk wk2 hne hp hx
        go_wp2
        go_loopw [3, 5] (fun i q wr => ∃ (i' j : Nat) (M : List (List UInt8)), 1 ≤ j ∧ j ≤ n - k ∧ i' < n ∧ i = .int .i64 i' ∧ q = .int .i64 j ∧ Hid (Cpt L M i' (k + j)) ∧ Hid (Hs wr g 0 M) ∧ Hid (wr.there g 0 (32 * n)) ∧ Hid (∀ B, B ≤ g → Below B w wr) ∧ g < wr.heap.size) (fun _ q _ => n - k - (intOf q).toNat)
        case atStart => exact ⟨k, 1, L, by omega, by omega, hkn, rfl, rfl, HC, HS3, HT3, HB3, hg3⟩
        case round =>
          clear HS3 HT3 HB3 hg3 HC
          obtain ⟨i, j, M, hj1, hjn, hin, rfl, rfl, hC, HM, HT4, HB4, hg4⟩ := hrel
          by_cases hjl : j < n - k
          · obtain ⟨c1, c2, c3, c4, c5, c6⟩ := hC.out
            have hkjL : k + j < L.length := by rw [← HN.out]; omega
            obtain ⟨x, hx⟩ : ∃ x, L[k + j]? = some x := ⟨_, List.getElem?_eq_getElem hkjL⟩
            obtain ⟨p, hp⟩ : ∃ p, L[k + j - 1]? = some p := ⟨_, List.getElem?_eq_getElem (by omega)⟩
            have hx32 := hL.get hx
            have hp32 := hL.get hp
            have hne : Nonempty (ExtT wr) := ExtT.some wr
            have S1 : Hid (wr.rangeAt g (32 * k + 32 * (j - 1)) (hcs p)) := (by
              have := HM.out (k + j - 1) p (by rw [c6 _ (by omega)]; exact hp)
              rwa [show 0 + 32 * (k + j - 1) = 32 * k + 32 * (j - 1) by omega] at this : wr.rangeAt g (32 * k + 32 * (j - 1)) (hcs p))
            have S2 : Hid (wr.rangeAt g (32 * k + 32 * j) (hcs x)) := (by
              have := HM.out (k + j) x (by rw [c6 _ (by omega)]; exact hx)
              rwa [show 0 + 32 * (k + j) = 32 * k + 32 * j by omega] at this : wr.rangeAt g (32 * k + 32 * j) (hcs x))
            have ix1 : ∀ wx, (Instr.indexAt 37 (.slice (some ⟨g, 32 * k, none⟩) (n - k) (cap - k)) (.int .i64 ((j : Int) - 1))).run Tryz.prog wx = .ok (.pointer (some ⟨g, 32 * k + 32 * (j - 1), none⟩)) wx := fun wx => (by
              have := indexH g (32 * k) (n - k) (cap - k) (j - 1) wx (by omega)
              rwa [show ((j - 1 : Nat) : Int) = (j : Int) - 1 by omega] at this)
            have ix2 := fun wx => indexH g (32 * k) (n - k) (cap - k) j wx hjl
            have ix3 := fun wx => indexH g 0 n cap i wx hin
            simp only [Nat.zero_add] at ix3
            have wk : IntKind.i64.wrap ((j : Int) - 1) = (j : Int) - 1 := by simp only [IntKind.wrap, IntKind.bits, IntKind.signed]; simp; omega
            have wk2 : wrap64 ((j : Int) - 1) = (j : Int) - 1 := (by unfold wrap64; omega)
            have hjlI : (j : Int) < ((n - k : Nat) : Int) := by omega
            have eqq : ∀ wx, (Op.equalIn 10000 36 (.agg (bs x)) (.agg (bs p))).run Tryz.prog wx = .ok (decide (x = p)) wx := fun wx => eq23 x p hx32 hp32 wx
            have hsn := dd_snoc L (k + j) p x (by omega) hp hx
            by_cases hxp : x = p
            · have hd : decide (x = p) = true := by simp [hxp]
              rw [hd] at eqq
              rw [if_pos hxp] at hsn
              have HC2 : Hid (Cpt L M i (k + j + 1)) := ⟨c1, c2, by rw [hsn, c3], by rw [hsn, c4], by omega, fun q hq => c6 q (by omega)⟩
              clear hd hxp hsn hC c1 c2 c3 c4 c5 c6 hp hx
              go_wp2_with fail
              refine wp_region_ext (by kernel_rfl) (by kernel_rfl) ?_
              repeat (first
                | (go_big_quiet_want; refine quiet_load_mid 36 _ rfl g (32 * k + 32 * j) rfl (bs x) _ (by rintro _ ⟨e, rfl⟩; exact e.range S2.out (hcs_pos hx32)) Tryz.underlying36 rfl (sizeH hx32) ?_; simp only [Act.put, List.setIfInBounds_toArray, List.set_cons_zero, List.set_cons_succ]; go_big_quiet_on)
                | (go_big_quiet_want; refine quiet_load_mid 36 _ rfl g (32 * k + 32 * (j - 1)) rfl (bs p) _ (by rintro _ ⟨e, rfl⟩; exact e.range S1.out (hcs_pos hp32)) Tryz.underlying36 rfl (sizeH hp32) ?_; simp only [Act.put, List.setIfInBounds_toArray, List.set_cons_zero, List.set_cons_succ]; go_big_quiet_on)
                | go_big_quiet_step (fail))
              refine wpQuiet_nil ?_
              rintro w5 ⟨⟨_, bl5⟩, rfl⟩
              have HT5 : Hid (w5.there g 0 (32 * n)) := there_below HT4.out bl5 hg4
              have HM5 : Hid (Hs w5 g 0 M) := HM.out.below bl5 hg4
              have hg5 : g < w5.heap.size := by have := bl5.size; omega
              have HB5 : Hid (∀ B, B ≤ g → Below B w w5) := (fun B hB => (HB4.out B hB).trans (bl5.mono (by omega)) : ∀ B, B ≤ g → Below B w w5)
              go_wp2
              exact ⟨⟨i, j + 1, M, by omega, by omega, hin, rfl, by go_num, HC2, HM5, HT5, HB5, hg5⟩, by simp [intOf]; omega⟩
            · have hd : decide (x = p) = false := by simp [hxp]
              rw [hd] at eqq
              rw [if_neg hxp] at hsn
              have hiM : i < M.length := by rw [c1, ← HN.out]; exact hin
              have HC2 : Hid (Cpt L (M.set i x) (i + 1) (k + j + 1)) := ⟨by rw [List.length_set, c1], c2.set i hx32, by rw [hsn, ← c3, List.take_add_one, List.getElem?_set_self hiM, List.take_set_of_le (Nat.le_refl _)]; rfl, by rw [hsn, List.length_append, c4]; rfl, by omega, fun q hq => by rw [List.getElem?_set_ne (by omega)]; exact c6 q (by omega)⟩
              clear hd hxp hsn hC c1 c3 c4 c6 hp hx
              go_wp2_with fail
              refine wp_region_ext (by kernel_rfl) (by kernel_rfl) ?_
              repeat (first
                | (go_big_quiet_want; refine quiet_load_mid 36 _ rfl g (32 * k + 32 * j) rfl (bs x) _ (by rintro _ ⟨e, rfl⟩; exact e.range S2.out (hcs_pos hx32)) Tryz.underlying36 rfl (sizeH hx32) ?_; simp only [Act.put, List.setIfInBounds_toArray, List.set_cons_zero, List.set_cons_succ]; go_big_quiet_on)
                | (go_big_quiet_want; refine quiet_load_mid 36 _ rfl g (32 * k + 32 * (j - 1)) rfl (bs p) _ (by rintro _ ⟨e, rfl⟩; exact e.range S1.out (hcs_pos hp32)) Tryz.underlying36 rfl (sizeH hp32) ?_; simp only [Act.put, List.setIfInBounds_toArray, List.set_cons_zero, List.set_cons_succ]; go_big_quiet_on)
                | go_big_quiet_step (fail))
              refine wpQuiet_nil ?_
              rintro w5 ⟨⟨_, bl5⟩, rfl⟩
              have HT5 : Hid (w5.there g 0 (32 * n)) := there_below HT4.out bl5 hg4
              have HM5 : Hid (Hs w5 g 0 M) := HM.out.below bl5 hg4
              have hg5 : g < w5.heap.size := by have := bl5.size; omega
              have HB5 : Hid (∀ B, B ≤ g → Below B w w5) := (fun B hB => (HB4.out B hB).trans (bl5.mono (by omega)) : ∀ B, B ≤ g → Below B w w5)
              have HX5 : Hid (w5.rangeAt g (32 * k + 32 * j) (hcs x)) := rangeAt_below S2.out bl5 hg4
              have HW : Hid (w5.there g (32 * i) 32) := (by have := there_part (m := 32) (i := 32 * i) HT5.out (by omega); rwa [Nat.zero_add] at this : w5.there g (32 * i) 32)
              have HM6 : Hid (Hs (w5.setCells g (32 * i) (hcs x)) g 0 (M.set i x)) := (by have := Hs.set HM5.out c2 i x hx32 hiM (there_part HT5.out (by omega)); rwa [Nat.zero_add] at this : Hs (w5.setCells g (32 * i) (hcs x)) g 0 (M.set i x))
              have hi1 : i + 1 < n := by clear wk wk2; omega
              clear c2 c5
              go_wp2_with (first
                | (refine wpList_load_mid rfl 36 _ rfl g (32 * k + 32 * j) rfl (hcs x) _ HX5.out Tryz.underlying36 rfl (by rw [hcs_len, hx32]; exact hsH) ?_; rw [hcs_arr])
                | (refine wpList_store_mid rfl 36 _ _ rfl g (32 * i) (bs x) rfl rfl (by rw [bs_size, hx32]; exact HW.out) (by rw [bs_size, hx32]; exact hsH) (bs_one _) ?_)
                | fail)
              exact ⟨⟨i + 1, j + 1, M.set i x, by omega, by omega, hi1, by go_num, by go_num, HC2, HM6, World.there_setCells HT5.out _ _ _, (fun B hB => below_setCells (HB5.out B hB) hB _ _ : ∀ B, B ≤ g → Below B w _), by rw [size_setCells]; exact hg5⟩, by simp [intOf]; omega⟩
          · obtain ⟨c1, c2, c3, c4, c5, c6⟩ := hC.out
            have hkj : k + j = n := by omega
            rw [hkj, HDD.out] at c3 c4
            have sl2 := fun wx => slice_fromH g 0 n cap i wx hin hcap
            simp only [Nat.zero_add] at sl2
            have sl3 := fun wx => slice_toH g 0 n cap i wx (by omega)
            have hcl := fun ty => run_clearH wr ty g (32 * i) (n - i) (cap - i) (by omega) (by have := there_part (m := 32 * (n - i)) (i := 32 * i) HT4.out (by omega); rwa [Nat.zero_add] at this)
            have HH : Hid (Hs (wr.setCells g (32 * i) (Builtin.zeroCells (bs z32) (n - i)).toList) g 0 (dd L)) := (by have := hs_clear (n := n - i) HM.out c2 (show i ≤ M.length by rw [c1, ← HN.out]; omega); rwa [c3] at this : Hs (wr.setCells g (32 * i) (Builtin.zeroCells (bs z32) (n - i)).toList) g 0 (dd L))
            have HLN : Hid ((dd L).length = i) := c4
            have hnl : ¬ (j : Int) < ((n - k : Nat) : Int) := by omega
            have hpo : (0 : Int) < ((n - i : Nat) : Int) := by omega
            clear c1 c2 c3 c4 c5 c6 hC HM
            generalize (Builtin.zeroCells (bs z32) (n - i)).toList = vs at *
            go_wp2
            go_ret
            exact ⟨by rw [HLN.out]; rfl, HH.out, fun B hB => below_setCells (HB4.out B hB) hB _ _, by rw [size_setCells]; exact hg4⟩
      · have hd : decide (x = p) = false := by simp [hxp]
        rw [hd] at eqq
        rw [if_neg hxp] at hsn
        have HK : Hid (dd (L.take (k + 1)) = L.take (k + 1)) := (by rw [hsn, hdd.out, List.take_add_one, hx]; rfl : dd (L.take (k + 1)) = L.take (k + 1))
        clear hd hxp hsn
        go_wp2_with fail
        refine wp_region_ext (by kernel_rfl) (by kernel_rfl) ?_
        repeat (first
          | (go_big_quiet_want; refine quiet_load_mid 36 _ rfl g (32 * k) rfl (bs x) _ (by rintro _ ⟨e, rfl⟩; exact e.range S2.out (hcs_pos hx32)) Tryz.underlying36 rfl (sizeH hx32) ?_; simp only [Act.put, List.setIfInBounds_toArray, List.set_cons_zero, List.set_cons_succ]; go_big_quiet_on)
          | (go_big_quiet_want; refine quiet_load_mid 36 _ rfl g (32 * (k - 1)) rfl (bs p) _ (by rintro _ ⟨e, rfl⟩; exact e.range S1.out (hcs_pos hp32)) Tryz.underlying36 rfl (sizeH hp32) ?_; simp only [Act.put, List.setIfInBounds_toArray, List.set_cons_zero, List.set_cons_succ]; go_big_quiet_on)
          | go_big_quiet_step (fail))
        refine wpQuiet_nil ?_
        rintro w3 ⟨⟨_, bl3⟩, rfl⟩
        go_wp2
        exact ⟨⟨k + 1, by omega, by omega, by go_num, HK, bel.trans (bl3.mono bel.size)⟩, by simp [intOf]; omega⟩
    · obtain rfl : k = n := by omega
      have HE : Hid (dd L = L) := (by have h := hdd.out; rw [HDD.out, HN.out, List.take_length] at h; exact h : dd L = L)
      have HEL : Hid (dd L = L) := HE
      have hll : (dd L).length = k := by rw [HE.out, ← HN.out]
      go_wp2
      go_ret
      refine ⟨by rw [hll]; rfl, by rw [HE.out]; exact HS.out.below bel hg, fun B hB => bel.mono (by omega), by have := bel.size; omega⟩
end Go.Proofs.YtdnocpngdepbgaaGreatDoor

namespace Go.Proofs.YtdnocpngdepbgaaGreatDoor
open Go.Shelf
def sortLays_ren : Go.Shelf.Ren := ⟨fun | 6 => 115 | 15 => 134 | 14 => 133 | 28 => 147 | 29 => 148 | 20 => 139 | 21 => 140 | 22 => 141 | 23 => 142 | 24 => 143 | 25 => 144 | 26 => 145 | 27 => 146 | 46 => 151 | 47 => 152 | 48 => 153 | 49 => 154 | 50 => 155 | 57 => 156 | n => n, fun | 22 => 37 | 24 => 36 | 25 => 136 | 3 => 3 | 39 => 121 | 0 => 0 | 53 => 97 | 55 => 33 | 4 => 4 | 46 => 209 | 45 => 208 | 50 => 213 | 5 => 5 | 9 => 9 | 66 => 218 | 70 => 222 | 76 => 224 | 77 => 225 | n => n, fun | n => n⟩
theorem sortLays : Go.Proofs.SlLaysF0.n6 Tryz.prog sortLays_ren := {
  mixed := by kernel_rfl
  f6 := ⟨Tryz.f115.name, by decide, Tryz.func115.trans (congrArg some (by kernel_rfl))⟩
  f14 := ⟨Tryz.f133.name, by decide, Tryz.func133.trans (congrArg some (by kernel_rfl))⟩
  f15 := Tryz.func134.trans (congrArg some (by kernel_rfl))
  f20 := ⟨Tryz.f139.name, by decide, Tryz.func139.trans (congrArg some (by kernel_rfl))⟩
  f21 := ⟨Tryz.f140.name, by decide, Tryz.func140.trans (congrArg some (by kernel_rfl))⟩
  f22 := ⟨Tryz.f141.name, by decide, Tryz.func141.trans (congrArg some (by kernel_rfl))⟩
  f23 := ⟨Tryz.f142.name, by decide, Tryz.func142.trans (congrArg some (by kernel_rfl))⟩
  f24 := ⟨Tryz.f143.name, by decide, Tryz.func143.trans (congrArg some (by kernel_rfl))⟩
  f25 := ⟨Tryz.f144.name, by decide, Tryz.func144.trans (congrArg some (by kernel_rfl))⟩
  f26 := ⟨Tryz.f145.name, by decide, Tryz.func145.trans (congrArg some (by kernel_rfl))⟩
  f27 := ⟨Tryz.f146.name, by decide, Tryz.func146.trans (congrArg some (by kernel_rfl))⟩
  f28 := Tryz.func147.trans (congrArg some (by kernel_rfl))
  f29 := Tryz.func148.trans (congrArg some (by kernel_rfl))
  f46 := ⟨Tryz.f151.name, by decide, Tryz.func151.trans (congrArg some (by kernel_rfl))⟩
  f47 := Tryz.func152.trans (congrArg some (by kernel_rfl))
  f48 := Tryz.func153.trans (congrArg some (by kernel_rfl))
  f49 := ⟨Tryz.f154.name, by decide, Tryz.func154.trans (congrArg some (by kernel_rfl))⟩
  f50 := ⟨Tryz.f155.name, by decide, Tryz.func155.trans (congrArg some (by kernel_rfl))⟩
  f57 := ⟨Tryz.f156.name, by decide, Tryz.func156.trans (congrArg some (by kernel_rfl))⟩
  t0 := Tryz.underlying0
  a0 := Tryz.isAgg0
  z0 := Tryz.sizeOf0
  v0 := Tryz.zeroValue0
  t3 := Tryz.underlying3
  a3 := Tryz.isAgg3
  z3 := Tryz.sizeOf3
  v3 := Tryz.zeroValue3
  t4 := Tryz.underlying4
  a4 := Tryz.isAgg4
  z4 := Tryz.sizeOf4
  v4 := Tryz.zeroValue4
  t5 := Tryz.underlying5
  a5 := Tryz.isAgg5
  z5 := Tryz.sizeOf5
  v5 := Tryz.zeroValue5
  t9 := Tryz.underlying9
  a9 := Tryz.isAgg9
  z9 := Tryz.sizeOf9
  v9 := Tryz.zeroValue9
  t22 := Tryz.underlying37
  a22 := Tryz.isAgg37
  z22 := Tryz.sizeOf37
  v22 := Tryz.zeroValue37
  t25 := Tryz.underlying136
  a25 := Tryz.isAgg136
  z25 := Tryz.sizeOf136
  v25 := Tryz.zeroValue136
  t39 := Tryz.underlying121
  a39 := Tryz.isAgg121
  z39 := Tryz.sizeOf121
  v39 := Tryz.zeroValue121
  t45 := Tryz.underlying208
  a45 := Tryz.isAgg208
  z45 := Tryz.sizeOf208
  v45 := Tryz.zeroValue208
  t46 := Tryz.underlying209
  a46 := Tryz.isAgg209
  z46 := Tryz.sizeOf209
  v46 := Tryz.zeroValue209
  t50 := Tryz.underlying213
  a50 := Tryz.isAgg213
  z50 := Tryz.sizeOf213
  v50 := Tryz.zeroValue213
  t53 := Tryz.underlying97
  a53 := Tryz.isAgg97
  z53 := Tryz.sizeOf97
  v53 := Tryz.zeroValue97
  t55 := Tryz.underlying33
  a55 := Tryz.isAgg33
  z55 := Tryz.sizeOf33
  v55 := Tryz.zeroValue33
  t66 := Tryz.underlying218
  a66 := Tryz.isAgg218
  z66 := Tryz.sizeOf218
  v66 := Tryz.zeroValue218
  t70 := Tryz.underlying222
  a70 := Tryz.isAgg222
  z70 := Tryz.sizeOf222
  v70 := Tryz.zeroValue222
  t76 := Tryz.underlying224
  a76 := Tryz.isAgg224
  z76 := Tryz.sizeOf224
  v76 := Tryz.zeroValue224
  t77 := Tryz.underlying225
  a77 := Tryz.isAgg225
  z77 := Tryz.sizeOf225
  v77 := Tryz.zeroValue225 }
end Go.Proofs.YtdnocpngdepbgaaGreatDoor

namespace Go.Proofs.YtdnocpngdepbgaaGreatDoor
open Go.RowKit Go.Shelf
open Go.Sort hiding Below
set_option linter.unusedVariables false
set_option linter.unusedSimpArgs false

def pad (x : List UInt8) : List UInt8 := (x ++ List.replicate 32 0).take 32
theorem pad_len (x : List UInt8) : (pad x).length = 32 := by simp [pad]
theorem pad_id {x : List UInt8} (h : x.length = 32) : pad x = x := by
  unfold pad
  rw [List.take_append_of_le_length (by omega), ← h, List.take_length]
def encH (x : List UInt8) : List Value := hcs (pad x)
theorem encH_len (x : List UInt8) : (encH x).length = 32 := by rw [encH, hcs_len, pad_len]
theorem encH_id {x : List UInt8} (h : x.length = 32) : encH x = hcs x := by rw [encH, pad_id h]
def cfH (x y : List UInt8) : Int := cmpL (pad x) (pad y)
theorem ltOf_cfH (x y : List UInt8) : ltOf cfH x y = decide (cmpL (pad x) (pad y) < 0) := rfl
theorem swoH : Go.Sort.SWO (ltOf cfH) := {
  irrefl := fun x => by rw [ltOf_cfH, cmpL_same]; rfl
  trans := fun x y z h1 h2 => by
    rw [ltOf_cfH, decide_eq_true_eq] at *
    exact lt_trans (pad_len x) (pad_len y) (pad_len z) h1 h2
  ntrans := fun x y z h1 h2 => by
    rw [ltOf_cfH, decide_eq_false_iff_not] at *
    intro h3
    have e1 := cmpL_neg (pad_len x) (pad_len y)
    by_cases h : cmpL (pad y) (pad x) < 0
    · exact h2 (lt_trans (pad_len y) (pad_len x) (pad_len z) h h3)
    · have h0 : cmpL (pad x) (pad y) = 0 := by omega
      rw [cmpL_zero (pad_len x) (pad_len y)] at h0
      rw [h0] at h3
      exact h2 h3 }
theorem alloc_grow (w : World) (a b : Obj) (m : Nat) : ((w.alloc a).alloc b).drewN m = Go.Sort.grow (w.drewN m) #[a, b] := by
  rw [Go.Sort.alloc_eq_grow, Go.Sort.alloc_eq_grow, Go.Sort.grow_grow]
  rfl
theorem cmpLaysH (blk off size : Nat) (w : World) : CmpLays Tryz.prog 116 #[] encH 32 cfH blk off size w :=
  fun m os dk hdk x y => by
    have h := cmp_grow (pad x) (pad y) (pad_len x) (pad_len y) (sortWorldK encH 32 w blk off m dk os)
    have e1 : (encH x).toArray = bs (pad x) := by rw [encH, hcs_arr]
    have e2 : (encH y).toArray = bs (pad y) := by rw [encH, hcs_arr]
    rw [e1, e2]
    exact h.mono fun e w' ⟨he, q, hw⟩ => ⟨he, q, #[.cells (bs (pad x)) 36, .cells (bs (pad y)) 36], by rw [hw, alloc_grow]⟩
theorem holdsK_of {w : World} {g : Nat} {L : List (List UInt8)} (hL : All32 L) (h : Hs w g 0 L) (ht : w.there g 0 (32 * L.length)) : HoldsK encH 32 w g 0 L.toArray := fun j hj => by
  rw [size_flatK] at hj
  simp only [List.size_toArray] at hj
  have hi : j / 32 < L.length := by omega
  have hx : L[j / 32]? = some L[j / 32] := List.getElem?_eq_getElem hi
  have h32 := hL.get hx
  rw [get_flatK _ _ _ _ (by simpa using hj)]
  have hc := h (j / 32) _ hx (j % 32) ((hcs L[j / 32])[j % 32]'(by rw [hcs_len, h32]; omega)) (List.getElem?_eq_getElem _)
  rw [show 0 + 32 * (j / 32) + j % 32 = 0 + j by omega] at hc
  refine ⟨?_, (ht j (by omega)).2⟩
  rw [hc]
  have e : L.toArray[j / 32]! = L[j / 32] := by simp [hi]
  rw [e, encH_id h32]
  simp only [id_eq]
  rw [getElem!_pos]
theorem hs_of_holdsK {w : World} {g : Nat} {L : List (List UInt8)} (hL : All32 L) (h : HoldsK encH 32 w g 0 L.toArray) : Hs w g 0 L ∧ w.there g 0 (32 * L.length) := by
  constructor
  · intro i x hx j v hv
    have hi := (List.getElem?_eq_some_iff.1 hx).1
    have h32 := hL.get hx
    have hj : j < 32 := by have := (List.getElem?_eq_some_iff.1 hv).1; rwa [hcs_len, h32] at this
    have hc := (HoldsK.cell h (i := i) (c := j) (by simpa using hi) hj).1
    rw [show 0 + 32 * i + j = 0 + i * 32 + j by omega, hc]
    have e : L.toArray[i]! = x := by
      rw [List.getElem?_eq_getElem hi] at hx
      have := Option.some.inj hx
      simp [hi, this]
    rw [e, encH_id h32]
    obtain ⟨hl, hv'⟩ := List.getElem?_eq_some_iff.1 hv
    rw [getElem!_pos (hcs x) j hl, hv']
  · intro j hj
    have hc := HoldsK.cell h (i := j / 32) (c := j % 32) (by simp; omega) (by omega)
    rw [show 0 + j / 32 * 32 + j % 32 = 0 + j by omega] at hc
    exact ⟨by rw [hc.1]; rfl, hc.2⟩
theorem sortW_below {w : World} {g n : Nat} {os : Array Obj} (d : Array (List UInt8)) (B : Nat) (hB : B ≤ g) (hg : g < w.heap.size) : Go.RowKit.Below B w (sortWorldK encH 32 w g 0 n d os) := by
  refine ⟨rfl, rfl, rfl, by simp [sortWorldK, Go.Sort.grow, putRowK, Go.Sort.putRow, Go.Sort.mapBlock, Go.Sort.ahead], fun k hk => ?_⟩
  have hne : g ≠ k := by omega
  have hk2 : k < w.heap.size := by omega
  simp [sortWorldK, Go.Sort.grow, putRowK, Go.Sort.putRow, Go.Sort.mapBlock, Go.Sort.ahead, Array.getElem?_append, Array.getElem?_modify, Array.getElem_modify, hk2, hne]
/-- No later one is less than an earlier one. -/
def Rises (L : List (List UInt8)) : Prop := ∀ (i j : Nat) (x y : List UInt8), L[i]? = some x → L[j]? = some y → i < j → ¬ cmpL y x < 0
theorem sortW_holds {w : World} {g n : Nat} {os : Array Obj} (d d' : Array (List UInt8)) (h : HoldsK encH 32 w g 0 d) (hs : d'.size = d.size) (hg : g < w.heap.size) : HoldsK encH 32 (sortWorldK encH 32 w g 0 n d' os) g 0 d' :=
  holdsK_grow _ _ _ _ _ _ _ (by simpa [putRowK, Go.Sort.ahead] using hg) (holdsK_putRowK _ _ _ _ _ d d' (holdsK_ahead _ _ _ _ _ _ _ h) hs)

set_option maxHeartbeats 1000000 in
/-- slices.SortFunc by digest.Compare. -/
theorem sortH_any (g : Nat) (L : List (List UInt8)) (cap : Nat) (w : World) (hL : All32 L) (hn : L.length ≤ 4398046511104) (hg : g < w.heap.size) (hs : Hs w g 0 L) (ht : w.there g 0 (32 * L.length)) :
    Calls Tryz.prog 115 #[.slice (some ⟨g, 0, none⟩) L.length cap, .func (.func 116) #[] #[]] w fun e w' => e = .returned (.tuple #[]) ∧
      ∃ L' : List (List UInt8), L'.Perm L ∧ Rises L' ∧ Hs w' g 0 L' ∧ w'.there g 0 (32 * L.length) ∧ ∀ B, B ≤ g → Go.RowKit.Below B w w' := by
  have eg : ∀ args w, (callFunc 116 args).run Tryz.prog w = .ok (.enter 116 args) w := enters_of Tryz.func116 (by kernel_rfl) rfl
  have hH := holdsK_of hL hs ht
  have h := AnyQ.slices_SortFunc sortLays 32 Tryz.isAgg36 Tryz.sizeOf36 encH encH_len (fun x v hv => hcs_one (pad x) v hv) cfH swoH 116 #[] g 0 cap L.toArray w eg (cmpLaysH g 0 _ w) hH hg (by simp; omega)
  change Calls Tryz.prog 115 _ _ _ at h
  simp only [List.size_toArray] at h
  refine h.mono ?_
  rintro e w' ⟨he, d', n, os, hp, hsrt, rfl⟩
  have hsz : d'.size = L.length := by simpa using hp.1
  have hperm : d'.toList.Perm L := by
    have := hp.2.2
    rw [← hsz, Array.extract_size] at this
    have e2 : L.toArray.extract 0 d'.size = L.toArray := by rw [hsz]; simp
    rw [e2] at this
    simpa using this
  have hL' : All32 d'.toList := fun x hx => hL x (hperm.mem_iff.1 hx)
  have hh := sortW_holds (n := n) (os := os) L.toArray d' hH (by simpa using hsz) hg
  have hh2 := hs_of_holdsK hL' (by simpa using hh)
  refine ⟨he, d'.toList, hperm, ?_, hh2.1, ?_, fun B hB => sortW_below _ B hB hg⟩
  · intro i j x y hx hy hij
    have hi := (List.getElem?_eq_some_iff.1 hx).1
    have hj := (List.getElem?_eq_some_iff.1 hy).1
    have hlt := hsrt i j (by omega) hij (by rw [← hsz]; simpa using hj)
    have e1 : d'[i]! = x := by
      have h2 := (List.getElem?_eq_some_iff.1 hx).2
      rw [getElem!_pos d' i (by simpa using hi)]
      simpa using h2
    have e2 : d'[j]! = y := by
      have h2 := (List.getElem?_eq_some_iff.1 hy).2
      rw [getElem!_pos d' j (by simpa using hj)]
      simpa using h2
    rw [e1, e2, ltOf_cfH, decide_eq_false_iff_not, pad_id (hL'.get hx), pad_id (hL'.get hy)] at hlt
    exact hlt
  · have := hh2.2
    rw [show d'.toList.length = L.length by simpa using hsz] at this
    exact this
end Go.Proofs.YtdnocpngdepbgaaGreatDoor

namespace Go.Proofs.YtdnocpngdepbgaaGreatDoor
open Go.RowKit
set_option linter.unusedVariables false
set_option linter.unusedSimpArgs false

/-- The cells of a list of hashes. -/
def flat (L : List (List UInt8)) : List Value := L.flatMap hcs
theorem flat_len {L : List (List UInt8)} (h : All32 L) : (flat L).length = L.length * 32 := by
  induction L with
  | nil => rfl
  | cons x r ih =>
    have h1 := h x (by simp)
    have h2 := ih (fun y hy => h y (by simp [hy]))
    simp only [flat, List.flatMap_cons, List.length_append, List.length_cons] at h2 ⊢
    rw [h2, hcs_len, h1]
    omega
theorem flat_get {L : List (List UInt8)} (h : All32 L) (i j : Nat) (x : List UInt8) (hx : L[i]? = some x) (hj : j < 32) : (flat L)[i * 32 + j]? = (hcs x)[j]? := by
  induction L generalizing i with
  | nil => simp at hx
  | cons y r ih =>
    have h1 := h y (by simp)
    have hl : (hcs y).length = 32 := by rw [hcs_len, h1]
    simp only [flat, List.flatMap_cons]
    cases i with
    | zero =>
      simp at hx
      subst hx
      rw [List.getElem?_append_left (by omega)]
      simp
    | succ i =>
      rw [List.getElem?_append_right (by omega), hl, show (i + 1) * 32 + j - 32 = i * 32 + j by omega]
      exact ih (fun z hz => h z (by simp [hz])) i (by simpa using hx)
theorem flat_app (L M : List (List UInt8)) : flat (L ++ M) = flat L ++ flat M := by simp [flat]
theorem flat_one (L : List (List UInt8)) : ∀ v ∈ flat L, v.oneCell' = true := by
  intro v hv
  simp only [flat, List.mem_flatMap] at hv
  obtain ⟨x, _, hx⟩ := hv
  exact hcs_one x v hx
/-- A slice of the call's own that holds hashes. -/
def OwnH (w : World) (base : Nat) (v : Value) (L : List (List UInt8)) : Prop := All32 L ∧ w.ownsRow base 36 32 v L.length (flat L)
theorem OwnH.nil (w : World) (base : Nat) : OwnH w base (.slice none 0 0) [] := ⟨fun _ h => by simp at h, World.ownsRow_nil w base 36 32⟩
theorem OwnH.open {w : World} {base : Nat} {v : Value} {L : List (List UInt8)} (h : OwnH w base v L) :
    (v = .slice none 0 0 ∧ L = []) ∨ ∃ g cap, v = .slice (some ⟨g, 0, none⟩) L.length cap ∧ L.length ≤ cap ∧ base ≤ g ∧ g < w.heap.size ∧ Hs w g 0 L ∧ w.there g 0 (32 * L.length) := by
  obtain ⟨hL, hlen, ⟨rfl, hn⟩ | ⟨g, cap, cur, rfl, hbg, hg, hnc, hcm, hcs', htake⟩⟩ := h
  · exact .inl ⟨rfl, List.eq_nil_of_length_eq_zero hn⟩
  · have hcell : ∀ j, j < 32 * L.length → w.cell? ⟨g, 0 + j, none⟩ = (flat L)[j]? := fun j hj => by
      rw [Nat.zero_add, cell_of_row w g j cur _ (0, 0) hg, ← htake, List.getElem?_take, if_pos (by omega)]
      simp
    refine .inr ⟨g, cap, rfl, hnc, hbg, (Array.getElem?_eq_some_iff.1 hg).1, ?_, ?_⟩
    · intro i x hx j v hv
      have hi := (List.getElem?_eq_some_iff.1 hx).1
      have hj : j < 32 := by have := (List.getElem?_eq_some_iff.1 hv).1; rwa [hcs_len, hL.get hx] at this
      have := hcell (i * 32 + j) (by omega)
      rw [flat_get hL i j x hx hj, hv] at this
      rw [show 0 + 32 * i + j = 0 + (i * 32 + j) by omega]
      exact this
    · intro j hj
      refine ⟨?_, ?_⟩
      · rw [hcell j hj, List.getElem?_eq_getElem (by rw [flat_len hL]; omega)]; rfl
      · rw [Nat.zero_add]; exact frozen_of_row w g j cur _ hg
theorem OwnH.below {w w' : World} {base : Nat} {v : Value} {L : List (List UInt8)} (h : OwnH w base v L) (hb : Below w.heap.size w w') : OwnH w' base v L := by
  refine ⟨h.1, h.2.1, ?_⟩
  rcases h.2.2 with hn | ⟨g, cap, cur, rfl, hbg, hg, rest⟩
  · exact .inl hn
  · exact .inr ⟨g, cap, cur, rfl, hbg, by rw [hb.block g (Array.getElem?_eq_some_iff.1 hg).1]; exact hg, rest⟩
theorem zsize : (Value.agg (bs z32)).cells.size = 32 := by show (bs z32).size = 32; rw [bs_size]; rfl

theorem run_appH (w : World) (base : Nat) (ty : TypeId) (v : Value) (L : List (List UInt8)) (a : Addr) (M : List (List UInt8)) (c : Nat) (hown : OwnH w base v L) (hM : All32 M) (hb : Hl w (some a) M)
    (h : L.length + M.length ≤ 4398046511104 + 4096) (hbase : base ≤ w.heap.size) :
    ∃ v' w', (Builtin.append_ #[37, 37] ty #[v, .slice (some a) M.length c]).run Tryz.prog w = .ok v' w' ∧ OwnH w' base v' (L ++ M) ∧ w.grownBy w' v.ownBlock ∧ (v' = .slice none 0 0 ↔ v = .slice none 0 0 ∧ M.length = 0) := by
  obtain ⟨i, hi, hz, hs, hby⟩ := infoH
  have hnews : ∀ j u, (flat M)[j]? = some u → w.cell? (a.add j) = some u := fun j u hj => by
    have hlt : j < M.length * 32 := by have := (List.getElem?_eq_some_iff.1 hj).1; rwa [flat_len hM] at this
    rcases hb with rfl | ⟨b, off, e, hc⟩
    · simp at hlt
    · cases e
      have hx : M[j / 32]? = some M[j / 32] := List.getElem?_eq_getElem (by omega)
      have h1 := flat_get hM (j / 32) (j % 32) _ hx (by omega)
      rw [show j / 32 * 32 + j % 32 = j by omega, hj] at h1
      have h2 := hc (j / 32) _ hx (j % 32) u h1.symm
      rw [Addr.add_mid]
      rwa [show off + 32 * (j / 32) + j % 32 = off + j by omega] at h2
  obtain ⟨v', w', hr, h2, h3, h4⟩ := run_append_own_wide (P := Tryz.prog) w base 37 ty 36 i (.agg (bs z32)) 32 32 Tryz.underlying37 hi hz hs hby zsize (by omega) v L.length (flat L) hown.2 a M.length c (flat M) (flat_len hM) hnews (flat_one M) (by unfold maxLen; omega) (by omega) hbase
  refine ⟨v', w', hr, ⟨?_, ?_⟩, h3, h4⟩
  · intro x hx
    rcases List.mem_append.1 hx with hx | hx
    · exact hown.1 x hx
    · exact hM x hx
  · rw [List.length_append, flat_app]; exact h2
theorem wpList_appH {ops : Array Oper} {rest : List Oper} {o : Oper} {a : Act} {w : World} {Q : Exit → Act → World → Prop} (hgd : o.guard = none) (s x : Operand)
    (ho : o.op = .call { callee := .builtin .append, args := #[s, x], argTypes := #[37, 37] }) (base : Nat) (v : Value) (L : List (List UInt8)) (hs : a.eval s = v) (hown : OwnH w base v L)
    (aa : Addr) (m c : Nat) (M : List (List UInt8)) (hx : a.eval x = .slice (some aa) m c) (hm : M.length = m) (hM : All32 M) (hb : Hl w (some aa) M) (hlen : L.length + M.length ≤ 4398046511104 + 4096) (hbase : base ≤ w.heap.size)
    (h : ∀ v' w', OwnH w' base v' (L ++ M) → w.grownBy w' v.ownBlock → (v' = .slice none 0 0 ↔ v = .slice none 0 0 ∧ M.length = 0) → wpList Tryz.prog ops Q rest (a.put o.dst v') w') : wpList Tryz.prog ops Q (o :: rest) a w :=
  wpList_plain hgd fun _ hK => by
    subst hm
    obtain ⟨v', w', hr, h2, h3, h4⟩ := run_appH w base o.type v L aa M c hown hM hb hlen hbase
    unfold Oper.wp execOp
    simp only [ho, resolve, invoke, builtin, Sem.run_bind, Sem.run_pure, Result.andThen_ok, List.map_toArray, List.map_cons, List.map_nil, hs, hx, hr]
    exact hK _ _ (h v' w' h2 h3 h4)

set_option maxHeartbeats 1000000 in
/-- A clone of nil is nil. -/
theorem cloneH_nil (w : World) : Calls Tryz.prog 114 #[.slice none 0 0] w fun e w' => e = .returned (.slice none 0 0) ∧ w' = w := by
  have hnil : ∀ W, (binOp .eql 37 (.slice none 0 0) (.slice none 0 0)).run Tryz.prog W = .ok (.bool true) W := fun W => Lib.run_eql_slice_nil_nil W 0 0 Tryz.underlying37
  go_enter Tryz.func114, Tryz.ntmps114
  go_wp2
  go_ret
  exact ⟨rfl, rfl⟩

set_option maxHeartbeats 1000000 in
theorem cloneH_any (a : Addr) (L : List (List UInt8)) (cap : Nat) (w : World) (hL : All32 L) (hn : L.length ≤ 4398046511104) (hl : Hl w (some a) L) :
    Calls Tryz.prog 114 #[.slice (some a) L.length cap] w fun e w' => ∃ g cap', e = .returned (.slice (some ⟨g, 0, none⟩) L.length cap') ∧ OwnH w' w.heap.size (.slice (some ⟨g, 0, none⟩) L.length cap') L ∧ Below w.heap.size w w' := by
  obtain ⟨n, hnn⟩ : ∃ n, n = L.length := ⟨_, rfl⟩
  rw [← hnn] at hn ⊢
  have HN : Hid (n = L.length) := hnn
  have hnil : ∀ W, (binOp .eql 37 (.slice (some a) n cap) (.slice none 0 0)).run Tryz.prog W = .ok (.bool false) W := fun W => Lib.run_eql_slice_some_nil W _ _ _ Tryz.underlying37
  have O0 : Hid (OwnH (w.alloc (.cells #[] 36)) w.heap.size (.slice (some ⟨w.heap.size, 0, none⟩) 0 0) []) := ⟨fun _ h => by simp at h, rfl, .inr ⟨w.heap.size, 0, #[], rfl, Nat.le_refl _, heap_alloc_new _ _, by simp, by simp [maxLen], rfl, rfl⟩⟩
  have be0 : Below w.heap.size w (w.alloc (.cells #[] 36)) := (Below.refl _ _).alloc (Nat.le_refl _) _
  have B0 : Hid (Hl (w.alloc (.cells #[] 36)) (some a) L) := hl.below hL be0
  have S0 : Hid (([] : List (List UInt8)).length + L.length ≤ 4398046511104 + 4096) := by show _ ≤ _; simp; omega
  have Z0 : Hid (w.heap.size ≤ (w.alloc (.cells #[] 36)).heap.size) := by show _ ≤ _; simp
  have HL32 : Hid (All32 L) := hL
  have hln : Hid (L.length = n) := hnn.symm
  clear hnn hl hL
  go_enter Tryz.func114, Tryz.ntmps114
  go_wp2_with (first | (at_builtin; refine wpList_appH rfl (.tmp 5) (.tmp 6) rfl w.heap.size (.slice (some ⟨w.heap.size, 0, none⟩) 0 0) [] rfl O0.out a n cap L rfl hln.out HL32.out B0.out S0.out Z0.out ?_) | fail)
  intro v w1 own1 grow1 hv
  have be1 : Below w.heap.size w w1 := be0.grown grow1 Z0.out (fun k hk => (World.ownsRow.lt O0.out.2 k hk).1)
  have own2 : OwnH w1 w.heap.size v L := by simpa using own1
  obtain ⟨g, cap', hvv⟩ : ∃ g cap', v = .slice (some ⟨g, 0, none⟩) n cap' := by
    rcases own2.open with ⟨h1, _⟩ | ⟨g, cap', h1, _⟩
    · exact (hv h1).elim
    · exact ⟨g, cap', by rw [h1, ← HN.out]⟩
  subst hvv
  have OW : Hid (OwnH w1 w.heap.size (.slice (some ⟨g, 0, none⟩) n cap') L) := own2
  clear own1 own2 grow1 O0 B0 S0 Z0 hv
  go_wp2
  go_ret
  exact ⟨g, cap', rfl, OW.out, be1⟩
end Go.Proofs.YtdnocpngdepbgaaGreatDoor

namespace Go.Proofs.YtdnocpngdepbgaaGreatDoor
open Go.RowKit
set_option linter.unusedVariables false
set_option linter.unusedSimpArgs false

theorem bs_k (l : List UInt8) : K.bs l = bs l := rfl
set_option maxRecDepth 100000 in
set_option maxHeartbeats 1000000 in
theorem whash_any {p : Nat} {g : Option Nat} {M : List UInt8} {e : Int} (h : List UInt8) (hl : h.length = 32) (w : World) (hw : K.WS w 28 p g M e) (hsum : M.length + 32 ≤ 140737488355328) :
    Calls Tryz.prog 39 #[.pointer (some ⟨p, 0, none⟩), .agg (bs h)] w fun x w' => x = .returned (.tuple #[]) ∧ K.Wr w w' 28 p g (K.wA M e h) e := by
  have be : Below w.heap.size w (w.alloc (.cells (bs h) 36)) := (Below.refl _ _).alloc (Nat.le_refl _) _
  have H : Hid (Calls Tryz.prog 55 #[.pointer (some ⟨p, 0, none⟩), .slice (some ⟨w.heap.size, 0, none⟩) 32 32] (w.alloc (.cells (bs h) 36)) fun x w' => x = .returned (.tuple #[]) ∧ K.Wr w w' 28 p g (K.wA M e h) e) :=
    (K.add_any h (some ⟨w.heap.size, 0, none⟩) 32 32 (w.alloc (.cells (bs h) 36)) (hw.below be) hl (K.byt_lit w h 36) (by omega)).mono fun x w' h => ⟨h.1, K.Wr.pre be h.2⟩
  clear hw
  go_enter Tryz.func39, Tryz.ntmps39
  go_wp2_with fail
  refine H.out.mono ?_
  rintro x w1 ⟨rfl, ho⟩
  have HO : Hid (K.Wr w w1 28 p g (K.wA M e h) e) := ho
  clear ho
  go_wp2
  go_end0
  exact ⟨rfl, HO.out⟩

/-- Each is less than those behind it. -/
def SRise (L : List (List UInt8)) : Prop := ∀ (i j : Nat) (x y : List UInt8), L[i]? = some x → L[j]? = some y → i < j → cmpL x y < 0
theorem SRise.tail {x : List UInt8} {r : List (List UInt8)} (h : SRise (x :: r)) : SRise r := fun i j a b ha hb hij => h (i + 1) (j + 1) a b (by simpa using ha) (by simpa using hb) (by omega)
theorem SRise.head {x y : List UInt8} {r : List (List UInt8)} (h : SRise (x :: r)) (hy : y ∈ r) : cmpL x y < 0 := by
  obtain ⟨i, hi⟩ := List.mem_iff_getElem?.1 hy
  exact h 0 (i + 1) x y rfl (by simpa using hi) (by omega)
/-- One list of what there is. -/
theorem SRise.unique : ∀ (L M : List (List UInt8)), All32 L → SRise L → SRise M → (∀ x, x ∈ L ↔ x ∈ M) → L = M
  | [], [], _, _, _, _ => rfl
  | [], y :: s, _, _, _, h => absurd ((h y).2 (by simp)) (by simp)
  | x :: r, [], _, _, _, h => absurd ((h x).1 (by simp)) (by simp)
  | x :: r, y :: s, h32, hL, hM, h => by
    have hM32 : All32 (y :: s) := fun z hz => h32 z ((h z).2 hz)
    have exy : x = y := by
      by_cases e : x = y
      · exact e
      · exfalso
        have hx : x ∈ s := (List.mem_cons.1 ((h x).1 (by simp))).resolve_left e
        have hy : y ∈ r := (List.mem_cons.1 ((h y).2 (by simp))).resolve_left (fun e' => e e'.symm)
        have h1 := hM.head hx
        have h2 := hL.head hy
        rw [cmpL_neg (h32 x (by simp)) (hM32 y (by simp))] at h1
        omega
    subst exy
    rw [SRise.unique r s (fun z hz => h32 z (by simp [hz])) hL.tail hM.tail (fun z => ?_)]
    have hxr : x ∉ r := fun hr => by have := hL.head hr; rw [cmpL_same] at this; omega
    have hxs : x ∉ s := fun hr => by have := hM.head hr; rw [cmpL_same] at this; omega
    constructor
    · intro hz
      rcases List.mem_cons.1 ((h z).1 (by simp [hz])) with rfl | h1
      · exact absurd hz hxr
      · exact h1
    · intro hz
      rcases List.mem_cons.1 ((h z).2 (by simp [hz])) with rfl | h1
      · exact absurd hz hxs
      · exact h1
theorem rises_tail {x : List UInt8} {r : List (List UInt8)} (h : Rises (x :: r)) : Rises r := fun i j a b ha hb hij => h (i + 1) (j + 1) a b (by simpa using ha) (by simpa using hb) (by omega)
theorem srise_cons {x : List UInt8} {r : List (List UInt8)} (h : SRise r) (hx : ∀ y ∈ r, cmpL x y < 0) : SRise (x :: r) := fun i j a b ha hb hij => by
  cases j with
  | zero => omega
  | succ j =>
    cases i with
    | zero =>
      simp at ha
      subst ha
      exact hx b (List.mem_of_getElem? (by simpa using hb))
    | succ i => exact h i j a b (by simpa using ha) (by simpa using hb) (by omega)
theorem lt_of_not {x y : List UInt8} (hx : x.length = 32) (hy : y.length = 32) (h : ¬ cmpL y x < 0) (hne : ¬ y = x) : cmpL x y < 0 := by
  have e := cmpL_neg hx hy
  have h0 : cmpL x y ≠ 0 := fun h0 => hne ((cmpL_zero hx hy).1 h0).symm
  omega
theorem ddF_rise : ∀ (p : List UInt8) (l : List (List UInt8)), All32 (p :: l) → Rises (p :: l) → SRise (ddF p l) ∧ ∀ y ∈ ddF p l, cmpL p y < 0
  | p, [], _, _ => ⟨fun i j x y h => by simp [ddF] at h, fun y h => by simp [ddF] at h⟩
  | p, x :: r, h32, hr => by
    have hp32 := h32 p (by simp)
    have hx32 := h32 x (by simp)
    unfold ddF
    split
    · rename_i hxp
      subst hxp
      exact ddF_rise x r (fun z hz => h32 z (List.mem_cons_of_mem _ hz)) (rises_tail hr)
    · rename_i hxp
      obtain ⟨h1, h2⟩ := ddF_rise x r (fun z hz => h32 z (List.mem_cons_of_mem _ hz)) (rises_tail hr)
      have hpx : cmpL p x < 0 := lt_of_not hp32 hx32 (hr 0 1 p x rfl rfl (by omega)) hxp
      refine ⟨srise_cons h1 h2, fun y hy => ?_⟩
      rcases List.mem_cons.1 hy with rfl | hy
      · exact hpx
      · exact lt_trans hp32 hx32 (h32 y (by have := ddF_mem x r y hy; simp [this])) hpx (h2 y hy)
theorem dd_rise {L : List (List UInt8)} (h32 : All32 L) (hr : Rises L) : SRise (dd L) := by
  cases L with
  | nil => intro i j x y h; simp [dd] at h
  | cons x r =>
    obtain ⟨h1, h2⟩ := ddF_rise x r h32 hr
    exact srise_cons h1 h2
theorem ddF_all (p : List UInt8) (l : List (List UInt8)) (x : List UInt8) : x ∈ l → x = p ∨ x ∈ ddF p l := by
  induction l generalizing p with
  | nil => simp
  | cons y r ih =>
    intro h
    simp only [ddF]
    by_cases hy : y = p
    · rw [if_pos hy]
      rcases List.mem_cons.1 h with rfl | h
      · exact .inl hy
      · exact ih p h
    · rw [if_neg hy]
      rcases List.mem_cons.1 h with rfl | h
      · exact .inr (by simp)
      · rcases ih y h with rfl | h
        · exact .inr (by simp)
        · exact .inr (by simp [h])
theorem dd_all {L : List (List UInt8)} {x : List UInt8} (h : x ∈ L) : x ∈ dd L := by
  cases L with
  | nil => exact h
  | cons y r =>
    simp only [dd]
    rcases List.mem_cons.1 h with rfl | h
    · simp
    · rcases ddF_all y r x h with rfl | h
      · simp
      · simp [h]
/-- The one rising list of the members of another. -/
def Srt (L D : List (List UInt8)) : Prop := SRise D ∧ All32 D ∧ (∀ x, x ∈ D ↔ x ∈ L)
theorem srt_dd {L M : List (List UInt8)} (hL : All32 L) (hp : M.Perm L) (hr : Rises M) : Srt L (dd M) := by
  have hM : All32 M := fun x hx => hL x (hp.mem_iff.1 hx)
  exact ⟨dd_rise hM hr, all32_dd hM, fun x => ⟨fun h => hp.mem_iff.1 (dd_mem h), fun h => dd_all (hp.mem_iff.2 h)⟩⟩
theorem dd_length_le (L : List (List UInt8)) : (dd L).length ≤ L.length := by
  have key : ∀ (l : List (List UInt8)) p, (ddF p l).length ≤ l.length := by
    intro l
    induction l with
    | nil => intro p; simp [ddF]
    | cons y r ih =>
      intro p
      simp only [ddF]
      split
      · have := ih p; simp; omega
      · have := ih y; simp; omega
  cases L with
  | nil => simp [dd]
  | cons x r => have := key r x; simp [dd]; omega
end Go.Proofs.YtdnocpngdepbgaaGreatDoor

namespace Go.Proofs.YtdnocpngdepbgaaGreatDoor
open Go.RowKit
set_option linter.unusedVariables false
set_option linter.unusedSimpArgs false

/-- All hashes one behind the other. -/
def cat (L : List (List UInt8)) : List UInt8 := L.flatten
theorem cat_nil : cat [] = [] := rfl
theorem cat_snoc (L : List (List UInt8)) (k : Nat) (x : List UInt8) (h : L[k]? = some x) : cat (L.take (k + 1)) = cat (L.take k) ++ x := by
  rw [List.take_add_one, h]; simp [cat]
theorem cat_len {L : List (List UInt8)} (h : All32 L) : (cat L).length = 32 * L.length := by
  induction L with
  | nil => rfl
  | cons x r ih =>
    have h1 := ih (fun z hz => h z (List.mem_cons_of_mem _ hz))
    have h2 := h x (by simp)
    simp [cat] at h1 ⊢
    omega
theorem all32_take {L : List (List UInt8)} (h : All32 L) (k : Nat) : All32 (L.take k) := fun x hx => h x (List.mem_of_mem_take hx)
/-- What Writer.Hashes writes. -/
def hw (D : List (List UInt8)) : List UInt8 := K.vint D.length ++ cat D
/-- The hashes' block stays beside a Writer. -/
theorem hs_frw {p q : Nat} {g : Option Nat} {w w' : World} {D : List (List UInt8)} (hD : All32 D) (h : Hs w q 0 D) (f : K.FrW p g w w') (hq : q < w.heap.size) (h1 : q ≠ p) (h2 : some q ≠ g) : Hs w' q 0 D := fun i x e => by
  have h3 := h i x e
  intro j v hv
  have h4 := h3 j v hv
  exact (World.cell?_of_block (f.block q hq h1 h2)).trans h4

theorem WS.gone {w : World} {T : TypeId} {p q : Nat} {g : Option Nat} {M : List UInt8} {e : Int} (h : K.WS w T p g M e) (hq : w.heap.size ≤ q) : some q ≠ g := by
  obtain ⟨v, h1, h2, h3⟩ := h.ex
  intro e
  have := (World.ownsRow.lt h2 q (h3.trans e.symm)).2
  omega
theorem nw_apart {g g1 : Option Nat} {q z : Nat} (h : K.Nw g g1 z) (hq : q < z) (hg : some q ≠ g) : some q ≠ g1 := by
  rcases h with e | ⟨k, e, hk⟩
  · rw [e]; exact hg
  · rw [e]; intro h2; cases h2; omega
/-- slices.Compact at whatever length. -/
theorem compactH (g : Nat) (L : List (List UInt8)) (cap : Nat) (w : World) (hL : All32 L) (hb : L.length ≤ 4398046511104) (hcap : L.length ≤ cap) (hg : g < w.heap.size) (hs : Hs w g 0 L) (ht : w.there g 0 (32 * L.length)) :
    Calls Tryz.prog 117 #[.slice (some ⟨g, 0, none⟩) L.length cap] w fun e w' => e = .returned (.slice (some ⟨g, 0, none⟩) (dd L).length cap) ∧ Hs w' g 0 (dd L) ∧ (∀ B, B ≤ g → Below B w w') ∧ g < w'.heap.size := by
  by_cases h2 : 2 ≤ L.length
  · exact compact_any g L cap w hL h2 hb hcap hg hs ht
  · refine (compact_few (some ⟨g, 0, none⟩) L.length cap (by omega) w).mono ?_
    rintro e w' ⟨rfl, rfl⟩
    rw [dd_short (by omega)]
    exact ⟨rfl, hs, fun B _ => Below.refl _ _, hg⟩

set_option maxRecDepth 100000 in
set_option maxHeartbeats 2000000 in
theorem whashes_gen {p : Nat} {g : Option Nat} {M : List UInt8} (a : Addr) (L : List (List UInt8)) (cap : Nat) (w : World) (hL : All32 L) (hb : L.length ≤ 4398046510976) (hl : Hl w (some a) L) (hw0 : K.WS w 28 p g M 0) (hsum : M.length + 64 + 32 * L.length ≤ 140737488355328) :
    Calls Tryz.prog 41 #[.pointer (some ⟨p, 0, none⟩), .slice (some a) L.length cap] w fun x w' => x = .returned (.tuple #[]) ∧ ∃ D, Srt L D ∧ D.length ≤ L.length ∧ K.Wr w w' 28 p g (M ++ hw D) 0 := by
  have HC : Hid (Calls Tryz.prog 114 #[.slice (some a) L.length cap] w fun e w' => ∃ g cap', e = .returned (.slice (some ⟨g, 0, none⟩) L.length cap') ∧ OwnH w' w.heap.size (.slice (some ⟨g, 0, none⟩) L.length cap') L ∧ Below w.heap.size w w') := cloneH_any a L cap w hL (by omega) hl
  obtain ⟨n, hn⟩ : ∃ n, n = L.length := ⟨_, rfl⟩
  rw [← hn] at hb HC hsum ⊢
  have HN : Hid (n = L.length) := hn
  clear hn hl
  have hlt := hw0.lt
  have HW : Hid (K.WS w 28 p g M 0) := hw0
  clear hw0
  go_enter Tryz.func41, Tryz.ntmps41
  go_wp2_with fail
  refine HC.out.mono ?_
  rintro e w1 ⟨q, cap', rfl, own1, be1⟩
  clear HC
  obtain ⟨hqB, hq1, hs1, ht1, hcap⟩ : w.heap.size ≤ q ∧ q < w1.heap.size ∧ Hs w1 q 0 L ∧ w1.there q 0 (32 * L.length) ∧ L.length ≤ cap' := by
    rcases own1.open with ⟨h1, _⟩ | ⟨g', c', h1, h6, h2, h3, h4, h5⟩
    · cases h1
    · cases h1; exact ⟨h2, h3, h4, h5, h6⟩
  have HS : Hid (Calls Tryz.prog 115 #[.slice (some ⟨q, 0, none⟩) n cap', .func (.func 116) #[] #[]] w1 fun e w' => e = .returned (.tuple #[]) ∧
      ∃ L' : List (List UInt8), L'.Perm L ∧ Rises L' ∧ Hs w' q 0 L' ∧ w'.there q 0 (32 * L.length) ∧ ∀ B, B ≤ q → Below B w1 w') := (by
    rw [HN.out]
    exact sortH_any q L cap' w1 hL (by rw [← HN.out]; omega) hq1 hs1 ht1)
  clear own1 hs1 ht1
  go_wp2_with fail
  refine HS.out.mono ?_
  rintro e w2 ⟨rfl, R, hpm, hri, hs2, ht2, hbel⟩
  have be2 : Below w.heap.size w w2 := be1.trans (hbel _ hqB)
  have hsz2 : w1.heap.size ≤ w2.heap.size := (hbel 0 (by omega)).size
  have hRn : R.length = L.length := hpm.length_eq
  have HR32 : Hid (All32 R) := fun x hx => hL x (hpm.mem_iff.1 hx)
  have HSR : Hid (Srt L (dd R)) := srt_dd hL hpm hri
  have HCo : Hid (Calls Tryz.prog 117 #[.slice (some ⟨q, 0, none⟩) n cap'] w2 fun e w' => e = .returned (.slice (some ⟨q, 0, none⟩) (dd R).length cap') ∧ Hs w' q 0 (dd R) ∧ (∀ B, B ≤ q → Below B w2 w') ∧ q < w'.heap.size) := (by
    rw [HN.out, ← hRn]
    exact compactH q R cap' w2 HR32.out (by rw [hRn, ← HN.out]; omega) (by rw [hRn]; exact hcap) (by omega) hs2 (by rw [hRn]; exact ht2))
  have hDn : (dd R).length ≤ n := (by rw [HN.out, ← hRn]; exact dd_length_le R)
  clear HS hpm hri hs2 ht2 hbel be1 hRn HR32
  generalize dd R = D at *
  go_wp2_with fail
  refine HCo.out.mono ?_
  rintro e w3 ⟨rfl, hs3, hbel, hq3⟩
  have be3 : Below w.heap.size w w3 := be2.trans (hbel _ hqB)
  have WS3 : K.WS w3 28 p g M 0 := HW.out.below be3
  have hqg : some q ≠ g := WS.gone HW.out hqB
  have hqp : q ≠ p := by omega
  have HD32 : Hid (All32 D) := HSR.out.2.1
  obtain ⟨m, hm⟩ : ∃ m, m = D.length := ⟨_, rfl⟩
  have HU : Hid (Calls Tryz.prog 26 #[.pointer (some ⟨p, 0, none⟩), .int .u64 (m : Int)] w3 fun x w' => x = .returned (.tuple #[]) ∧ K.Wr w3 w' 28 p g (M ++ K.vint m) 0) := (by
    have := K.wuint_any m (by omega) w3 WS3 (by omega)
    rwa [K.wA_0] at this)
  rw [← hm] at hDn ⊢
  have HM : Hid (m = D.length) := hm
  have HS3 : Hid (Hs w3 q 0 D) := hs3
  clear HCo hs3 hbel be2 hsz2 hm WS3 HW
  go_wp2_with fail
  refine HU.out.mono ?_
  rintro e w4 ⟨rfl, wr4⟩
  have HS4 : Hid (Hs w4 q 0 D) := (by obtain ⟨g1, _, f, _⟩ := wr4; exact hs_frw HD32.out HS3.out f hq3 hqp hqg : Hs w4 q 0 D)
  have HW4 : Hid (K.Wr w3 w4 28 p g (M ++ K.vint m) 0) := wr4
  have hlt4 : w3.heap.size ≤ w4.heap.size := by obtain ⟨g1, _, f, _⟩ := wr4; exact f.size
  clear wr4 HU HS3
  have hzs : (bs z32).size = 32 := by rw [bs_size]; rfl
  go_wp2
  go_loopw [20] (fun i wr => ∃ k : Nat, k ≤ m ∧ i = .int .i64 k ∧ Hid (K.Wr w3 wr 28 p g (M ++ (K.vint m ++ cat (D.take k))) 0) ∧ Hid (Hs wr q 0 D)) (fun i _ => m - (intOf i).toNat)
  case atStart => exact ⟨0, by omega, rfl, (by have := HW4.out; simpa [cat] using this : K.Wr w3 w4 28 p g (M ++ (K.vint m ++ cat (D.take 0))) 0), HS4.out⟩
  case round =>
    obtain ⟨k, hk, rfl, HWr, HSr⟩ := hrel
    by_cases hkm : k < m
    · have hkD : k < D.length := by rw [← HM.out]; exact hkm
      obtain ⟨x, hx⟩ : ∃ x, D[k]? = some x := ⟨_, List.getElem?_eq_getElem hkD⟩
      have hx32 := HD32.out.get hx
      have HR : Hid (wr.rangeAt q (32 * k) (hcs x)) := (by have := HSr.out k x hx; rwa [Nat.zero_add] at this : wr.rangeAt q (32 * k) (hcs x))
      have ix1 := fun wx => indexH q 0 m cap' k wx hkm
      simp only [Nat.zero_add] at ix1
      have be : Below wr.heap.size wr (wr.alloc (.cells (bs x) 36)) := (Below.refl _ _).alloc (Nat.le_refl _) _
      have HC : Hid (Calls Tryz.prog 39 #[.pointer (some ⟨p, 0, none⟩), .agg (bs x)] (wr.alloc (.cells (bs x) 36)) fun e w' => e = .returned (.tuple #[]) ∧ K.Wr w3 w' 28 p g (M ++ (K.vint m ++ cat (D.take (k + 1)))) 0 ∧ Hs w' q 0 D) := (by
        obtain ⟨g1, ws1, f1, n1⟩ := HWr.out
        have hqr : q < wr.heap.size := by have := f1.size; omega
        have hqg1 := nw_apart n1 hq3 hqg
        have hlen : (M ++ (K.vint m ++ cat (D.take k))).length ≤ 140737488355328 - 32 := by
          have h1 := cat_len (all32_take HD32.out k)
          have h2 := K.vint_10 m (by omega)
          have h3 : (D.take k).length ≤ k := by simp; omega
          simp only [List.length_append]
          omega
        refine (whash_any x hx32 _ (ws1.below be) (by omega)).mono ?_
        rintro e w' ⟨rfl, wr'⟩
        rw [K.wA_0] at wr'
        refine ⟨rfl, ?_, ?_⟩
        · rw [cat_snoc D k x hx, ← List.append_assoc (K.vint m), ← List.append_assoc M]
          exact K.Wr.step f1 n1 (K.Wr.pre be wr')
        · obtain ⟨g2, _, f2, _⟩ := wr'
          exact hs_frw HD32.out (HSr.out.below be hqr) f2 (by simp; omega) hqp hqg1)
      clear hx HWr HSr be
      go_wp2_with (first
        | (refine wpList_load_mid rfl 36 _ rfl q (32 * k) rfl (hcs x) _ HR.out Tryz.underlying36 rfl (by rw [hcs_len, hx32]; exact hsH) ?_; rw [hcs_arr])
        | (refine wpList_alloc_row rfl 36 rfl (bs z32) (hzH _) ?_)
        | (refine wpList_store_row rfl 36 _ _ rfl wr.heap.size (bs x) rfl rfl 36 (bs z32) (heap_alloc_new _ _) (by rw [bs_size, hx32]; exact hsH) (by rw [hzs, bs_size, hx32]) (bs_one _) ?_; rw [World.setRow_alloc_new])
        | (refine wpList_load_arr rfl 36 _ rfl wr.heap.size rfl 36 (bs x) (0, 0) _ (heap_alloc_new _ _) Tryz.underlying36 rfl (by rw [bs_size, hx32]; exact hsH) ?_)
        | fail)
      refine HC.out.mono ?_
      rintro e w5 ⟨rfl, hw5, hs5⟩
      have H5 : Hid (K.Wr w3 w5 28 p g (M ++ (K.vint m ++ cat (D.take (k + 1)))) 0) := hw5
      have G5 : Hid (Hs w5 q 0 D) := hs5
      clear hw5 hs5 HC HR
      go_wp2
      exact ⟨⟨k + 1, by omega, by go_num, H5, G5⟩, by simp [intOf]; omega⟩
    · obtain rfl : k = m := by omega
      have HE : Hid (K.Wr w wr 28 p g (M ++ hw D) 0) := (by
        have h1 := HWr.out
        rw [HM.out, List.take_length] at h1
        exact K.Wr.pre be3 h1)
      go_wp2
      go_end0
      exact ⟨rfl, D, HSR.out, (by rw [← HM.out]; exact hDn), HE.out⟩
theorem whashes_any {p : Nat} {g : Option Nat} {M : List UInt8} (a : Addr) (L : List (List UInt8)) (cap : Nat) (w : World) (hL : All32 L) (hb : L.length ≤ 4398046510976) (hl : Hl w (some a) L) (hw0 : K.WS w 28 p g M 0) (hsum : M.length ≤ 1000) :
    Calls Tryz.prog 41 #[.pointer (some ⟨p, 0, none⟩), .slice (some a) L.length cap] w fun x w' => x = .returned (.tuple #[]) ∧ ∃ D, Srt L D ∧ D.length ≤ L.length ∧ K.Wr w w' 28 p g (M ++ hw D) 0 :=
  whashes_gen a L cap w hL hb hl hw0 (by omega)
end Go.Proofs.YtdnocpngdepbgaaGreatDoor

namespace Go.Proofs.YtdnocpngdepbgaaGreatDoor.K
open Go.RowKit
set_option linter.unusedVariables false
set_option linter.unusedSimpArgs false

variable {p : Nat} {g : Option Nat} {M : List UInt8} {e : Int}
theorem WS.view {w : World} {T : TypeId} (h : WS w T p g M e) : ∃ a cv, w.cell? ⟨p, 0, none⟩ = some (.slice a M.length cv) ∧ w.cell? ⟨p, 1, none⟩ = some (.int .i64 e) ∧ Byt w a M ∧ (a = none ∧ M = [] ∧ cv = 0 ∨ ∃ b, a = some ⟨b, 0, none⟩) := by
  obtain ⟨v, hq, own, hg⟩ := h.ex
  have c0 := (cell_of_row w p 0 _ _ _ hq).trans (show (#[v, .int .i64 e] : Array Value)[0]? = some v from rfl)
  have c1 := (cell_of_row w p 1 _ _ _ hq).trans (show (#[v, .int .i64 e] : Array Value)[1]? = some (.int .i64 e) from rfl)
  obtain ⟨a, cv, rfl, h1, h2, h3⟩ := own.open
  refine ⟨a, cv, c0, c1, h2, ?_⟩
  rcases own.2 with ⟨hv, hn⟩ | ⟨gg, cap, cur, hv, _⟩
  · simp only [Value.slice.injEq] at hv
    exact .inl ⟨hv.1, List.eq_nil_of_length_eq_zero hn, hv.2.2⟩
  · simp only [Value.slice.injEq] at hv
    exact .inr ⟨_, hv.1⟩
set_option maxRecDepth 100000 in
set_option maxHeartbeats 1000000 in
/-- Done, where there is no error and something was written. -/
theorem wdone0 (w : World) (hw : WS w 28 p g M 0) (hM : 0 < M.length) (hl : M.length ≤ 140737488355328) :
    Calls Tryz.prog 11 #[.pointer (some ⟨p, 0, none⟩)] w fun x w' => ∃ b cv, x = .returned (.tuple #[.slice (some ⟨b, 0, none⟩) M.length cv, .int .i64 0]) ∧ OwnB w' w.heap.size (.slice (some ⟨b, 0, none⟩) M.length cv) M ∧ Below w.heap.size w w' := by
  obtain ⟨a, cv, c0, c1, hb, ha⟩ := hw.view
  clear hw
  rcases ha with ⟨rfl, rfl, rfl⟩ | ⟨b, rfl⟩
  · simp at hM
  · have HC : Hid (Calls Tryz.prog 54 #[.slice (some ⟨b, 0, none⟩) M.length cv] w fun x w' => ∃ b cv, x = .returned (.slice (some ⟨b, 0, none⟩) M.length cv) ∧ OwnB w' w.heap.size (.slice (some ⟨b, 0, none⟩) M.length cv) M ∧ Below w.heap.size w w') := (clone_any b 0 M.length cv M w rfl hl hb).mono fun x w' h => by
      obtain ⟨v, h1, h2, h3⟩ := h
      obtain ⟨g, cap, rfl, _⟩ := h2.open1 hM
      exact ⟨g, cap, h1, h2, h3⟩
    clear hb hl
    generalize M.length = n at *
    go_enter Tryz.func11, Tryz.ntmps11
    go_wp2_with fail
    refine HC.out.mono ?_
    rintro x w1 ⟨b1, cv1, rfl, h2, h3⟩
    have H2 : Hid (OwnB w1 w.heap.size (.slice (some ⟨b1, 0, none⟩) n cv1) M) := h2
    have H3 : Hid (Below w.heap.size w w1) := h3
    clear h2 h3
    go_wp2
    go_ret2
    exact ⟨_, _, rfl, H2.out, H3.out⟩

theorem rd_of_own {w : World} {T : TypeId} {v : Value} {l : List UInt8} {base : Nat} (own : OwnB w base v l) (hl : l.length ≤ 140737488351232) :
    ∃ a cap, v = .slice a l.length cap ∧ RD (w.alloc (.cells #[.slice a l.length cap, .int .i64 0, .int .i64 0, .int .i64 0] T)) T w.heap.size a cap l ⟨0, 0, 0⟩ ∧ (∀ ad, a = some ad → base ≤ ad.block ∧ ad.block < w.heap.size) := by
  have hop : ∃ a cap, v = .slice a l.length cap ∧ l.length ≤ cap ∧ Byt w a l ∧ (∀ ad, a = some ad → ad.spot = none ∧ base ≤ ad.block ∧ ad.block < w.heap.size) := by
    rcases own.2 with ⟨rfl, hn⟩ | ⟨g, cap, cur, rfl, hbg, hg, hnc, hcm, hcs, htake⟩
    · obtain rfl : l = [] := List.eq_nil_of_length_eq_zero hn
      exact ⟨none, 0, rfl, Nat.le_refl _, .inl rfl, fun _ e => by cases e⟩
    · obtain ⟨a', cap', e, hc, hb, _⟩ := own.open
      cases e
      exact ⟨_, _, rfl, hc, hb, fun ad e => by cases e; exact ⟨rfl, hbg, (Array.getElem?_eq_some_iff.1 hg).1⟩⟩
  obtain ⟨a, cap, rfl, hcap, hb, hp⟩ := hop
  refine ⟨a, cap, rfl, ⟨heap_alloc_new _ _, hcap, byt_below hb ((Below.refl _ _).alloc (Nat.le_refl _) _), fun ad e => ⟨(hp ad e).1, by have := (hp ad e).2.2; omega⟩, Nat.zero_le _, hl⟩, fun ad e => (hp ad e).2⟩
set_option maxRecDepth 100000 in
set_option maxHeartbeats 1000000 in
theorem new_any (b off n cap : Nat) (l : List UInt8) (w : World) (hl : l.length = n) (hn : n ≤ 140737488351232) (hb : Byt w (some ⟨b, off, none⟩) l) :
    Calls Tryz.prog 18 #[.slice (some ⟨b, off, none⟩) n cap] w fun e w' => ∃ r a c, e = .returned (.pointer (some ⟨r, 0, none⟩)) ∧ RD w' 108 r a c l ⟨0, 0, 0⟩ ∧ w.heap.size ≤ r ∧ Below w.heap.size w w' := by
  have HC : Hid (Calls Tryz.prog 54 #[.slice (some ⟨b, off, none⟩) n cap] w fun e w' => ∃ v, e = .returned v ∧ OwnB w' w.heap.size v l ∧ Below w.heap.size w w') := clone_any b off n cap l w hl (by omega) hb
  clear hb
  go_enter Tryz.func18, Tryz.ntmps18
  go_wp2_with fail
  refine HC.out.mono ?_
  rintro e w1 ⟨v, rfl, own, b1⟩
  obtain ⟨a, c, rfl, rd, hp⟩ := rd_of_own (w := w1) (T := 108) own (by omega)
  have z1 := b1.size
  have HRD : Hid (RD (w1.alloc (.cells #[.slice a l.length c, .int .i64 0, .int .i64 0, .int .i64 0] 108)) 108 w1.heap.size a c l ⟨0, 0, 0⟩) := rd
  have B2 : Hid (Below w.heap.size w (w1.alloc (.cells #[.slice a l.length c, .int .i64 0, .int .i64 0, .int .i64 0] 108))) := b1.alloc (by omega) (.cells #[.slice a l.length c, .int .i64 0, .int .i64 0, .int .i64 0] 108)
  rw [hl] at HRD B2
  clear own rd hp b1
  go_wp2
  go_ret
  exact ⟨_, a, c, rfl, HRD.out, z1, B2.out⟩

/-- A number is read as it was written. -/
theorem num_vint (len k : Nat) (t : List UInt8) : ∀ (f v i acc : Nat), v ≤ f → v * 2 ^ (7 * i) < 2 ^ 63 → (0 < i → 0 < v) → numL len k (vint v ++ t) i acc = ⟨acc + v * 2 ^ (7 * i), i + (vint v).length, 0, len⟩ := by
  intro f
  induction f with
  | zero =>
    intro v i acc hf hv h0
    obtain rfl : v = 0 := by omega
    have hi : i = 0 := by omega
    subst hi
    rw [vint_lt (by omega)]
    simp [numL]
  | succ f ih =>
    intro v i acc hf hv h0
    have h9 : i = 9 → v = 0 := fun e => by
      subst e
      have : v * 2 ^ 63 < 1 * 2 ^ 63 := by simpa using hv
      have := Nat.lt_of_mul_lt_mul_right this
      omega
    by_cases h : v < 128
    · rw [vint_lt h]
      have e1 : (UInt8.ofNat v).toNat = v := by simp; omega
      simp only [List.cons_append, List.nil_append, numL, e1]
      rw [if_neg (by omega), if_pos h]
      simp
    · rw [vint_ge h]
      have e1 : (UInt8.ofNat (v % 128 + 128)).toNat = v % 128 + 128 := by simp; omega
      simp only [List.cons_append, numL, e1]
      rw [if_neg (by omega), if_neg (by omega), ih (v / 128) (i + 1) _ (by omega) ?_ (fun _ => by omega)]
      · have e2 : 2 ^ (7 * (i + 1)) = 128 * 2 ^ (7 * i) := by rw [Nat.mul_add, Nat.pow_add]; omega
        have e3 : v * 2 ^ (7 * i) = (v % 128) * 2 ^ (7 * i) + v / 128 * (128 * 2 ^ (7 * i)) := by
          rw [← Nat.mul_assoc, ← Nat.add_mul]
          congr 1
          omega
        rw [e2, e3, Nat.add_sub_cancel]
        simp only [List.length_cons, Num.mk.injEq, and_true]
        exact ⟨by omega, by omega⟩
      · have e2 : 2 ^ (7 * (i + 1)) = 128 * 2 ^ (7 * i) := by rw [Nat.mul_add, Nat.pow_add]; omega
        rw [e2, ← Nat.mul_assoc]
        exact Nat.lt_of_le_of_lt (Nat.mul_le_mul_right _ (by omega)) hv
theorem num_front (v : Nat) (hv : v ≤ 4398046510976) (t : List UInt8) : num (vint v ++ t) 0 = ⟨v, (vint v).length, 0, (vint v ++ t).length⟩ := by
  unfold num
  rw [List.drop_zero, num_vint _ _ t v v 0 0 (Nat.le_refl _) (by simp; omega) (by omega)]
  simp
end Go.Proofs.YtdnocpngdepbgaaGreatDoor.K

namespace Go.Proofs.YtdnocpngdepbgaaGreatDoor
open Go.RowKit
set_option linter.unusedVariables false
set_option linter.unusedSimpArgs false

theorem byC_bs (l : List UInt8) : K.byC l = (bs l).toList := by simp [K.byC, bs]
theorem resHashOf (tmps : Array Value) (w : World) (g : Nat) (t : TypeId) (l : List UInt8) (hl : l.length = 32) (fr : Nat × Nat) (hp : tmps.getD 2 undef = .pointer (some ⟨g, 0, none⟩)) (hg : w.heap[g]? = some (.cells (bs l) t fr)) :
    (results Tryz.f122 tmps).run Tryz.prog w = .ok (.agg (bs l)) w :=
  results_cell_row Tryz.results122 tmps w g t (bs l) fr _ hp hg Tryz.underlying36 rfl (by rw [bs_size, hl]; exact hsH)
theorem splice_all (x : List UInt8) (h : x.length = 32) : ((bs z32).toList.take 0 ++ (K.byC x ++ (bs z32).toList.drop (0 + (K.byC x).length))).toArray = bs x := by
  have e : (bs z32).toList.length = 32 := by rw [Array.length_toList, bs_size]; rfl
  rw [K.byC_len, h, List.drop_of_length_le (by omega), byC_bs]
  simp

set_option maxRecDepth 100000 in
set_option maxHeartbeats 1000000 in
theorem hashOf_any (b off n cap : Nat) (l : List UInt8) (w : World) (hl : l.length = n) (hn : 32 ≤ n) (hb : ∀ j, j < l.length → w.cell? ⟨b, off + j, none⟩ = some (.int .u8 (K.at8 l j))) (hbl : b < w.heap.size) :
    Calls Tryz.prog 122 #[.slice (some ⟨b, off, none⟩) n cap] w fun e w' => e = .returned (.agg (bs (l.take 32))) ∧ Below w.heap.size w w' := by
  have hzs : (bs z32).size = 32 := by rw [bs_size]; rfl
  obtain ⟨x, hx⟩ : ∃ x, x = l.take 32 := ⟨_, rfl⟩
  have ht : x.length = 32 := by rw [hx]; simp; omega
  rw [← hx]
  have HL : Hid ((K.byC x).length = Nat.min n 32) := (by rw [K.byC_len, ht]; exact (Nat.min_eq_right hn).symm : (K.byC x).length = Nat.min n 32)
  have bel : Below w.heap.size w ((w.alloc (.cells (bs z32) 36)).alloc (.cells (bs z32) 36)) := ((Below.refl _ _).alloc (Nat.le_refl _) _).alloc (by simp) _
  have g1 : ((w.alloc (.cells (bs z32) 36)).alloc (.cells (bs z32) 36)).heap[w.heap.size + 1]? = some (.cells (bs z32) 36 (0, 0)) := heap_alloc2_new _ _ _
  have g0 : ((w.alloc (.cells (bs z32) 36)).alloc (.cells (bs z32) 36)).heap[w.heap.size]? = some (.cells (bs z32) 36 (0, 0)) := heap_alloc2_old _ _ _
  have hsrc : Hid (∀ j v, (K.byC x)[j]? = some v → ((w.alloc (.cells (bs z32) 36)).alloc (.cells (bs z32) 36)).cell? ((⟨b, off, none⟩ : Addr).add j) = some v) := fun j v hj => by
    obtain ⟨h1, rfl⟩ := K.byC_get _ j v hj
    rw [Addr.add_mid, World.cell?_of_block (w := w) (bel.block b hbl), hb j (by omega), hx]
    congr 2
    unfold K.at8
    simp [List.getElem?_take, show j < 32 by omega]
  have hfit : Hid (0 + (K.byC x).length ≤ (bs z32).size) := (by rw [hzs, K.byC_len]; omega : 0 + (K.byC x).length ≤ (bs z32).size)
  have SP : Hid (((bs z32).toList.take 0 ++ (K.byC x ++ (bs z32).toList.drop (0 + (K.byC x).length))).toArray = bs x) := splice_all x ht
  have G0 : Hid ((((w.alloc (.cells (bs z32) 36)).alloc (.cells (bs z32) 36)).setRow (w.heap.size + 1) (bs x)).heap[w.heap.size]? = some (.cells (bs z32) 36 (0, 0))) := by show _ = _; rw [setRow_other _ _ _ _ (by omega)]; exact g0
  have G1 : Hid ((((w.alloc (.cells (bs z32) 36)).alloc (.cells (bs z32) 36)).setRow (w.heap.size + 1) (bs x)).heap[w.heap.size + 1]? = some (.cells (bs x) 36 (0, 0))) := setRow_heap _ _ _ _ _ _ g1
  have BB : Hid (Below w.heap.size w (((w.alloc (.cells (bs z32) 36)).alloc (.cells (bs z32) 36)).setRow (w.heap.size + 1) (bs x))) := bel.trans (below_setRow _ _ _ _ (by omega))
  clear hx hl hb
  go_enter Tryz.func122, Tryz.ntmps122
  go_wp2_with (first
    | (refine wpList_alloc_row rfl 36 rfl (bs z32) (hzH _) ?_)
    | (refine wpList_copy_own rfl (.tmp 4) (.tmp 5) 25 25 rfl 5 Tryz.underlying25 hsz5 (w.heap.size + 1) 0 32 32 ⟨b, off, none⟩ n cap rfl rfl (bs z32) 36 g1 (K.byC x) HL.out hsrc.out hfit.out (K.byC_one _) ?_; rw [SP.out])
    | (refine wpList_load_arr rfl 36 (.tmp 3) rfl (w.heap.size + 1) rfl 36 (bs x) (0, 0) _ G1.out Tryz.underlying36 rfl (by rw [bs_size, ht]; exact hsH) ?_)
    | (refine wpList_store_row rfl 36 (.tmp 2) (.tmp 7) rfl w.heap.size (bs x) rfl rfl 36 (bs z32) G0.out (by rw [bs_size, ht]; exact hsH) (by rw [hzs, bs_size, ht]) (bs_one _) ?_)
    | fail)
  exact bodyPost_ret (resHashOf _ _ w.heap.size 36 x ht (0, 0) rfl (setRow_heap _ _ _ _ _ _ G0.out)) rfl ⟨rfl, BB.out.trans (below_setRow _ _ _ _ (Nat.le_refl _))⟩

variable {T : TypeId} {r cap : Nat} {a : Option Addr} {L : List UInt8} {s : K.St}
set_option maxRecDepth 100000 in
set_option maxHeartbeats 2000000 in
theorem counted32 (most : Nat) (hm : most ≤ 9223372036854775807) (w : World) (h : K.RD w T r a cap L s) (hb : s.bad = 0) (v sz : Nat) (pl : Int) (hN : K.num L s.k = ⟨v, sz, 0, pl⟩) (hv : v ≤ most) (hlen : s.k + sz + v * 32 ≤ L.length) :
    Calls Tryz.prog 107 #[.pointer (some ⟨r, 0, none⟩), .int .i64 (most : Int), .int .i64 32] w fun e w' => e = .returned (.tuple #[.slice (K.from23 a cap (s.k + sz)) (v * 32) (cap - (s.k + sz)), .int .i64 (sz : Int), .bool true]) ∧ K.On w w' T r a cap L s := by
  have HN : Hid (Calls Tryz.prog 105 #[.pointer (some ⟨r, 0, none⟩)] w fun e w' => e = .returned (.tuple #[.int .u64 (v : Int), .int .i64 (sz : Int), .bool true]) ∧ K.On w w' T r a cap L s) := (K.number_any w h hb).mono fun e w' hx => by
    rw [hN, K.St.fl_ok] at hx
    exact hx
  have hf := h.few
  have hr := h.room
  have HL : Hid (∀ wx, K.On w wx T r a cap L s → Calls Tryz.prog 128 #[.pointer (some ⟨r, 0, none⟩)] wx fun e w' => e = .returned (.int .i64 ((L.length : Int) - (s.k : Int))) ∧ ∃ m, w' = wx.drewN m) := fun (wx : World) (hx : K.On w wx T r a cap L s) => K.cleft_any wx hx.1
  have s1 := K.sl_mid a L.length cap (s.k + sz) (s.k + sz + v * 32) ((s.k : Int) + (sz : Int)) ((s.k : Int) + (sz : Int) + (v : Int) * 32) (by omega) (by omega) (by omega) (by omega)
  have s2 := K.sl_mid' a L.length cap (s.k + sz) (s.k + sz + v * 32) ((s.k : Int) + (sz : Int)) ((s.k : Int) + (sz : Int) + (v : Int) * 32) (by omega) (by omega) (by omega) (by omega)
  rw [Nat.add_sub_cancel_left] at s1 s2
  clear h hN
  generalize K.from23 a cap (s.k + sz) = a4 at *
  generalize cap - (s.k + sz) = c4 at *
  obtain ⟨d, hd⟩ : ∃ d, d = (L.length - (s.k + sz)) / 32 := ⟨_, rfl⟩
  have tq : Int.tdiv ((L.length : Int) - (s.k : Int) - (sz : Int)) 32 = (d : Int) := by rw [Int.tdiv_eq_ediv_of_nonneg (by omega)]; omega
  have hvd : v ≤ d := by omega
  have hdL : d ≤ L.length := by omega
  have g3 : ¬ (d : Int) < (v : Int) := by omega
  clear hd
  generalize v * 32 = v32 at *
  have g1 : ¬ (most : Int) < 0 := by omega
  have g2 : ¬ (most : Int) < (v : Int) := by omega
  go_enter Tryz.func107, Tryz.ntmps107
  go_wp2_with fail
  refine HN.out.mono ?_
  rintro e w1 ⟨rfl, ho⟩
  have HON : Hid (K.On w w1 T r a cap L s) := ho
  have c0 := ho.1.c0
  have c1 := ho.1.c1
  clear ho
  go_wp2_with fail
  refine (HL.out w1 HON.out).mono ?_
  rintro e w2 ⟨rfl, m, rfl⟩
  have HON2 : Hid (K.On w (w1.drewN m) T r a cap L s) := HON.out.drew m
  go_wp2
  try (go_quiet (fail); go_wp2)
  go_ret3
  exact ⟨rfl, HON2.out⟩
end Go.Proofs.YtdnocpngdepbgaaGreatDoor

