import Derived.Test.YtpalbfkkegaliabDoorHj
import Derived.Test.YtpalbfkkegaliabDoorQx
import Derived.Test.YtpalbfkkegaliabDoorBe
import Derived.Lib.SliceRun
namespace Go.Proofs.YtpalbfkkegaliabDoor
open Go.RowKit
set_option linter.unusedVariables false
set_option linter.unusedSimpArgs false

theorem slice_fromH (g off n cap i : Nat) (w : World) (hi : i < n) (hc : n ≤ cap) : (Instr.slice 37 (.slice (some ⟨g, off, none⟩) n cap) (some (.int .i64 (i : Int))) none none).run Tryd.prog w = .ok (.slice (some ⟨g, off + 32 * i, none⟩) (n - i) (cap - i)) w := by
  obtain ⟨inf, hi', hz, hs, hb⟩ := infoH
  have h1 : i ≤ n := by omega
  have h2 : ¬ cap = i := by omega
  simp [Instr.slice, Instr.sliceBounds, Instr.sliceBound, asIntOf, run_underlying Tryd.underlying37, Go.sizeOf, typeInfo, hi', hs, h1, h2, hc, Addr.add_mid]
theorem slice_toH (g off n cap i : Nat) (w : World) (hi : i ≤ cap) : (Instr.slice 37 (.slice (some ⟨g, off, none⟩) n cap) none (some (.int .i64 (i : Int))) none).run Tryd.prog w = .ok (.slice (some ⟨g, off, none⟩) i cap) w := by
  obtain ⟨inf, hi', hz, hs, hb⟩ := infoH
  simp [Instr.slice, Instr.sliceBounds, Instr.sliceBound, asIntOf, run_underlying Tryd.underlying37, Go.sizeOf, typeInfo, hi', hs, hi, Addr.add_mid]
theorem zeroCells_one (n : Nat) : ∀ v ∈ (Builtin.zeroCells (bs z32) n).toList, v.oneCell' = true := by
  intro v hv
  have hz : (bs z32).size = 32 := by rw [bs_size]; rfl
  simp only [Builtin.zeroCells, hz, Array.toList_map, List.mem_map] at hv
  obtain ⟨i, _, rfl⟩ := hv
  have hlt : i % 32 < (bs z32).size := by rw [hz]; omega
  rw [getElem!_pos (bs z32) (i % 32) hlt]
  exact hcs_one z32 _ (by simp [hcs])
theorem run_clear_gen (w : World) (ty : TypeId) (g o n c : Nat) (Z : Array Value) (hn : 0 < n) (hv : ∀ w, (zeroValue 36).run Tryd.prog w = .ok (.agg Z) w)
    (hst : (storeCells ⟨g, o, none⟩ (Builtin.zeroCells Z n).toList).run Tryd.prog w = .ok () (w.setCells g o (Builtin.zeroCells Z n).toList)) :
    (Builtin.clear_ #[37] ty #[.slice (some ⟨g, o, none⟩) n c]).run Tryd.prog w = .ok (.tuple #[]) (w.setCells g o (Builtin.zeroCells Z n).toList) := by
  obtain ⟨m, rfl⟩ : ∃ m, n = m + 1 := ⟨n - 1, by omega⟩
  simp only [Builtin.clear_, List.getElem?_toArray, List.getElem?_cons_zero, Sem.run_bind, run_underlying Tryd.underlying37, Result.andThen_ok, hv, Value.cells, hst, Sem.run_pure]
theorem run_clearH (w : World) (ty : TypeId) (g o n c : Nat) (hn : 0 < n) (ht : w.there g o (32 * n)) :
    (Builtin.clear_ #[37] ty #[.slice (some ⟨g, o, none⟩) n c]).run Tryd.prog w = .ok (.tuple #[]) (w.setCells g o (Builtin.zeroCells (bs z32) n).toList) := by
  have hz : (bs z32).size = 32 := by rw [bs_size]; rfl
  have hlen : (Builtin.zeroCells (bs z32) n).toList.length = n * 32 := by rw [Array.length_toList, size_zeroCells, hz]
  have hst := run_storeCells_cells (P := Tryd.prog) g o (Builtin.zeroCells (bs z32) n).toList 0 w (fun j hj => by rw [hlen] at hj; exact (ht j (by omega)).1) (fun j hj => by rw [hlen] at hj; exact (ht j (by omega)).2) (zeroCells_one n)
  simp only [Nat.add_zero] at hst
  exact run_clear_gen w ty g o n c (bs z32) hn hzH hst
theorem zeroCells_len (n : Nat) : (Builtin.zeroCells (bs z32) n).toList.length = 32 * n := by
  have hz : (bs z32).size = 32 := by rw [bs_size]; rfl
  rw [Array.length_toList, size_zeroCells, hz]; omega
/-- Hashes ahead of what is written over stay. -/
theorem hs_clear {w : World} {g i n : Nat} {M : List (List UInt8)} (h : Hs w g 0 M) (hM : All32 M) (hi : i ≤ M.length) : Hs (w.setCells g (32 * i) (Builtin.zeroCells (bs z32) n).toList) g 0 (M.take i) := fun j x e => by
  rw [List.getElem?_take] at e
  split at e
  · rename_i hj
    refine World.rangeAt_setCells_apart (h j x e) _ _ _ ?_
    rw [hcs_len, hM.get e]
    omega
  · cases e

/-- Of neighbours that are alike the first alone, what stood ahead being told. -/
def ddF (p : List UInt8) : List (List UInt8) → List (List UInt8)
  | [] => []
  | x :: r => if x = p then ddF p r else x :: ddF x r
def dd : List (List UInt8) → List (List UInt8)
  | [] => []
  | x :: r => x :: ddF x r
theorem ddF_snoc (p : List UInt8) (l : List (List UInt8)) (x : List UInt8) : ddF p (l ++ [x]) = if x = (l.getLast?).getD p then ddF p l else ddF p l ++ [x] := by
  induction l generalizing p with
  | nil =>
    simp only [List.nil_append, ddF, List.getLast?_nil, Option.getD_none]
    by_cases h : x = p <;> simp [h]
  | cons y r ih =>
    simp only [List.cons_append, ddF]
    have hl : ((y :: r).getLast?).getD p = (r.getLast?).getD y := by
      cases r with
      | nil => simp
      | cons z s => simp [List.getLast?_cons_cons, List.getLast?_cons]
    rw [hl]
    by_cases hy : y = p
    · subst hy
      rw [if_pos rfl, if_pos rfl, ih y]
    · rw [if_neg hy, if_neg hy, ih y]
      split <;> simp
theorem dd_snoc (L : List (List UInt8)) (k : Nat) (p x : List UInt8) (hk : 1 ≤ k) (hp : L[k - 1]? = some p) (hx : L[k]? = some x) : dd (L.take (k + 1)) = if x = p then dd (L.take k) else dd (L.take k) ++ [x] := by
  have ht : L.take (k + 1) = L.take k ++ [x] := by rw [List.take_add_one, hx]; rfl
  rw [ht]
  have hkl : k ≤ L.length := by have := (List.getElem?_eq_some_iff.1 hx).1; omega
  cases hq : L.take k with
  | nil =>
    have := congrArg List.length hq
    rw [List.length_take, List.length_nil] at this
    omega
  | cons y r =>
    have hlast : (r.getLast?).getD y = p := by
      have h1 : (L.take k).getLast? = some p := by
        rw [List.getLast?_eq_getElem?, List.length_take, show min k L.length = k by omega, List.getElem?_take, if_pos (by omega), hp]
      rw [hq] at h1
      cases r with
      | nil => simpa using h1
      | cons z s => simpa [List.getLast?_cons_cons] using congrArg (fun o => o.getD y) h1
    simp only [List.cons_append, dd]
    rw [ddF_snoc, hlast]
    split <;> simp
theorem dd_take_one (L : List (List UInt8)) : dd (L.take 1) = L.take 1 := by
  cases L with
  | nil => rfl
  | cons x r => simp [dd, ddF]
theorem dd_short {L : List (List UInt8)} (h : L.length < 2) : dd L = L := by
  have := dd_take_one L
  rwa [List.take_of_length_le (by omega)] at this
theorem ddF_mem (p : List UInt8) (l : List (List UInt8)) (x : List UInt8) : x ∈ ddF p l → x ∈ l := by
  induction l generalizing p with
  | nil => simp [ddF]
  | cons y r ih =>
    simp only [ddF]
    split
    · intro h; exact List.mem_cons_of_mem _ (ih p h)
    · intro h
      rcases List.mem_cons.1 h with rfl | h
      · simp
      · exact List.mem_cons_of_mem _ (ih y h)
theorem dd_mem {L : List (List UInt8)} {x : List UInt8} : x ∈ dd L → x ∈ L := by
  cases L with
  | nil => simp [dd]
  | cons y r =>
    simp only [dd]
    intro h
    rcases List.mem_cons.1 h with rfl | h
    · simp
    · exact List.mem_cons_of_mem _ (ddF_mem y r x h)
theorem all32_dd {L : List (List UInt8)} (h : All32 L) : All32 (dd L) := fun x hx => h x (dd_mem hx)
end Go.Proofs.YtpalbfkkegaliabDoor
