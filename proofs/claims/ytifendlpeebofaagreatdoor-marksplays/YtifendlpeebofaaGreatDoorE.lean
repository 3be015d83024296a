import Derived.Test.YtifendlpeebofaaGreatDoorBase
import Derived.ChangeKeysEq
namespace Go.Proofs.YtifendlpeebofaaGreatDoor
open Go.RowKit
set_option linter.unusedVariables false
set_option linter.unusedSimpArgs false
section
variable {P : Program}

theorem items_bs (d : Nat) (e : TypeId) (he : P.underlying e = some (.int .u8)) (a b : List UInt8) (w : World) (is : List Nat)
    (h : ∀ i ∈ is, i < a.length ∧ i < b.length) :
    (Op.eqItems (d + 1) e 1 (bs a) (bs b) is).run P w = .ok (is.all (fun i => at8 a i == at8 b i)) w := by
  have hpk : P.plainKey e = true := by simp [Program.plainKey, he]
  induction is with
  | nil => simp [Op.eqItems]
  | cons i is ih =>
    have hi := h i (by simp)
    have p1 := run_part_plain w hpk (off := i) (bs_get a i hi.1)
    have p2 := run_part_plain w hpk (off := i) (bs_get b i hi.2)
    simp only [Op.eqItems, Nat.mul_one, Sem.run_bind, p1, p2, Result.andThen_ok, run_equalIn_int w d e .u8 .u8 _ _ he, List.all_cons]
    rw [Sem.run_ite]
    cases hq : (at8 a i == at8 b i) with
    | false => simp
    | true =>
      simp only [Bool.not_true, Bool.false_eq_true, if_false, Bool.true_and]
      exact ih (fun j hj => h j (by simp [hj]))

theorem at8_ext {a b : List UInt8} (n : Nat) (ha : a.length = n) (hb : b.length = n) (h : ∀ i, i < n → at8 a i = at8 b i) : a = b := by
  apply List.ext_getElem (by omega)
  intro i h1 h2
  have := h i (by omega)
  simp only [at8, List.getD_eq_getElem?_getD, List.getElem?_eq_getElem h1, List.getElem?_eq_getElem h2, Option.getD_some] at this
  exact UInt8.toNat_inj.1 (by omega)

theorem all_eq (n : Nat) (a b : List UInt8) (ha : a.length = n) (hb : b.length = n) : (List.range n).all (fun i => at8 a i == at8 b i) = decide (a = b) := by
  rw [Bool.eq_iff_iff]
  simp only [List.all_eq_true, List.mem_range, beq_iff_eq, decide_eq_true_eq]
  exact ⟨at8_ext n ha hb, fun h i _ => by rw [h]⟩

/-- '==' of two arrays of n bytes. -/
theorem eq_bytes (d : Nat) {t e : TypeId} {n : Nat} {i : TypeInfo} (hu : P.underlying t = some (.array n e)) (hi : P.info? e = some i) (hc : P.cellsOf e = 1) (he : P.underlying e = some (.int .u8))
    (a b : List UInt8) (ha : a.length = n) (hb : b.length = n) (w : World) :
    (Op.equalIn (d + 2) t (.agg (bs a)) (.agg (bs b))).run P w = .ok (decide (a = b)) w := by
  rw [run_equalIn_array w (d + 1) (bs a) (bs b) hu hi, hc, items_bs d e he a b w _ (fun j hj => by have := List.mem_range.1 hj; omega), all_eq n a b ha hb]
end
end Go.Proofs.YtifendlpeebofaaGreatDoor
