import Derived.WalkKit
import Derived.Laws.BitsAllLaws
import Derived.Laws.Rows
import Derived.Deep.WholeRow
import Derived.Deep.MidRow
import Derived.BigQuiet
import Derived.ChangeKeysEq
import Derived.Test.YtbpmpcmmdiaiiaaDoorRows
import Derived.Deep.Upon
import Derived.Deep.OwnRows
import Derived.Deep.RegionWith
import Derived.Deep.QuietTactic
import Derived.ProofKit
import Derived.OpenShut
import Derived.ShutString
import Derived.ChangeOld
import Derived.Below
import Derived.SizedLaws
import Derived.Deep.Slices
import Derived.Laws.BytesArg
import Derived.Laws.IdiomStrings
import Derived.WalkSpells
import Derived.WalkLawsBesides
import Derived.Laws.Externs
import Derived.OwnWalk
import Derived.Maps.AppendAt
import Derived.Deep.RegionHeld3
namespace Go.Proofs.YtbpmpcmmdiaiiaaDoor
open Go.RowKit
set_option linter.unusedVariables false
set_option linter.unusedSimpArgs false

/-- A row of bytes as cells. -/
def bs (h : List UInt8) : Array Value := (h.map (fun b => Value.int .u8 (b.toNat : Int))).toArray

/-- A byte of a list, as a number. -/
def at8 (h : List UInt8) (k : Nat) : Int := ((h.getD k 0).toNat : Int)

theorem at8_lo (h : List UInt8) (k : Nat) : 0 ≤ at8 h k := by unfold at8; omega
theorem at8_hi (h : List UInt8) (k : Nat) : at8 h k ≤ 255 := by unfold at8; have := (h.getD k 0).toNat_lt; omega

theorem bs_size (h : List UInt8) : (bs h).size = h.length := by simp [bs]

theorem bs_get (h : List UInt8) (k : Nat) (hk : k < h.length) : (bs h)[k]? = some (.int .u8 (at8 h k)) := by
  simp [bs, at8, List.getElem?_eq_getElem hk]

theorem bs_set (h : List UInt8) (k : Nat) (v : UInt8) : (bs h).setIfInBounds k (.int .u8 (v.toNat : Int)) = bs (h.set k v) := by
  simp [bs, List.map_set]

theorem bs_inj {a b : List UInt8} (h : bs a = bs b) : a = b := by
  have h2 : a.map (fun b => Value.int .u8 (b.toNat : Int)) = b.map (fun b => Value.int .u8 (b.toNat : Int)) := by
    simpa [bs] using h
  have h3 := congrArg (List.map (fun v => UInt8.ofNat (intOf v).toNat)) h2
  simpa [List.map_map, Function.comp_def, intOf] using h3

/-- Is a byte a digit? -/
def isDg (c : Int) : Bool := decide (48 ≤ c) && decide (c ≤ 57) || decide (97 ≤ c) && decide (c ≤ 102)

/-- A digit's number. -/
def dgVal (c : Int) : Int := if 97 ≤ c then (c - 87) % 256 else (c - 48) % 256

/-- Digit number k of a hash. -/
def dig (h : List UInt8) (k : Nat) : Int := if k % 2 = 0 then at8 h (k / 2) / 16 else at8 h (k / 2) % 16

theorem dig_bd (h : List UInt8) (k : Nat) : 0 ≤ dig h k ∧ dig h k < 16 := by
  unfold dig
  have := at8_lo h (k / 2)
  have := at8_hi h (k / 2)
  split <;> omega

theorem and15 (x : Int) (h0 : 0 ≤ x) (h1 : x ≤ 255) : bits .and .u8 x 15 = x % 16 := by
  rw [u8_and x 15 h0 (by omega) (by decide) (by decide)]
  show ((x.toNat &&& 15 : Nat) : Int) = _
  rw [nat_mask4]
  omega

theorem isDg_digit {c : Int} (h : isDg c = true) : 48 ≤ c ∧ c ≤ 57 ∨ 97 ≤ c ∧ c ≤ 102 := by
  simpa [isDg] using h

theorem ret_int {k : IntKind} {a b : Int} (h : a = b) : Ending.returned (.int k a) = .returned (.int k b) := by rw [h]
theorem ret_bool {a b : Bool} (h : a = b) : Ending.returned (.bool a) = .returned (.bool b) := by rw [h]
end Go.Proofs.YtbpmpcmmdiaiiaaDoor

namespace Go.Proofs.YtbpmpcmmdiaiiaaDoor
open Go.RowKit
section
variable {P : Program}

/-- 'alloc ty', its zero value by a name. -/
theorem wpList_alloc_row {ops : Array Oper} {rest : List Oper} {o : Oper} {a : Act} {w : World} {Q : Exit → Act → World → Prop} (hgd : o.guard = none) (ty : TypeId) (ho : o.op = .alloc ty)
    (Z : Array Value) (hz : (zeroValue ty).run P w = .ok (.agg Z) w)
    (h : wpList P ops Q rest (a.put o.dst (.pointer (some ⟨w.heap.size, 0, none⟩))) (w.alloc (.cells Z ty))) : wpList P ops Q (o :: rest) a w :=
  wpList_plain hgd fun _ hK => by
    unfold Oper.wp execOp
    simp only [ho, Instr.alloc, newVar, newRow, newObj, Sem.run_bind, hz, Result.andThen_ok, Value.cells]
    exact hK _ _ h

/-- 'build ty' of nothing: its zero value by a name. -/
theorem wpList_build_row {ops : Array Oper} {rest : List Oper} {o : Oper} {a : Act} {w : World} {Q : Exit → Act → World → Prop} (hgd : o.guard = none) (ty : TypeId) (ho : o.op = .build ty #[])
    (Z : Array Value) (hz : P.built ty [] = some Z)
    (h : wpList P ops Q rest (a.put o.dst (.agg Z)) w) : wpList P ops Q (o :: rest) a w := by
  refine wpList_build hgd ty #[] ho (by simp [hz]) ?_
  simpa [hz] using h

/-- 'build ty' of some parts, by a name. -/
theorem wpList_build_is {ops : Array Oper} {rest : List Oper} {o : Oper} {a : Act} {w : World} {Q : Exit → Act → World → Prop} (hgd : o.guard = none) (ty : TypeId) (parts : Array (Nat × Operand)) (ho : o.op = .build ty parts)
    (l : List (Nat × Value)) (hl : (parts.map fun (i, x) => (i, a.eval x)).toList = l) (Z : Array Value) (hz : P.built ty l = some Z)
    (h : wpList P ops Q rest (a.put o.dst (.agg Z)) w) : wpList P ops Q (o :: rest) a w := by
  refine wpList_build hgd ty parts ho (by rw [hl, hz]; rfl) ?_
  rw [hl, hz]
  exact h

theorem wpList_wanted {ops : Array Oper} {rest : List Oper} {o : Oper} {a : Act} {w : World} {Q : Exit → Act → World → Prop} (hw : Region.wanted o (yielded ops a.tmps) = true)
    (h : ∀ K : Act → World → Prop, (∀ a w, wpList P ops Q rest a w → K a w) → o.wp P a w K Q) : wpList P ops Q (o :: rest) a w :=
  wpList_step fun K hK => by rw [if_pos hw]; exact h K hK

/-- A whole array out of a block, guarded or not. -/
theorem wpList_load_arr {ops : Array Oper} {rest : List Oper} {o : Oper} {a : Act} {w : World} {Q : Exit → Act → World → Prop} (hw : Region.wanted o (yielded ops a.tmps) = true) (ty : TypeId) (x : Operand) (ho : o.op = .load ty x)
    (g : Nat) (hx : a.eval x = .pointer (some ⟨g, 0, none⟩)) (t : TypeId) (cs : Array Value) (fr : Nat × Nat) (d : TypeDesc) (hg : w.heap[g]? = some (.cells cs t fr))
    (hu : P.underlying ty = some d) (hd : (match d with | .struct _ | .array _ _ => true | _ => false) = true) (hi : (P.info? ty).map (·.size) = some cs.size)
    (h : wpList P ops Q rest (a.put o.dst (.agg cs)) w) : wpList P ops Q (o :: rest) a w :=
  wpList_wanted hw fun _ hK => wp_load_row ty x ho g hx t cs fr d hg hu hd hi (hK _ _ h)

/-- A whole row out of the middle of a block, in a walk of a region that only reads. -/
theorem quiet_load_mid {C : World → Prop} {a : Act} {op : Oper} {K : Act → Prop} (ty : TypeId) (x : Operand) (ho : op.op = .load ty x)
    (b o : Nat) (hx : a.eval x = .pointer (some ⟨b, o, none⟩)) (cs : Array Value) (d : TypeDesc) (hS : ∀ w, C w → w.rangeAt b o cs.toList)
    (hu : P.underlying ty = some d) (hd : d.isRow = true) (hi : (P.info? ty).map (·.size) = some cs.toList.length) (hk : K (a.put op.dst (.agg cs))) : op.quiet P a C K :=
  ⟨_, fun w hw => by
    unfold Oper.quietAt execOp
    simp only [ho, hx, Instr.loadAt, Instr.sureAddr, Sem.run_bind, Sem.run_pure, Result.andThen_ok, run_loadVar_mid w b o ty cs.toList d (hS w hw) hu hd hi]
    exact ⟨rfl, rfl⟩, hk⟩
end
end Go.Proofs.YtbpmpcmmdiaiiaaDoor

namespace Go.Proofs.YtbpmpcmmdiaiiaaDoor
open Go.RowKit
set_option linter.unusedVariables false
set_option linter.unusedSimpArgs false
section
variable {P : Program}

theorem items_bs (d : Nat) (e : TypeId) (he : P.underlying e = some (.int .u8)) (a b : List UInt8) (w : World) (is : List Nat)
    (h : ∀ i ∈ is, i < a.length ∧ i < b.length) :
    (Op.eqItems (d + 1) e 1 (bs a) (bs b) is).run P w = .ok (is.all (fun i => at8 a i == at8 b i)) w := by
  have hpk : P.plainKey e = true := by simp [Program.plainKey, he]
  induction is with
  | nil => simp [Op.eqItems]
  | cons i is ih =>
    have hi := h i (by simp)
    have p1 := run_part_plain w hpk (off := i) (bs_get a i hi.1)
    have p2 := run_part_plain w hpk (off := i) (bs_get b i hi.2)
    simp only [Op.eqItems, Nat.mul_one, Sem.run_bind, p1, p2, Result.andThen_ok, run_equalIn_int w d e .u8 .u8 _ _ he, List.all_cons]
    rw [Sem.run_ite]
    cases hq : (at8 a i == at8 b i) with
    | false => simp
    | true =>
      simp only [Bool.not_true, Bool.false_eq_true, if_false, Bool.true_and]
      exact ih (fun j hj => h j (by simp [hj]))

theorem at8_ext {a b : List UInt8} (n : Nat) (ha : a.length = n) (hb : b.length = n) (h : ∀ i, i < n → at8 a i = at8 b i) : a = b := by
  apply List.ext_getElem (by omega)
  intro i h1 h2
  have := h i (by omega)
  simp only [at8, List.getD_eq_getElem?_getD, List.getElem?_eq_getElem h1, List.getElem?_eq_getElem h2, Option.getD_some] at this
  exact UInt8.toNat_inj.1 (by omega)

theorem all_eq (n : Nat) (a b : List UInt8) (ha : a.length = n) (hb : b.length = n) : (List.range n).all (fun i => at8 a i == at8 b i) = decide (a = b) := by
  rw [Bool.eq_iff_iff]
  simp only [List.all_eq_true, List.mem_range, beq_iff_eq, decide_eq_true_eq]
  exact ⟨at8_ext n ha hb, fun h i _ => by rw [h]⟩

/-- '==' of two arrays of n bytes. -/
theorem eq_bytes (d : Nat) {t e : TypeId} {n : Nat} {i : TypeInfo} (hu : P.underlying t = some (.array n e)) (hi : P.info? e = some i) (hc : P.cellsOf e = 1) (he : P.underlying e = some (.int .u8))
    (a b : List UInt8) (ha : a.length = n) (hb : b.length = n) (w : World) :
    (Op.equalIn (d + 2) t (.agg (bs a)) (.agg (bs b))).run P w = .ok (decide (a = b)) w := by
  rw [run_equalIn_array w (d + 1) (bs a) (bs b) hu hi, hc, items_bs d e he a b w _ (fun j hj => by have := List.mem_range.1 hj; omega), all_eq n a b ha hb]
end
end Go.Proofs.YtbpmpcmmdiaiiaaDoor

namespace Go.Proofs.YtbpmpcmmdiaiiaaDoor
open Go.RowKit
set_option linter.unusedVariables false
set_option linter.unusedSimpArgs false

def z32 : List UInt8 := List.replicate 32 0
theorem z32_len : z32.length = 32 := rfl
theorem hzH (w : World) : (zeroValue 31).run Tryd.prog w = .ok (.agg (bs z32)) w := (zero_of_info (n := 32) (by kernel_rfl)).1 w
theorem hsH : (Tryd.prog.info? 31).map (·.size) = some 32 := by kernel_rfl
theorem bs_one (l : List UInt8) : (bs l).all (·.oneCell') = true := by
  simp [bs, Value.oneCell']

/-- The cells of a hash. -/
def hcs (h : List UInt8) : List Value := (bs h).toList
theorem hcs_len (h : List UInt8) : (hcs h).length = h.length := by simp [hcs, bs]
theorem hcs_arr (h : List UInt8) : (hcs h).toArray = bs h := by simp [hcs]
theorem hcs_one (h : List UInt8) : ∀ v ∈ hcs h, v.oneCell' = true := by
  intro v hv
  simp [hcs, bs] at hv
  obtain ⟨b, _, rfl⟩ := hv
  rfl
/-- All have 32 bytes. -/
def All32 (L : List (List UInt8)) : Prop := ∀ h ∈ L, h.length = 32
theorem All32.get {L : List (List UInt8)} (hL : All32 L) {i : Nat} {h : List UInt8} (e : L[i]? = some h) : h.length = 32 := hL h (List.mem_of_getElem? e)
theorem All32.set {L : List (List UInt8)} (hL : All32 L) (i : Nat) {h : List UInt8} (hh : h.length = 32) : All32 (L.set i h) := fun x hx => by
  rcases List.mem_or_eq_of_mem_set hx with h1 | rfl
  · exact hL x h1
  · exact hh

/-- Hashes lie in a block from a place on. -/
def Hs (w : World) (b off : Nat) (L : List (List UInt8)) : Prop := ∀ i h, L[i]? = some h → w.rangeAt b (off + 32 * i) (hcs h)
/-- A slice of hashes that lies in memory. -/
def Hl (w : World) (a : Option Addr) (L : List (List UInt8)) : Prop := L = [] ∨ ∃ b off, a = some ⟨b, off, none⟩ ∧ Hs w b off L

theorem rangeAt_lt {w : World} {b o : Nat} {cs : List Value} (h : w.rangeAt b o cs) (h0 : 0 < cs.length) : b < w.heap.size :=
  World.block_lt_of_cell? w ⟨b, o + 0, none⟩ (h 0 _ (List.getElem?_eq_getElem h0))
theorem rangeAt_below {B : Nat} {w w' : World} {b o : Nat} {cs : List Value} (h : w.rangeAt b o cs) (hb : Below B w w') (hB : b < B) : w'.rangeAt b o cs := fun j v hv => by
  rw [hb.cell (p := ⟨b, o + j, none⟩) hB]; exact h j v hv
theorem there_below {B : Nat} {w w' : World} {b o n : Nat} (h : w.there b o n) (hb : Below B w w') (hB : b < B) : w'.there b o n := fun j hj => by
  rw [hb.cell (p := ⟨b, o + j, none⟩) hB, hb.frozen (p := ⟨b, o + j, none⟩) hB]; exact h j hj
theorem Hs.below {B : Nat} {w w' : World} {b off : Nat} {L : List (List UInt8)} (h : Hs w b off L) (hb : Below B w w') (hB : b < B) : Hs w' b off L := fun i x e => rangeAt_below (h i x e) hb hB
theorem Hs.lt {w : World} {b off : Nat} {L : List (List UInt8)} (h : Hs w b off L) (hL : All32 L) (h0 : 0 < L.length) : b < w.heap.size := by
  have e := List.getElem?_eq_getElem h0
  exact rangeAt_lt (h 0 _ e) (by rw [hcs_len, hL.get e]; omega)
theorem Hl.below {w w' : World} {a : Option Addr} {L : List (List UInt8)} (h : Hl w a L) (hL : All32 L) (hb : Below w.heap.size w w') : Hl w' a L := by
  rcases h with rfl | ⟨b, off, rfl, hs⟩
  · exact .inl rfl
  · by_cases h0 : 0 < L.length
    · exact .inr ⟨b, off, rfl, hs.below hb (hs.lt hL h0)⟩
    · exact .inl (List.eq_nil_of_length_eq_zero (by omega))
theorem Hl.at {w : World} {a : Option Addr} {L : List (List UInt8)} (h : Hl w a L) {i : Nat} (hi : i < L.length) : ∃ b off, a = some ⟨b, off, none⟩ ∧ Hs w b off L := by
  rcases h with rfl | h
  · simp at hi
  · exact h
theorem below_setCells {B : Nat} {a w : World} (h : Below B a w) {g : Nat} (hg : B ≤ g) (o : Nat) (vs : List Value) : Below B a (w.setCells g o vs) := by
  induction vs generalizing w o with
  | nil => exact h
  | cons v r ih => exact ih (h.setCell (by exact hg) v) (o + 1)
theorem size_setCells (w : World) (g o : Nat) (vs : List Value) : (w.setCells g o vs).heap.size = w.heap.size := by
  induction vs generalizing w o with
  | nil => rfl
  | cons v r ih => rw [World.setCells, ih]; simp [World.setCell]

/-- A hash written over another one. -/
theorem Hs.set {w : World} {g off : Nat} {L : List (List UInt8)} (h : Hs w g off L) (hL : All32 L) (i : Nat) (x : List UInt8) (hx : x.length = 32) (hi : i < L.length) (ht : w.there g (off + 32 * i) 32) :
    Hs (w.setCells g (off + 32 * i) (hcs x)) g off (L.set i x) := fun j y e => by
  by_cases hj : i = j
  · subst hj
    rw [List.getElem?_set_self hi] at e
    cases e
    exact World.rangeAt_setCells_same _ _ _ _ (by rw [hcs_len, hx]; exact ht)
  · rw [List.getElem?_set_ne hj] at e
    refine World.rangeAt_setCells_apart (h j y e) _ _ _ ?_
    rw [hcs_len, hcs_len, hx, hL.get e]
    omega
theorem there_part {w : World} {g off n m i : Nat} (h : w.there g off n) (hi : i + m ≤ n) : w.there g (off + i) m := fun j hj => by
  have := h (i + j) (by omega)
  rwa [← Nat.add_assoc] at this

/-- The first k of a list, and zeros up to m. -/
def part (P : List (List UInt8)) (m k : Nat) : List (List UInt8) := P.take k ++ List.replicate (m - k) z32
theorem part_len (P : List (List UInt8)) (m k : Nat) (h : k ≤ m) (hP : P.length = m) : (part P m k).length = m := by simp [part, hP]; omega
theorem part_zero (P : List (List UInt8)) (m : Nat) : part P m 0 = List.replicate m z32 := by simp [part]
theorem part_all (P : List (List UInt8)) (m : Nat) (hP : P.length = m) : part P m m = P := by simp [part, ← hP]
theorem part_set (P : List (List UInt8)) (m k : Nat) (h : k < m) (hP : P.length = m) (x : List UInt8) (hx : P[k]? = some x) : (part P m k).set k x = part P m (k + 1) := by
  apply List.ext_getElem?
  intro i
  have hkl : k < P.length := by omega
  have e : x = P[k] := by rw [List.getElem?_eq_getElem hkl] at hx; exact (Option.some.inj hx).symm
  subst e
  unfold part
  by_cases hi : k = i
  · subst hi
    rw [List.getElem?_set_self (by simp; omega), List.getElem?_append_left (by simp; omega), List.getElem?_take, if_pos (by omega), List.getElem?_eq_getElem hkl]
  · rw [List.getElem?_set_ne hi]
    by_cases h2 : i < k
    · rw [List.getElem?_append_left (by simp; omega), List.getElem?_append_left (by simp; omega), List.getElem?_take, List.getElem?_take, if_pos h2, if_pos (by omega)]
    · rw [List.getElem?_append_right (by simp; omega), List.getElem?_append_right (by simp; omega)]
      simp only [List.length_take, List.getElem?_replicate]
      rw [show min k P.length = k by omega, show min (k + 1) P.length = k + 1 by omega]
      by_cases h3 : i < m
      · rw [if_pos (by omega), if_pos (by omega)]
      · rw [if_neg (by omega), if_neg (by omega)]
theorem all32_part {P : List (List UInt8)} (hP : All32 P) (m k : Nat) : All32 (part P m k) := fun x hx => by
  simp only [part, List.mem_append] at hx
  rcases hx with h | h
  · exact hP x (List.mem_of_mem_take h)
  · rw [List.eq_of_mem_replicate h]; rfl

theorem get_made (m j : Nat) (hj : j < m) : (madeCells (bs z32) m)[j]? = some (.int .u8 0) := by
  have hz : (bs z32).size = 32 := by rw [bs_size]; rfl
  have hlt : j % 32 < (bs z32).size := by rw [hz]; omega
  have hm : (madeCells (bs z32) m)[j]? = (bs z32)[j % 32]? := by
    simp only [madeCells, hz, Array.getElem?_map, Array.getElem?_range, if_pos hj, Option.map_some]
    rw [Array.getElem?_eq_getElem hlt, getElem!_pos (bs z32) (j % 32) hlt]
  rw [hm, bs_get z32 (j % 32) (by rw [z32_len]; omega)]
  have : at8 z32 (j % 32) = 0 := by
    have : ∀ k, k < 32 → at8 z32 k = 0 := by decide
    exact this _ (by omega)
  rw [this]
/-- A made block of zeros. -/
theorem hs_made (w : World) (n : Nat) (t : TypeId) : Hs (w.alloc (.cells (madeCells (bs z32) (n * 32)) t)) w.heap.size 0 (List.replicate n z32) := fun i h e => by
  rw [List.getElem?_replicate] at e
  split at e
  · rename_i hi
    cases e
    intro j v hv
    have hj : j < 32 := by have := (List.getElem?_eq_some_iff.1 hv).1; rwa [hcs_len] at this
    rw [cell_of_row _ _ _ _ _ _ (heap_alloc_new _ _), get_made (n * 32) _ (by omega)]
    have : (bs z32)[j]? = some v := by simpa [hcs] using hv
    rw [bs_get z32 j (by rw [z32_len]; omega)] at this
    have h0 : at8 z32 j = 0 := by
      have : ∀ k, k < 32 → at8 z32 k = 0 := by decide
      exact this _ hj
    rw [h0] at this
    exact this
  · cases e
theorem there_made (w : World) (n : Nat) (t : TypeId) : (w.alloc (.cells (madeCells (bs z32) (n * 32)) t)).there w.heap.size 0 (32 * n) := fun j hj => by
  rw [cell_of_row _ _ _ _ _ _ (heap_alloc_new _ _), get_made (n * 32) _ (by omega)]
  exact ⟨rfl, frozen_of_row _ _ _ _ _ (heap_alloc_new _ _)⟩
end Go.Proofs.YtbpmpcmmdiaiiaaDoor

namespace Go.Proofs.YtbpmpcmmdiaiiaaDoor
open Go.RowKit
set_option linter.unusedVariables false
set_option linter.unusedSimpArgs false

/-- The mark behind what is handed in. -/
def mk (j : Nat) : List UInt8 := 160 :: UInt8.ofNat j :: List.replicate 30 0
theorem mk_len (j : Nat) : (mk j).length = 32 := by simp [mk]
def marks : List (List UInt8) := (List.range 9).map mk
theorem marks_len : marks.length = 9 := rfl
theorem marks_get (j : Nat) (h : j < 9) : marks[j]? = some (mk j) := by simp [marks, h]
theorem all32_marks : All32 marks := fun x hx => by
  simp only [marks, List.mem_map] at hx
  obtain ⟨j, _, rfl⟩ := hx
  exact mk_len j
theorem all32_app {L M : List (List UInt8)} (h : All32 L) (k : All32 M) : All32 (L ++ M) := fun x hx => by
  rcases List.mem_append.1 hx with h1 | h1
  · exact h x h1
  · exact k x h1

theorem infoH : ∃ i, Tryd.prog.info? 31 = some i ∧ i.zero = some (.agg (bs z32)) ∧ i.size = 32 ∧ i.bytes = 32 := by
  have h : (Tryd.prog.info? 31).map (fun i => (i.zero, i.size, i.bytes)) = some (some (.agg (bs z32)), 32, 32) := by kernel_rfl
  cases hq : Tryd.prog.info? 31 with
  | none => rw [hq] at h; simp at h
  | some i =>
    rw [hq] at h
    simp at h
    exact ⟨i, rfl, h.1, h.2.1, h.2.2⟩
theorem cellsH : Tryd.prog.cellsOf 31 = 32 := by kernel_rfl

theorem make_hashes (n : Nat) (hn : n ≤ 4398046511104 + 9) (w : World) :
    (Instr.makeSlice 32 (.int .i64 ((n : Int))) (.int .i64 (n : Int))).run Tryd.prog w = .ok (.slice (some ⟨w.heap.size, 0, none⟩) n n) (w.alloc (.cells (madeCells (bs z32) (n * 32)) 31)) := by
  obtain ⟨i, hi, hz, hs, hb⟩ := infoH
  have h := run_make (P := Tryd.prog) w 32 31 i (.agg (bs z32)) Tryd.underlying32 hi hz .i64 .i64 n n (by omega) (by omega) (by rw [hb]; omega) (by omega)
  rw [h, hs]
  simp [Value.cells]

theorem built_mk (j : Nat) (hj : j < 256) : Tryd.prog.built 31 [(0, .int .u8 160), (1, .int .u8 (j : Int))] = some (bs (mk j)) := by
  have h : Tryd.prog.built 31 [(0, .int .u8 160), (1, .int .u8 (j : Int))] = some (#[.int .u8 160, .int .u8 (j : Int)] ++ (bs (List.replicate 30 0))) := by kernel_rfl
  rw [h]
  have e : ((UInt8.ofNat j).toNat : Int) = (j : Int) := by rw [UInt8.toNat_ofNat']; omega
  simp [mk, bs, e]
  omega

/-- The place of an element. -/
theorem indexH (b off n cap k : Nat) (w : World) (hk : k < n) :
    (Instr.indexAt 32 (.slice (some ⟨b, off, none⟩) n cap) (.int .i64 (k : Int))).run Tryd.prog w = .ok (.pointer (some ⟨b, off + 32 * k, none⟩)) w := by
  obtain ⟨i, hi, hz, hs, hb⟩ := infoH
  have hu := Tryd.underlying32
  have he : Tryd.prog.elem 32 = 31 := by kernel_rfl
  rw [run_indexAt_slice (P := Tryd.prog) _ _ _ _ _ _ _ (by rw [he]; exact hu)]
  simp [hk, he, hi, hs, Go.sizeOf, typeInfo, Addr.add_mid]
end Go.Proofs.YtbpmpcmmdiaiiaaDoor

namespace Go.Proofs.YtbpmpcmmdiaiiaaDoor
open Go.ChangeShapes Go.WideShapes Go.ChangeAt Go.RowKit
set_option linter.unusedVariables false
set_option linter.unusedSimpArgs false

theorem own : ownKnob Tryd.prog.godebug = none := by kernel_rfl
theorem laidOut : laidOutB Tryd.prog = true := by kernel_rfl
theorem bytesH : Tryd.prog.bytesOf 31 = 32 := by kernel_rfl
section
variable {H : Type} {enc : TypeId × Value → H} {w : World} {base : Nat} {spare : Nat → Bool} {held : Bool}
/-- The cells of a hash that can be read. -/
theorem hash_cells {fuel : Nat} {cs : List Value} {x : DataW H × List MemPlace} (h : DataW.trod enc Tryd.prog w base spare held fuel 31 cs = some x) : ∃ l : List UInt8, l.length = 32 ∧ cs = hcs l := by
  obtain ⟨xs, m, _, _, hlen, hxs, hall⟩ := DataW.trod_array Tryd.underlying31 h
  rw [cellsH] at hlen
  have hce : Tryd.prog.cellsOf 5 = 1 := by kernel_rfl
  have key : ∀ i (hi : i < cs.length), ∃ z : Int, cs[i] = .int .u8 z ∧ 0 ≤ z ∧ z ≤ 255 := by
    intro i hi
    have h1 := hall i (by omega)
    rw [hce, Nat.mul_one, List.getElem?_eq_getElem (by omega)] at h1
    obtain ⟨z, e0, _, w0⟩ := DataW.trod_int Tryd.underlying5 h1
    have hb := bounds_u8 w0
    refine ⟨z, ?_, hb.1, hb.2⟩
    rw [List.drop_eq_getElem_cons hi, List.take_succ_cons, List.take_zero] at e0
    exact (List.cons.inj e0).1
  refine ⟨cs.map (fun v => UInt8.ofNat (intOf v).toNat), by simpa using hlen, ?_⟩
  apply List.ext_getElem
  · simp [hcs, bs]
  · intro i h1 h2
    obtain ⟨z, hz, z0, z1⟩ := key i h1
    simp only [hcs, bs, List.map_map, List.getElem_map, Function.comp_apply]
    rw [hz]
    simp only [intOf, Value.int.injEq, true_and]
    rw [UInt8.toNat_ofNat']
    omega
end
/-- What a slice of hashes that came in gives a walk. -/
theorem view_hashes {H : Type} {enc : TypeId × Value → H} {W : World} {a : Option Addr} {len cap : Nat} {d : DataW H} {p : List MemPlace}
    (h : DataW.Trod enc Tryd.prog W 0 (fun _ => true) true 32 (.slice a len cap) d p) :
    ∃ L : List (List UInt8), L.length = len ∧ All32 L ∧ Hl W a L ∧ (a = none → len = 0 ∧ cap = 0) ∧ (d = .nil ∧ len = 0 ∨ ∃ el sp, d = .slice el sp ∧ el.length = len) := by
  obtain ⟨fuel, hf⟩ := h
  rcases DataW.trod_slice Tryd.underlying32 hf with ⟨hcs', hx⟩ | ⟨ad, l, c, elems, rest, n, _, hcs', hx, _, hl, hm, hel, hcell, _, _⟩
  · simp [Value.cells] at hcs'
    obtain ⟨rfl, rfl, rfl⟩ := hcs'
    simp only [Prod.mk.injEq] at hx
    exact ⟨[], rfl, fun v hv => (by cases hv), .inl rfl, fun _ => ⟨rfl, rfl⟩, .inl ⟨hx.1, rfl⟩⟩
  · simp [Value.cells] at hcs'
    obtain ⟨rfl, rfl, rfl⟩ := hcs'
    simp only [Prod.mk.injEq] at hx
    obtain ⟨b, off, spot⟩ := ad
    have raw : ∀ i, i < len → ∃ v : List UInt8, v.length = 32 ∧ ∀ j u, (hcs v)[j]? = some u → W.cell? (((⟨b, off, spot⟩ : Addr).add (i * 32)).add j) = some u := fun i hi => by
      have hi2 := hcell i hi
      rw [List.getElem?_eq_getElem (by omega), cellsH, Option.bind_eq_some_iff] at hi2
      obtain ⟨cs, hc1, hc2⟩ := hi2
      obtain ⟨v, hv, rfl⟩ := hash_cells hc2
      obtain ⟨_, _, hc3⟩ := World.cells?_some hc1
      refine ⟨v, hv, fun j u hu => ?_⟩
      have hj := (List.getElem?_eq_some_iff.1 hu).1
      rw [hcs_len, hv] at hj
      rw [hc3 j hj]
      exact hu
    have hspot : 0 < len → spot = none := fun h0 => by
      obtain ⟨v, hv, hc⟩ := raw 0 h0
      have q := hc 0 _ (List.getElem?_eq_getElem (by rw [hcs_len, hv]; omega))
      have := World.cell?_spot q
      simpa [Addr.add] using this
    let F : Nat → List UInt8 := fun i => if h : i < len then Classical.choose (raw i h) else []
    have hF : ∀ i (h : i < len), F i = Classical.choose (raw i h) := fun i h => dif_pos h
    refine ⟨(List.range len).map F, by simp, fun v hv => ?_, ?_, fun e => (by cases e), .inr ⟨_, _, hx.1, by simp [hel]⟩⟩
    · rw [List.mem_map] at hv
      obtain ⟨i, hi, rfl⟩ := hv
      rw [List.mem_range] at hi
      rw [hF i hi]
      exact (Classical.choose_spec (raw i hi)).1
    · by_cases h0 : 0 < len
      · have hs := hspot h0
        subst hs
        refine .inr ⟨b, off, rfl, fun i v hv => ?_⟩
        have hi : i < len := by
          have := (List.getElem?_eq_some_iff.1 hv).1
          simpa using this
        rw [List.getElem?_map, List.getElem?_range hi] at hv
        simp only [Option.map_some, Option.some.injEq] at hv
        subst hv
        rw [hF i hi]
        intro j u hu
        have := (Classical.choose_spec (raw i hi)).2 j u hu
        rw [Addr.add_mid, Addr.add_mid] at this
        rwa [show off + 32 * i + j = off + i * 32 + j by omega]
      · obtain rfl : len = 0 := by omega
        exact .inl rfl
theorem reachH {H : Type} {ts : List TypeId} {ds : List (DataW H)} (hsz : (DataW.weightsEach Tryd.prog ts ds).all (· ≤ reachBytes) = true) (j : Nat) (ht : ts[j]? = some 32) {d : DataW H} (hd : ds[j]? = some d) {len : Nat}
    (h : d = .nil ∧ len = 0 ∨ ∃ el sp, d = .slice el sp ∧ el.length = len) : len ≤ 4398046511104 := by
  rcases h with ⟨_, rfl⟩ | ⟨el, sp, rfl, rfl⟩
  · omega
  · have := sized_slice hsz (j := j) (t := 32) (e := 31) ht hd Tryd.underlying32
    rw [bytesH] at this
    simp only [reachBytes] at this
    omega
theorem trodAll_cons_mk' {H : Type} {enc : TypeId × Value → H} {P : Program} {W : World} {base : Nat} {sp : Nat → Bool} {held : Bool} {t : TypeId} {ts : List TypeId} {v : Value} {vs : List Value} {d : DataW H} {ds : List (DataW H)} {p q : List MemPlace}
    (h : DataW.Trod enc P W base sp held t v d p) (r : DataW.TrodAll enc P W base sp held ts vs ds q) : DataW.TrodAll enc P W base sp held (t :: ts) (v :: vs) (d :: ds) (p ++ q) := trodAll_cons_mk h r
end Go.Proofs.YtbpmpcmmdiaiiaaDoor

namespace Go.Proofs.YtbpmpcmmdiaiiaaDoor
open Go.RowKit
set_option linter.unusedVariables false
set_option linter.unusedSimpArgs false

theorem at8_zero (a : UInt8) (r : List UInt8) : at8 (a :: r) 0 = (a.toNat : Int) := rfl
theorem at8_succ (a : UInt8) (r : List UInt8) (k : Nat) : at8 (a :: r) (k + 1) = at8 r k := by simp [at8]
theorem hz23 (w : World) : (zeroValue 31).run Tryd.prog w = .ok (.agg (bs z32)) w := (zero_of_info (n := 32) (by kernel_rfl)).1 w
theorem hb23 : Tryd.prog.built 31 [] = some (bs z32) := by kernel_rfl
theorem hs23 : (Tryd.prog.info? 31).map (·.size) = some 32 := by kernel_rfl
theorem load23 (w : World) (g : Nat) (t : TypeId) (l : List UInt8) (hl : l.length = 32) (fr : Nat × Nat) (hg : w.heap[g]? = some (.cells (bs l) t fr)) :
    (loadVar 31 ⟨g, 0, none⟩).run Tryd.prog w = .ok (.agg (bs l)) w :=
  run_loadVar_row w g t 31 (bs l) fr _ hg Tryd.underlying31 rfl (by rw [bs_size, hl]; exact hs23)

theorem below_setRow (B : Nat) (w : World) (g : Nat) (cs : Array Value) (h : B ≤ g) : Below B w (w.setRow g cs) :=
  ⟨rfl, rfl, rfl, by simp, fun k hk => setRow_other w g k cs (by omega)⟩

theorem made_bs (n : Nat) : madeCells #[.int .u8 0] n = bs (List.replicate n 0) := by
  apply Array.ext
  · simp [madeCells, bs]
  · intro i h1 h2
    simp [madeCells, bs, Nat.mod_one]

theorem Tryd.info5 : (Tryd.prog.info? 5).map (fun i => (i.zero, i.size, i.bytes)) = some (some (.int .u8 0), 1, 1) := by kernel_rfl

theorem zlen (m : Nat) : (List.replicate m (0 : UInt8)).length = m := by simp
theorem hz_i5 : ∃ i, Tryd.prog.info? 5 = some i := by
  have h := Tryd.info5
  cases hq : Tryd.prog.info? 5 with
  | none => rw [hq] at h; simp at h
  | some i => exact ⟨i, rfl⟩
theorem eq23 (a b : List UInt8) (ha : a.length = 32) (hb : b.length = 32) (w : World) :
    (Op.equalIn 10000 31 (.agg (bs a)) (.agg (bs b))).run Tryd.prog w = .ok (decide (a = b)) w := by
  obtain ⟨i, hi⟩ := hz_i5
  exact eq_bytes 9998 Tryd.underlying31 hi (by kernel_rfl) Tryd.underlying5 a b ha hb w

end Go.Proofs.YtbpmpcmmdiaiiaaDoor

namespace Go.Proofs.YtbpmpcmmdiaiiaaDoor
open Go.RowKit
set_option linter.unusedVariables false
set_option linter.unusedSimpArgs false

/-- A hash read out of a slice. -/
theorem loadH (w : World) (b o : Nat) (x : List UInt8) (hx : x.length = 32) (hr : w.rangeAt b o (hcs x)) :
    (Instr.loadAt 31 (.pointer (some ⟨b, o, none⟩))).run Tryd.prog w = .ok (.agg (bs x)) w := by
  have := run_loadAt_mid (P := Tryd.prog) w b o 31 (hcs x) _ hr Tryd.underlying31 rfl (by rw [hcs_len, hx]; exact hsH)
  rwa [hcs_arr] at this
theorem rangeAt_drewN {w : World} {b o : Nat} {cs : List Value} (h : w.rangeAt b o cs) (m : Nat) : (w.drewN m).rangeAt b o cs := h
theorem drawnOn {w wr : World} (h : ∃ m, wr = w.drewN m) (q : Nat) : ∃ m, wr.drewN q = w.drewN m := by
  obtain ⟨m, rfl⟩ := h
  exact ⟨m + q, World.drewN_drewN _ _ _⟩
theorem below_drewN' {B : Nat} {a w : World} (h : Below B a w) (n : Nat) : Below B a (w.drewN n) := ⟨h.os, h.tape, h.output, h.size, h.block⟩

set_option maxRecDepth 100000 in
set_option maxHeartbeats 1000000 in
theorem sameH_any (a1 a2 : Option Addr) (L M : List (List UInt8)) (c1 c2 : Nat) (w : World) (hL : All32 L) (hM : All32 M) (hb : L.length ≤ 4398046511104) (h1 : Hl w a1 L) (h2 : Hl w a2 M) :
    Calls Tryd.prog 41 #[.slice a1 L.length c1, .slice a2 M.length c2] w fun e w' => e = .returned (.bool (decide (L = M))) ∧ ∃ m, w' = w.drewN m := by
  by_cases hlen : L.length = M.length
  · obtain ⟨n, hn⟩ : ∃ n, n = L.length := ⟨_, rfl⟩
    have hn2 : M.length = n := by omega
    rw [← hn, hn2]
    rw [← hn] at hb
    have HN : Hid (n = L.length) := hn
    have HN2 : Hid (M.length = n) := hn2
    clear hn hn2 hlen
    obtain ⟨r, hr⟩ : ∃ r, r = decide (L = M) := ⟨_, rfl⟩
    have HR : Hid (r = decide (L = M)) := hr
    rw [← hr]
    clear hr
    go_enter Tryd.func41, Tryd.ntmps41
    go_wp2
    go_loopw [5] (fun i wr => ∃ k : Nat, k ≤ n ∧ i = .int .i64 k ∧ Hid (∀ j, j < k → L[j]? = M[j]?) ∧ Hid (∃ m, wr = w.drewN m)) (fun i _ => n - (intOf i).toNat)
    case atStart => exact ⟨0, by omega, rfl, (fun j hj => by omega : ∀ j, j < 0 → L[j]? = M[j]?), ⟨0, rfl⟩⟩
    case round =>
      obtain ⟨k, hk, rfl, hs, hw⟩ := hrel
      by_cases hkn : k < n
      · have hkL : k < L.length := by rw [← HN.out]; exact hkn
        have hkM : k < M.length := by rw [HN2.out]; exact hkn
        obtain ⟨b, off, rfl, hsA⟩ := h1.at hkL
        obtain ⟨b2, off2, rfl, hsB⟩ := h2.at hkM
        obtain ⟨x, hx⟩ : ∃ x, L[k]? = some x := ⟨_, List.getElem?_eq_getElem hkL⟩
        obtain ⟨y, hy⟩ : ∃ y, M[k]? = some y := ⟨_, List.getElem?_eq_getElem hkM⟩
        have hx32 := hL.get hx
        have hy32 := hM.get hy
        have r1 : Hid (wr.rangeAt b (off + 32 * k) (hcs x)) := (by obtain ⟨q, rfl⟩ := hw.out; exact hsA k x hx : wr.rangeAt b (off + 32 * k) (hcs x))
        have r2 : Hid (wr.rangeAt b2 (off2 + 32 * k) (hcs y)) := (by obtain ⟨q, rfl⟩ := hw.out; exact hsB k y hy : wr.rangeAt b2 (off2 + 32 * k) (hcs y))
        have ix1 := fun wx => indexH b off n c1 k wx hkn
        have ix2 := fun wx => indexH b2 off2 n c2 k wx hkn
        have hkn' : (k : Int) < (n : Int) := by omega
        have eqq := fun m => eq23 x y hx32 hy32 (wr.drewN m)
        clear h1 h2 hsA hsB
        by_cases hxy : x = y
        · have hd : decide (x = y) = true := by simp [hxy]
          simp only [hd] at eqq
          clear hd
          have HK : Hid (∀ j, j < k + 1 → L[j]? = M[j]?) := (fun j hj => by
            by_cases e : j = k
            · subst e; rw [hx, hy, hxy]
            · exact hs.out j (by omega) : ∀ j, j < k + 1 → L[j]? = M[j]?)
          clear hxy
          go_wp2
          refine wp_region_quiet_lit (by kernel_rfl) (by kernel_rfl) ?_
          repeat (first
            | (go_big_quiet_want; refine quiet_load_mid 31 _ rfl b (off + 32 * k) rfl (bs x) _ (by rintro _ ⟨q, rfl⟩; exact r1.out) Tryd.underlying31 rfl (by rw [show (bs x).toList = hcs x from rfl, hcs_len, hx32]; exact hsH) ?_; simp [Act.put]; go_big_quiet_on)
            | (go_big_quiet_want; refine quiet_load_mid 31 _ rfl b2 (off2 + 32 * k) rfl (bs y) _ (by rintro _ ⟨q, rfl⟩; exact r2.out) Tryd.underlying31 rfl (by rw [show (bs y).toList = hcs y from rfl, hcs_len, hy32]; exact hsH) ?_; simp [Act.put]; go_big_quiet_on)
            | go_big_quiet_step (fail))
          refine wpQuiet_nil ?_
          rintro _ ⟨nq, rfl⟩
          go_wp2
          exact ⟨⟨k + 1, by omega, by go_num, HK, drawnOn hw.out _⟩, by simp [intOf]; omega⟩
        · have hd : decide (x = y) = false := by simp [hxy]
          simp only [hd] at eqq
          clear hd
          have HF : Hid (r = false) := (by
            rw [HR.out, decide_eq_false_iff_not]
            intro e
            subst e
            rw [hx] at hy
            exact hxy (Option.some.inj hy) : r = false)
          clear hxy
          go_wp2
          refine wp_region_quiet_lit (by kernel_rfl) (by kernel_rfl) ?_
          repeat (first
            | (go_big_quiet_want; refine quiet_load_mid 31 _ rfl b (off + 32 * k) rfl (bs x) _ (by rintro _ ⟨q, rfl⟩; exact r1.out) Tryd.underlying31 rfl (by rw [show (bs x).toList = hcs x from rfl, hcs_len, hx32]; exact hsH) ?_; simp [Act.put]; go_big_quiet_on)
            | (go_big_quiet_want; refine quiet_load_mid 31 _ rfl b2 (off2 + 32 * k) rfl (bs y) _ (by rintro _ ⟨q, rfl⟩; exact r2.out) Tryd.underlying31 rfl (by rw [show (bs y).toList = hcs y from rfl, hcs_len, hy32]; exact hsH) ?_; simp [Act.put]; go_big_quiet_on)
            | go_big_quiet_step (fail))
          refine wpQuiet_nil ?_
          rintro _ ⟨nq, rfl⟩
          go_wp2
          go_ret
          exact ⟨ret_bool HF.out.symm, drawnOn hw.out _⟩
      · obtain rfl : k = n := by omega
        have HT : Hid (r = true) := (by
          rw [HR.out, decide_eq_true_eq]
          apply List.ext_getElem?
          intro j
          by_cases hj : j < k
          · exact hs.out j hj
          · rw [List.getElem?_eq_none (by rw [← HN.out]; omega), List.getElem?_eq_none (by rw [HN2.out]; omega)] : r = true)
        go_wp2
        go_ret
        exact ⟨ret_bool HT.out.symm, hw.out⟩
  · have hd : decide (L = M) = false := by rw [decide_eq_false_iff_not]; intro e; rw [e] at hlen; exact hlen rfl
    rw [hd]
    have hne : ¬ (L.length : Int) = (M.length : Int) := by omega
    go_enter Tryd.func41, Tryd.ntmps41
    go_wp2
    go_ret
    exact ⟨rfl, 0, rfl⟩
end Go.Proofs.YtbpmpcmmdiaiiaaDoor

namespace Go.Proofs.YtbpmpcmmdiaiiaaDoor
open Go.RowKit
set_option linter.unusedVariables false
set_option linter.unusedSimpArgs false

theorem hs_app {w : World} {b off : Nat} {L M : List (List UInt8)} (h : Hs w b off (L ++ M)) : Hs w b off L := fun i x e => h i x (by rw [List.getElem?_append_left (List.getElem?_eq_some_iff.1 e).1]; exact e)

set_option maxRecDepth 100000 in
set_option maxHeartbeats 1000000 in
/-- What was handed in is as it was. -/
theorem keptH_any (g : Nat) (a2 : Option Addr) (L : List (List UInt8)) (c2 : Nat) (w : World) (hL : All32 L) (hb : L.length ≤ 4398046511104) (h1 : Hs w g 0 (L ++ marks)) (h2 : Hl w a2 L) :
    Calls Tryd.prog 37 #[.slice (some ⟨g, 0, none⟩) L.length (L.length + 9), .slice a2 L.length c2] w fun e w' => e = .returned (.bool true) ∧ ∃ m, w' = w.drewN m := by
  have HS0 := sameH_any (some ⟨g, 0, none⟩) a2 L L (L.length + 9) c2 w hL hL hb (.inr ⟨g, 0, rfl, hs_app h1⟩) h2
  simp only [decide_true] at HS0
  obtain ⟨n, hn⟩ : ∃ n, n = L.length := ⟨_, rfl⟩
  rw [← hn] at HS0 hb ⊢
  have HN : Hid (n = L.length) := hn
  have HS1 : Hid (Calls Tryd.prog 41 #[.slice (some ⟨g, 0, none⟩) n (n + 9), .slice a2 n c2] w fun e w' => e = .returned (.bool true) ∧ ∃ m, w' = w.drewN m) := HS0
  have H1 : Hid (Hs w g 0 (L ++ marks)) := h1
  clear hn HS0 h1
  go_enter Tryd.func37, Tryd.ntmps37
  go_wp2_with (go_at_call 41; refine HS1.out.mono ?_; rintro e w1 ⟨rfl, hw1⟩)
  have HW1 : Hid (∃ m, w1 = w.drewN m) := hw1
  clear hw1 HS1
  go_loopw [6] (fun i wr => ∃ m : Nat, n ≤ m ∧ m ≤ n + 9 ∧ i = .int .i64 m ∧ wr = w1) (fun i _ => n + 9 - (intOf i).toNat)
  case atStart => exact ⟨n, by omega, by omega, rfl, rfl⟩
  case round =>
    obtain ⟨m, hnm, hm9, rfl, rfl⟩ := hrel
    by_cases hm : m < n + 9
    · obtain ⟨j, hj⟩ : ∃ j : Nat, m = n + j := ⟨m - n, by omega⟩
      have ej : (m : Int) - (n : Int) = (j : Int) := by omega
      have hj9 : j < 9 := by omega
      have HR : Hid (wr.rangeAt g (32 * m) (hcs (mk j))) := (by
        obtain ⟨q, e⟩ := HW1.out
        rw [e]
        have := H1.out m (mk j) (by rw [List.getElem?_append_right (by rw [← HN.out]; omega), ← HN.out, hj, Nat.add_sub_cancel_left]; exact marks_get j hj9)
        rwa [Nat.zero_add] at this : wr.rangeAt g (32 * m) (hcs (mk j)))
      have ix := fun wx => indexH g 0 (n + 9) (n + 9) m wx hm
      have hbu := built_mk j (by omega)
      have HMK : Hid ((mk j).length = 32) := mk_len j
      have eqq := fun wx => eq23 (mk j) (mk j) (mk_len j) (mk_len j) wx
      simp only [decide_true] at eqq
      clear hj
      generalize mk j = x at *
      go_wp2_with (first
        | (refine wpList_build_is rfl 31 _ rfl [(0, .int .u8 160), (1, .int .u8 (j : Int))] (by first | kernel_rfl | simp) (bs x) hbu ?_)
        | (refine wpList_load_mid rfl 31 _ rfl g (32 * m) rfl (hcs x) _ HR.out Tryd.underlying31 rfl (by rw [hcs_len, HMK.out]; exact hsH) ?_; rw [hcs_arr])
        | fail)
      go_roundw
      case rel => exact ⟨m + 1, by omega, by omega, by go_num, by trivial⟩
      case measure => simp [intOf]; omega
    · obtain rfl : m = n + 9 := by omega
      go_wp2
      go_ret
      exact ⟨rfl, HW1.out⟩
end Go.Proofs.YtbpmpcmmdiaiiaaDoor

namespace Go.Proofs.YtbpmpcmmdiaiiaaDoor.K
open Go.RowKit
set_option linter.unusedVariables false
set_option linter.unusedSimpArgs false

/-- A value of package api, by value. -/
def VV (k n : Int) (f : Nat) (s : ByteArray) : Value := .agg #[.int .u8 k, .int .i64 n, .float .f64 f, .string s]

@[go_sem] theorem bits_run (b : Nat) (w : World) : (callFunc 57 #[.float .f64 b]).run Tryd.prog w = .ok (.value (.int .u64 b)) w := by
  rw [run_callFunc_extern Tryd.func57 (by kernel_rfl) (by kernel_rfl) (by kernel_rfl) (e := Extern.MathFloatBits.float64bits) (by kernel_rfl)]
  rfl
@[go_sem] theorem from_run (n : Int) (w : World) : (callFunc 64 #[.int .u64 n]).run Tryd.prog w = .ok (.value (.float .f64 n.toNat)) w := by
  rw [run_callFunc_extern Tryd.func64 (by kernel_rfl) (by kernel_rfl) (by kernel_rfl) (e := Extern.MathFloatBits.float64frombits) (by kernel_rfl)]
  rfl

theorem below_drewN {B : Nat} {a w : World} (h : Below B a w) : ∀ q, Below B a (w.drewN q)
  | 0 => h
  | q + 1 => (below_drewN h q).drew
theorem bel_box (w : World) (c : Array Value) (t : TypeId) : Below w.heap.size w (w.alloc (.cells c t)) := (Below.refl _ _).alloc (Nat.le_refl _) _

end Go.Proofs.YtbpmpcmmdiaiiaaDoor.K

namespace Go.Proofs.YtbpmpcmmdiaiiaaDoor.K
open Go.RowKit
set_option linter.unusedVariables false
set_option linter.unusedSimpArgs false

/-- A row of bytes as cells. -/
def bs (h : List UInt8) : Array Value := (h.map (fun b => Value.int .u8 (b.toNat : Int))).toArray

/-- A byte of a list, as a number. -/
def at8 (h : List UInt8) (k : Nat) : Int := ((h.getD k 0).toNat : Int)

theorem at8_lo (h : List UInt8) (k : Nat) : 0 ≤ at8 h k := by unfold at8; omega
theorem at8_hi (h : List UInt8) (k : Nat) : at8 h k ≤ 255 := by unfold at8; have := (h.getD k 0).toNat_lt; omega

theorem bs_size (h : List UInt8) : (bs h).size = h.length := by simp [bs]

theorem bs_get (h : List UInt8) (k : Nat) (hk : k < h.length) : (bs h)[k]? = some (.int .u8 (at8 h k)) := by
  simp [bs, at8, List.getElem?_eq_getElem hk]

theorem bs_set (h : List UInt8) (k : Nat) (v : UInt8) : (bs h).setIfInBounds k (.int .u8 (v.toNat : Int)) = bs (h.set k v) := by
  simp [bs, List.map_set]

theorem bs_inj {a b : List UInt8} (h : bs a = bs b) : a = b := by
  have h2 : a.map (fun b => Value.int .u8 (b.toNat : Int)) = b.map (fun b => Value.int .u8 (b.toNat : Int)) := by
    simpa [bs] using h
  have h3 := congrArg (List.map (fun v => UInt8.ofNat (intOf v).toNat)) h2
  simpa [List.map_map, Function.comp_def, intOf] using h3

/-- Is a byte a digit? -/
def isDg (c : Int) : Bool := decide (48 ≤ c) && decide (c ≤ 57) || decide (97 ≤ c) && decide (c ≤ 102)

/-- A digit's number. -/
def dgVal (c : Int) : Int := if 97 ≤ c then (c - 87) % 256 else (c - 48) % 256

/-- Digit number k of a hash. -/
def dig (h : List UInt8) (k : Nat) : Int := if k % 2 = 0 then at8 h (k / 2) / 16 else at8 h (k / 2) % 16

theorem dig_bd (h : List UInt8) (k : Nat) : 0 ≤ dig h k ∧ dig h k < 16 := by
  unfold dig
  have := at8_lo h (k / 2)
  have := at8_hi h (k / 2)
  split <;> omega

theorem and15 (x : Int) (h0 : 0 ≤ x) (h1 : x ≤ 255) : bits .and .u8 x 15 = x % 16 := by
  rw [u8_and x 15 h0 (by omega) (by decide) (by decide)]
  show ((x.toNat &&& 15 : Nat) : Int) = _
  rw [nat_mask4]
  omega

theorem isDg_digit {c : Int} (h : isDg c = true) : 48 ≤ c ∧ c ≤ 57 ∨ 97 ≤ c ∧ c ≤ 102 := by
  simpa [isDg] using h

theorem ret_int {k : IntKind} {a b : Int} (h : a = b) : Ending.returned (.int k a) = .returned (.int k b) := by rw [h]
theorem ret_bool {a b : Bool} (h : a = b) : Ending.returned (.bool a) = .returned (.bool b) := by rw [h]
end Go.Proofs.YtbpmpcmmdiaiiaaDoor.K

namespace Go.Proofs.YtbpmpcmmdiaiiaaDoor.K
open Go.RowKit
set_option linter.unusedVariables false
set_option linter.unusedSimpArgs false

/-- A slice of bytes that lies in memory. -/
def Byt (w : World) (a : Option Addr) (l : List UInt8) : Prop :=
  l = [] ∨ ∃ b off, a = some ⟨b, off, none⟩ ∧ ∀ j, j < l.length → w.cell? ⟨b, off + j, none⟩ = some (.int .u8 (at8 l j))
def byC (x : List UInt8) : List Value := x.map (fun b => Value.int .u8 (b.toNat : Int))
theorem byC_len (x : List UInt8) : (byC x).length = x.length := by simp [byC]
theorem byC_get (x : List UInt8) (j : Nat) (v : Value) (h : (byC x)[j]? = some v) : j < x.length ∧ v = .int .u8 (at8 x j) := by
  have hj : j < x.length := by have := (List.getElem?_eq_some_iff.1 h).1; simpa [byC] using this
  refine ⟨hj, ?_⟩
  simp [byC, List.getElem?_eq_getElem hj] at h
  simp [at8, List.getElem?_eq_getElem hj, h]
theorem byC_one (x : List UInt8) : ∀ v ∈ byC x, v.oneCell' = true := by
  intro v hv
  simp [byC] at hv
  obtain ⟨b, _, rfl⟩ := hv
  rfl
theorem hsz5 : (Tryd.prog.info? 5).map (·.size) = some 1 := by kernel_rfl
def lenOf : Value → Nat | .slice _ n _ => n | _ => 0
theorem byt_below {w w' : World} {a : Option Addr} {l : List UInt8} (h : Byt w a l) (hb : Below w.heap.size w w') : Byt w' a l := by
  rcases h with rfl | ⟨b, off, rfl, hc⟩
  · exact .inl rfl
  · exact .inr ⟨b, off, rfl, fun j hj => (hb.cell (p := ⟨b, off + j, none⟩) (block_lt_of_cell (hc j hj))).trans (hc j hj)⟩
theorem byt_lt {w : World} {a : Option Addr} {l : List UInt8} (h : Byt w a l) (hl : 0 < l.length) {b off : Nat} (e : a = some ⟨b, off, none⟩) : b < w.heap.size := by
  rcases h with rfl | ⟨b', off', rfl, hc⟩
  · simp at hl
  · cases e; exact block_lt_of_cell (hc 0 hl)

/-- A slice of the call's own that holds bytes. -/
def OwnB (w : World) (base : Nat) (v : Value) (L : List UInt8) : Prop := w.ownsRow base 5 1 v L.length (byC L)

theorem ownB_nil (w : World) (base : Nat) : OwnB w base (.slice none 0 0) [] := World.ownsRow_nil w base 5 1

theorem OwnB.open {w : World} {base : Nat} {v : Value} {L : List UInt8} (h : OwnB w base v L) :
    ∃ a cap, v = .slice a L.length cap ∧ L.length ≤ cap ∧ Byt w a L ∧ (∀ b off, a = some ⟨b, off, none⟩ → base ≤ b ∧ b < w.heap.size) := by
  rcases h.2 with ⟨rfl, hn⟩ | ⟨g, cap, cur, rfl, hbg, hg, hnc, hcm, hcs, htake⟩
  · obtain rfl : L = [] := List.eq_nil_of_length_eq_zero hn
    exact ⟨none, 0, rfl, Nat.le_refl _, .inl rfl, fun _ _ e => by cases e⟩
  · refine ⟨some ⟨g, 0, none⟩, cap, rfl, hnc, .inr ⟨g, 0, rfl, fun j hj => ?_⟩, fun b off e => by cases e; exact ⟨hbg, (Array.getElem?_eq_some_iff.1 hg).1⟩⟩
    rw [Nat.zero_add, cell_of_row w g j cur 5 (0, 0) hg]
    have e : (byC L)[j]? = some (.int .u8 (at8 L j)) := by simp [byC, at8, List.getElem?_eq_getElem hj]
    rw [← htake, List.getElem?_take] at e
    split at e
    · simpa using e
    · cases e
/-- .. that is not empty. -/
theorem OwnB.open1 {w : World} {base : Nat} {v : Value} {L : List UInt8} (h : OwnB w base v L) (h0 : 0 < L.length) :
    ∃ g cap, v = .slice (some ⟨g, 0, none⟩) L.length cap ∧ L.length ≤ cap ∧ (∀ j, j < L.length → w.cell? ⟨g, j, none⟩ = some (.int .u8 (at8 L j))) ∧ base ≤ g ∧ g < w.heap.size := by
  rcases h.2 with ⟨rfl, hn⟩ | ⟨g, cap, cur, rfl, hbg, hg, hnc, hcm, hcs, htake⟩
  · omega
  · refine ⟨g, cap, rfl, hnc, fun j hj => ?_, hbg, (Array.getElem?_eq_some_iff.1 hg).1⟩
    rw [cell_of_row w g j cur 5 (0, 0) hg]
    have e : (byC L)[j]? = some (.int .u8 (at8 L j)) := by simp [byC, at8, List.getElem?_eq_getElem hj]
    rw [← htake, List.getElem?_take] at e
    split at e
    · simpa using e
    · cases e
theorem OwnB.below {w w' : World} {base : Nat} {v : Value} {L : List UInt8} (h : OwnB w base v L) (hb : Below w.heap.size w w') : OwnB w' base v L := by
  refine ⟨h.1, ?_⟩
  rcases h.2 with hn | ⟨g, cap, cur, rfl, hbg, hg, rest⟩
  · exact .inl hn
  · exact .inr ⟨g, cap, cur, rfl, hbg, by rw [hb.block g (Array.getElem?_eq_some_iff.1 hg).1]; exact hg, rest⟩
theorem info5k : (Tryd.prog.info? 5).map (fun i => (i.zero, i.size, i.bytes)) = some (some (.int .u8 0), 1, 1) := by kernel_rfl
theorem info5' : ∃ i, Tryd.prog.info? 5 = some i ∧ i.zero = some (.int .u8 0) ∧ i.size = 1 ∧ i.bytes = 1 := by
  obtain ⟨i, h1, h2, h3, h4⟩ := info_parts info5k
  exact ⟨i, h1, h2, h3, h4⟩

theorem run_app (w : World) (base : Nat) (ty : TypeId) (v : Value) (L : List UInt8) (a : Option Addr) (M : List UInt8) (c : Nat) (hown : OwnB w base v L) (hb : Byt w a M)
    (h : L.length + M.length ≤ 140737488355328) (hbase : base ≤ w.heap.size) :
    ∃ v' w', (Builtin.append_ #[29, 29] ty #[v, .slice a M.length c]).run Tryd.prog w = .ok v' w' ∧ OwnB w' base v' (L ++ M) ∧ w.grownBy w' v.ownBlock := by
  obtain ⟨i, hi, hz, hs, hby⟩ := info5'
  cases a with
  | some ad =>
    have hnews : ∀ j u, (byC M)[j]? = some u → w.cell? (ad.add j) = some u := fun j u hj => by
      obtain ⟨h1, rfl⟩ := byC_get _ j u hj
      rcases hb with rfl | ⟨b, off, e, hc⟩
      · simp at h1
      · cases e
        rw [Addr.add_mid]
        exact hc j h1
    obtain ⟨v', w', hr, h2, h3, _⟩ := run_append_own (P := Tryd.prog) w base 29 ty 5 i (.int .u8 0) 1 1 Tryd.underlying29 hi hz hs hby rfl (by decide) v L.length (byC L) hown ad M.length c (byC M) (by rw [byC_len]; omega) hnews (byC_one _) (by unfold maxLen; omega) (by omega) hbase
    refine ⟨v', w', hr, ?_, h3⟩
    unfold OwnB
    rw [List.length_append, show byC (L ++ M) = byC L ++ byC M by simp [byC]]
    exact h2
  | none =>
    obtain rfl : M = [] := by
      rcases hb with rfl | ⟨b, off, e, _⟩
      · rfl
      · cases e
    rcases hown.2 with ⟨rfl, hn⟩ | ⟨g, cap, cur, rfl, hbg, hg, hnc, rest⟩
    · refine ⟨.slice none 0 0, w, ?_, by rw [List.append_nil]; exact hown, ⟨rfl, rfl, rfl, Nat.le_refl _, fun _ _ _ => rfl⟩⟩
      simp [Builtin.append_, run_underlying Tryd.underlying29, sizeOf, typeInfo, hi, Builtin.lenOf, Builtin.firstCells, loadCells, loadCellsFrom]
    · refine ⟨.slice (some ⟨g, 0, none⟩) L.length cap, w, ?_, by rw [List.append_nil]; exact hown, ⟨rfl, rfl, rfl, Nat.le_refl _, fun _ _ _ => rfl⟩⟩
      simp [Builtin.append_, run_underlying Tryd.underlying29, sizeOf, typeInfo, hi, Builtin.lenOf, Builtin.firstCells, hnc, storeCells]

theorem wpList_app {ops : Array Oper} {rest : List Oper} {o : Oper} {a : Act} {w : World} {Q : Exit → Act → World → Prop} (hgd : o.guard = none) (s x : Operand)
    (ho : o.op = .call { callee := .builtin .append, args := #[s, x], argTypes := #[29, 29] }) (base : Nat) (v : Value) (L : List UInt8) (hs : a.eval s = v) (hown : OwnB w base v L)
    (aa : Option Addr) (m c : Nat) (M : List UInt8) (hx : a.eval x = .slice aa m c) (hm : M.length = m) (hb : Byt w aa M) (hlen : L.length + M.length ≤ 140737488355328) (hbase : base ≤ w.heap.size)
    (h : ∀ v' w', OwnB w' base v' (L ++ M) → w.grownBy w' v.ownBlock → wpList Tryd.prog ops Q rest (a.put o.dst v') w') : wpList Tryd.prog ops Q (o :: rest) a w :=
  wpList_plain hgd fun _ hK => by
    subst hm
    obtain ⟨v', w', hr, h2, h3⟩ := run_app w base o.type v L aa M c hown hb hlen hbase
    unfold Oper.wp execOp
    simp only [ho, resolve, invoke, builtin, Sem.run_bind, Sem.run_pure, Result.andThen_ok, List.map_toArray, List.map_cons, List.map_nil, hs, hx, hr]
    exact hK _ _ (h v' w' h2 h3)
theorem byt_one (w : World) (b : UInt8) (t : TypeId) : Byt (w.alloc (.cells #[.int .u8 (b.toNat : Int)] t)) (some ⟨w.heap.size, 0, none⟩) [b] :=
  .inr ⟨w.heap.size, 0, rfl, fun j hj => by
    obtain rfl : j = 0 := by simp at hj; omega
    rw [cell_of_row _ w.heap.size 0 _ _ _ (heap_alloc_new _ _)]
    rfl⟩

/-- append onto an owned row, as one step of a region that draws. -/
theorem step_app {ops : Array Oper} {o : Oper} {a : Act} {w : World} {K : Act → World → Prop} {Q : Exit → Act → World → Prop} {E : Prop} (hgd : o.guard = none) (s x : Operand)
    (ho : o.op = .call { callee := .builtin .append, args := #[s, x], argTypes := #[29, 29] }) (base : Nat) (v : Value) (L : List UInt8) (hs : a.eval s = v) (hown : OwnB w base v L)
    (aa : Option Addr) (m c : Nat) (M : List UInt8) (hx : a.eval x = .slice aa m c) (hm : M.length = m) (hb : Byt w aa M) (hlen : L.length + M.length ≤ 140737488355328) (hbase : base ≤ w.heap.size)
    (h : ∀ v' w', OwnB w' base v' (L ++ M) → w.grownBy w' v.ownBlock → K (a.put o.dst v') w') : if Region.wanted o (yielded ops a.tmps) = true then Oper.wp Tryd.prog o a w K Q else E := by
  have hw : Region.wanted o (yielded ops a.tmps) = true := by simp [Region.wanted, hgd]
  rw [if_pos hw]
  subst hm
  obtain ⟨v', w', hr, h2, h3⟩ := run_app w base o.type v L aa M c hown hb hlen hbase
  unfold Oper.wp execOp
  simp only [ho, resolve, invoke, builtin, Sem.run_bind, Sem.run_pure, Result.andThen_ok, List.map_toArray, List.map_cons, List.map_nil, hs, hx, hr]
  exact h v' w' h2 h3


/-- A digit. -/
def hx (d : Int) : UInt8 := if d < 10 then UInt8.ofNat (48 + d.toNat) else UInt8.ofNat (87 + d.toNat)
theorem index_digits (d : Int) (k : IntKind) (w : World) (h0 : 0 ≤ d) (h1 : d < 16) :
    (Instr.index 9 (.string { data := #[48, 49, 50, 51, 52, 53, 54, 55, 56, 57, 97, 98, 99, 100, 101, 102] }) (.int k d)).run Tryd.prog w = .ok (.int .u8 ((hx d).toNat : Int)) w := by
  rw [run_index_string _ _ _ _ _ Tryd.underlying9]
  have : d = 0 ∨ d = 1 ∨ d = 2 ∨ d = 3 ∨ d = 4 ∨ d = 5 ∨ d = 6 ∨ d = 7 ∨ d = 8 ∨ d = 9 ∨ d = 10 ∨ d = 11 ∨ d = 12 ∨ d = 13 ∨ d = 14 ∨ d = 15 := by omega
  rcases this with h | h | h | h | h | h | h | h | h | h | h | h | h | h | h | h <;> subst h <;> rfl
theorem byt_lit2 (w : World) (l : List UInt8) (t : TypeId) : Byt (w.alloc (.cells (bs l) t)) (some ⟨w.heap.size, 0, none⟩) l :=
  .inr ⟨w.heap.size, 0, rfl, fun j hj => by rw [Nat.zero_add]; exact (cell_of_row _ w.heap.size j _ _ _ (heap_alloc_new _ _)).trans (bs_get _ j hj)⟩
theorem below_own {w w1 w2 : World} {base : Nat} {v : Value} {L : List UInt8} (hb : Below base w w1) (ho : OwnB w1 base v L) (gr : w1.grownBy w2 v.ownBlock) (hz : base ≤ w1.heap.size) : Below base w w2 :=
  hb.grown gr hz (fun k hk => (World.ownsRow.lt ho k hk).1)
end Go.Proofs.YtbpmpcmmdiaiiaaDoor.K

