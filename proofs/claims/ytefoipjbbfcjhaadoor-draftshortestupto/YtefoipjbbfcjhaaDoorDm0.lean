import Derived.Test.YtefoipjbbfcjhaaDoorDi
import Derived.Test.YtefoipjbbfcjhaaDoorDj
namespace Go.Proofs.YtefoipjbbfcjhaaDoor
open Go.RowKit
set_option linter.unusedVariables false
set_option linter.unusedSimpArgs false

/-- How long the common front is, from i on. -/
def frF (la lb : Nat) (a b : Nat → Nat) : Nat → Nat → Nat
  | 0, i => i
  | f + 1, i => if i < la ∧ i < lb ∧ a i = b i then frF la lb a b f (i + 1) else i
/-- How long the common end of what is left is, from e on. -/
def enF (la lb fr : Nat) (a b : Nat → Nat) : Nat → Nat → Nat
  | 0, e => e
  | f + 1, e => if e < la - fr ∧ e < lb - fr ∧ a (la - 1 - e) = b (lb - 1 - e) then enF la lb fr a b f (e + 1) else e
theorem frF_go {la lb : Nat} {a b : Nat → Nat} {i : Nat} (h1 : i < la) (h2 : i < lb) (h3 : a i = b i) : frF la lb a b (la - i) i = frF la lb a b (la - (i + 1)) (i + 1) := by
  obtain ⟨f, hf⟩ : ∃ f, la - i = f + 1 := ⟨la - i - 1, by omega⟩
  have e : la - (i + 1) = f := by omega
  rw [hf, e, frF, if_pos ⟨h1, h2, h3⟩]
theorem frF_end {la lb : Nat} {a b : Nat → Nat} {i : Nat} (h : ¬ (i < la ∧ i < lb ∧ a i = b i)) : frF la lb a b (la - i) i = i := by
  cases hf : la - i with
  | zero => rfl
  | succ f => rw [frF, if_neg h]
theorem frF_le {la lb : Nat} {a b : Nat → Nat} : ∀ (f i : Nat), i ≤ la → i ≤ lb → frF la lb a b f i ≤ la ∧ frF la lb a b f i ≤ lb
  | 0, i, h1, h2 => ⟨h1, h2⟩
  | f + 1, i, h1, h2 => by
    rw [frF]
    split
    · rename_i h
      exact frF_le f (i + 1) (by omega) (by omega)
    · exact ⟨h1, h2⟩
theorem enF_go {la lb fr : Nat} {a b : Nat → Nat} {i : Nat} (h1 : i < la - fr) (h2 : i < lb - fr) (h3 : a (la - 1 - i) = b (lb - 1 - i)) : enF la lb fr a b (la - i) i = enF la lb fr a b (la - (i + 1)) (i + 1) := by
  obtain ⟨f, hf⟩ : ∃ f, la - i = f + 1 := ⟨la - i - 1, by omega⟩
  have e : la - (i + 1) = f := by omega
  rw [hf, e, enF, if_pos ⟨h1, h2, h3⟩]
theorem enF_end {la lb fr : Nat} {a b : Nat → Nat} {i : Nat} (h : ¬ (i < la - fr ∧ i < lb - fr ∧ a (la - 1 - i) = b (lb - 1 - i))) : enF la lb fr a b (la - i) i = i := by
  cases hf : la - i with
  | zero => rfl
  | succ f => rw [enF, if_neg h]
theorem enF_le {la lb fr : Nat} {a b : Nat → Nat} : ∀ (f e : Nat), e ≤ la - fr → e ≤ lb - fr → enF la lb fr a b f e ≤ la - fr ∧ enF la lb fr a b f e ≤ lb - fr
  | 0, i, h1, h2 => ⟨h1, h2⟩
  | f + 1, i, h1, h2 => by
    rw [enF]
    split
    · rename_i h
      exact enF_le f (i + 1) (by omega) (by omega)
    · exact ⟨h1, h2⟩
/-- What rough makes. -/
def roL (la lb FR EN : Nat) (TX : Nat → ByteArray) : List Pat := if la - FR - EN = 0 ∧ TX (lb - EN) = ⟨#[]⟩ then [] else [⟨FR, la - FR - EN, TX (lb - EN)⟩]
theorem wpList_lit1 {ops : Array Oper} {rest : List Oper} {o1 : Oper} {a : Act} {w : World} {Q : Exit → Act → World → Prop} {t e : TypeId} {size bytes : Nat} {z : Value} (E : EI t e size bytes z)
    (x : Operand) (dst : Option Tmp) (ho1 : o1.op = .buildSlice t 1 #[(0, x)]) (hg1 : o1.guard = none) (u : Value) (hx : a.eval x = u) (hu : u.cells.size = size)
    (h : wpList Tryd.prog ops Q rest (a.put o1.dst (.slice (some ⟨w.heap.size, 0, none⟩) 1 1)) (w.alloc (.cells u.cells e))) : wpList Tryd.prog ops Q (o1 :: rest) a w := by
  obtain ⟨i, hi, hz, hsz, hby⟩ := E.ex
  subst hsz hby
  have hpos := E.pos
  have hsm := E.small
  refine wpList_buildSlice hg1 t e 1 #[(0, x)] ho1 u.cells i z E.ht hi hz (by omega) (by omega) ?_ h
  have := Go.Great.fill_whole (s := i.size) E.pos [u] ((Array.range (1 * i.size)).map (z.cells[· % z.cells.size]!)) (by intro v hv; simp at hv; subst hv; exact hu) (by simp)
  simp only [List.map_toArray, List.map_cons, List.map_nil, hx]
  simpa using this
theorem pat_get (a c : Nat) (s : ByteArray) (i : Nat) (hi : i < 7) : (patC a c s)[i]? = some ((patC a c s).getD i undef) := by
  rw [Array.getD_eq_getD_getElem?]
  have : i < (patC a c s).size := hi
  rw [Array.getElem?_eq_getElem this]
  rfl
theorem row_pat (W : World) (a c : Nat) (s : ByteArray) (h : s = ⟨#[]⟩) : (W.alloc (.cells #[.int .u8 4, .slice none 0 0, .slice none 0 0, .int .i64 (a : Int), .int .i64 (c : Int), .string ⟨#[]⟩, .slice none 0 0] 34)).rowIs W.heap.size 34 7 (fun j => (patC a c s).getD j undef) := by
  subst h
  exact World.rowIs_alloc W (patC a c ⟨#[]⟩) 34 _ (fun i hi => pat_get a c _ i hi)
theorem row_pat5 {wr : World} {q a c : Nat} {s s' s'' : ByteArray} (h : wr.rowIs q 34 7 (fun j => (patC a c s).getD j undef)) (n : Nat) (e : s'' = s') : ((wr.drewN n).setCell ⟨q, 5, none⟩ (.string s')).rowIs q 34 7 (fun j => (patC a c s'').getD j undef) := by
  subst e
  have h2 : (wr.drewN n).rowIs q 34 7 (fun j => (patC a c s).getD j undef) := h
  refine (h2.set 5 _).congr fun i hi => ?_
  match i, hi with
  | 0, _ => rfl
  | 1, _ => rfl
  | 2, _ => rfl
  | 3, _ => rfl
  | 4, _ => rfl
  | 5, _ => rfl
  | 6, _ => rfl
end Go.Proofs.YtefoipjbbfcjhaaDoor
