import Derived.Test.YtefoipjbbfcjhaaDoorDn
import Derived.Test.YtefoipjbbfcjhaaDoorDt
import Derived.Laws.Cover4
namespace Go.Proofs.YtefoipjbbfcjhaaDoor
open Go.RowKit
set_option linter.unusedVariables false
set_option linter.unusedSimpArgs false

/-- Stretches rise. -/
def Asc (la lb : Nat) : List (Nat × Nat × Nat) → Nat → Nat → Prop
  | [], _, _ => True
  | s :: K, i0, j0 => i0 ≤ s.1 ∧ j0 ≤ s.2.1 ∧ s.1 + s.2.2 ≤ la ∧ s.2.1 + s.2.2 ≤ lb ∧ Asc la lb K (s.1 + s.2.2) (s.2.1 + s.2.2)
theorem kV_at {l : List (Nat × Nat × Nat)} {x : Nat} (hx : x < l.length) : (kV l)[x * 3]? = some (.int .i64 (l[x].1 : Int)) ∧ (kV l)[x * 3 + 1]? = some (.int .i64 (l[x].2.1 : Int)) ∧ (kV l)[x * 3 + 2]? = some (.int .i64 (l[x].2.2 : Int)) := by
  induction l generalizing x with
  | nil => simp at hx
  | cons s l ih =>
    have e : kV (s :: l) = [.int .i64 (s.1 : Int), .int .i64 (s.2.1 : Int), .int .i64 (s.2.2 : Int)] ++ kV l := by simp [kV]
    cases x with
    | zero => simp [e]
    | succ x =>
      have := ih (x := x) (by simpa using hx)
      have e0 : (x + 1) * 3 = x * 3 + 3 := by omega
      rw [e, e0]
      simpa using this
/-- A piece of a slice. -/
def cvOf (aB : Option Addr) (cB j k : Nat) : Value := .slice (if cB = j then aB else aB.map (·.add (j * 1))) (k - j) (cB - j)
/-- The characters from j up to k, as a text. -/
theorem conv_part (B : List Nat) (aB : Option Addr) (cB j k : Nat) (w : World) (hB : Rd w aB (rV B)) (hjk : j ≤ k) (hk : k ≤ B.length) (hc : B.length ≤ cB) (h0 : aB = none → cB = 0) :
    (Instr.sliceAt 37 (.slice aB B.length cB) (some (.int .i64 (j : Int))) (some (.int .i64 (k : Int))) none).run Tryd.prog w = .ok (cvOf aB cB j k) w ∧ (convert 37 9 (cvOf aB cB j k)).run Tryd.prog w = .ok (.string (txt (part B j k))) w := by
  have hsl : (Instr.sliceAt 37 (.slice aB B.length cB) (some (.int .i64 (j : Int))) (some (.int .i64 (k : Int))) none).run Tryd.prog w = .ok (.slice (if cB = j then aB else aB.map (·.add (j * 1))) (k - j) (cB - j)) w := by
    rw [run_sliceAt_slice w 37 _ _ _ _ Tryd.underlying37, run_slice_lh w 37 aB B.length cB Tryd.underlying37 .i64 .i64 (j : Int) (k : Int) (by omega) (by omega) (by omega)]
    have hsz : (sizeOf (Tryd.prog.elem 37)).run Tryd.prog w = .ok 1 w := by kernel_rfl
    rw [hsz]
    simp [sliced]
  refine ⟨hsl, ?_⟩
  unfold cvOf
  have hpl := part_len hjk hk
  cases aB with
  | none =>
    have h00 := h0 rfl
    have e1 : (if cB = j then (none : Option Addr) else (none : Option Addr).map (·.add (j * 1))) = none := by split <;> rfl
    rw [e1, run_convert_runes_nil w 37 9 21 _ _ Tryd.underlying37 (by kernel_rfl) Tryd.underlying9]
    have : part B j k = [] := List.eq_nil_of_length_eq_zero (by omega)
    rw [this, txt_nil]
  | some a =>
    have e1 : (if cB = j then some a else (some a).map (·.add (j * 1))) = some (if cB = j then a else a.add (j * 1)) := by split <;> rfl
    rw [e1, run_convert_runes w 37 9 21 _ (k - j) _ ((part B j k).map fun n : Nat => (n : Int)) (by simp [hpl]) Tryd.underlying37 (by kernel_rfl) Tryd.underlying9 ?_]
    · unfold txt
      rw [List.take_of_length_le (by simp [hpl])]
    · intro x hx
      have hx' : x < k - j := by simpa [hpl] using hx
      obtain ⟨g, e, hc2⟩ := hB (j + x) (.int .i32 ((B.getD (j + x) 0 : Nat) : Int)) (by simp [rV, List.getD, show j + x < B.length by omega])
      cases e
      rw [if_neg (by omega), Addr.add_mid, Addr.add_mid]
      have e3 : (0 + j * 1 + x) = j + x := by omega
      rw [e3, hc2]
      have e4 : ((part B j k).map fun n : Nat => (n : Int)).getD x 0 = ((B.getD (j + x) 0 : Nat) : Int) := by
        simp [part, List.getD, List.getElem?_take, hx', show j + x < B.length by omega]
      rw [e4]
end Go.Proofs.YtefoipjbbfcjhaaDoor
