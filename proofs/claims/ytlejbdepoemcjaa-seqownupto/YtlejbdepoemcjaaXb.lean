import Derived.Test.YtlejbdepoemcjaaXa
namespace Go.Proofs.Ytlejbdepoemcjaa
open Go.RowKit Sq
set_option linter.unusedVariables false
set_option linter.unusedSimpArgs false

theorem tget {n : Nat} {t : Array Value} {d : Nat} {v : Value} (hs : t.size = n) (hd : d < n) (h : t.getD d undef = v) : t[d]? = some v := by
  have hl : d < t.size := by omega
  rw [Array.getD_eq_getD_getElem?, Array.getElem?_eq_getElem hl] at h
  rw [Array.getElem?_eq_getElem hl]
  simpa using h
theorem hidMk {p : Prop} (h : p) : Hid p := h
/-- Nothing but draws. -/
structure Qt (w w' : World) : Prop where
  os : w'.os = w.os
  tape : w'.tape = w.tape
  output : w'.output = w.output
  heap : w'.heap = w.heap
theorem Qt.refl (w : World) : Qt w w := ⟨rfl, rfl, rfl, rfl⟩
theorem Qt.trans {a b c : World} (h : Qt a b) (k : Qt b c) : Qt a c := ⟨k.os.trans h.os, k.tape.trans h.tape, k.output.trans h.output, k.heap.trans h.heap⟩
theorem Qt.drew (w : World) : Qt w w.drew := ⟨rfl, rfl, rfl, rfl⟩
theorem Qt.tch {w w' : World} (h : Qt w w') (O : Nat → Prop) : Tch O w w' := ⟨h.os, h.tape, h.output, by rw [h.heap]; exact Nat.le_refl _, fun k _ _ => by rw [h.heap]⟩
theorem Qt.size {w w' : World} (h : Qt w w') : w'.heap.size = w.heap.size := by rw [h.heap]
theorem Qt.below {w w' : World} (h : Qt w w') (B : Nat) : Below B w w' := ⟨h.os, h.tape, h.output, by rw [h.heap]; exact Nat.le_refl _, fun k _ => by rw [h.heap]⟩
theorem SqAt.qt {w w' : World} {rb ro g cap : Nat} {L : List Sp} (h : SqAt w rb ro g cap L) (q : Qt w w') : SqAt w' rb ro g cap L := h.keep (by rw [q.heap]) (by rw [q.heap])
theorem wrap64 {z : Int} (h1 : -9223372036854775808 ≤ z) (h2 : z ≤ 9223372036854775807) : IntKind.i64.wrap z = z := by
  simp only [IntKind.wrap, IntKind.bits, IntKind.signed]
  simp
  omega
section
variable {w : World} {a : Act} {o : Oper} {x y : Operand} {p q : Int}
theorem ex_add (ho : o.op = .binOp .add 3 x y 3) (hx : a.eval x = .int .i64 p) (hy : a.eval y = .int .i64 q) (h : -9223372036854775808 ≤ p + q ∧ p + q ≤ 9223372036854775807) : (execOp a.eval o).run Try.prog w = .ok (.value (.int .i64 (p + q))) w := by
  obtain ⟨h1, h2⟩ := h
  unfold execOp
  rw [ho]
  simp only [hx, hy]
  go_simp
  rw [wrap64 h1 h2]
theorem ex_sub (ho : o.op = .binOp .sub 3 x y 3) (hx : a.eval x = .int .i64 p) (hy : a.eval y = .int .i64 q) (h : -9223372036854775808 ≤ p - q ∧ p - q ≤ 9223372036854775807) : (execOp a.eval o).run Try.prog w = .ok (.value (.int .i64 (p - q))) w := by
  obtain ⟨h1, h2⟩ := h
  unfold execOp
  rw [ho]
  simp only [hx, hy]
  go_simp
  rw [wrap64 h1 h2]
theorem ex_mul (ho : o.op = .binOp .mul 3 x y 3) (hx : a.eval x = .int .i64 p) (hy : a.eval y = .int .i64 q) (h : -9223372036854775808 ≤ p * q ∧ p * q ≤ 9223372036854775807) : (execOp a.eval o).run Try.prog w = .ok (.value (.int .i64 (p * q))) w := by
  obtain ⟨h1, h2⟩ := h
  unfold execOp
  rw [ho]
  simp only [hx, hy]
  go_simp
  rw [wrap64 h1 h2]
theorem ex_addN {p q : Nat} (ho : o.op = .binOp .add 3 x y 3) (hx : a.eval x = .int .i64 (p : Int)) (hy : a.eval y = .int .i64 (q : Int)) (h : p + q ≤ 9223372036854775807) : (execOp a.eval o).run Try.prog w = .ok (.value (.int .i64 ((p + q : Nat) : Int))) w := by
  rw [Int.natCast_add]
  exact ex_add ho hx hy (by omega)
theorem ex_mulN {p q : Nat} (ho : o.op = .binOp .mul 3 x y 3) (hx : a.eval x = .int .i64 (p : Int)) (hy : a.eval y = .int .i64 (q : Int)) (h : p * q ≤ 9223372036854775807) : (execOp a.eval o).run Try.prog w = .ok (.value (.int .i64 ((p * q : Nat) : Int))) w := by
  have e : ((p * q : Nat) : Int) = (p : Int) * (q : Int) := Int.natCast_mul p q
  rw [e]
  refine ex_mul ho hx hy ?_
  rw [← e]
  omega
theorem ex_eql {r : Bool} (ho : o.op = .binOp .eql 3 x y 3) (hx : a.eval x = .int .i64 p) (hy : a.eval y = .int .i64 q) (h : decide (p = q) = r) : (execOp a.eval o).run Try.prog w = .ok (.value (.bool r)) w := by
  subst h
  unfold execOp
  rw [ho]
  simp only [hx, hy]
  go_simp
  rfl
theorem ex_neq {r : Bool} (ho : o.op = .binOp .neq 3 x y 3) (hx : a.eval x = .int .i64 p) (hy : a.eval y = .int .i64 q) (h : decide (p ≠ q) = r) : (execOp a.eval o).run Try.prog w = .ok (.value (.bool r)) w := by
  subst h
  unfold execOp
  rw [ho]
  simp only [hx, hy]
  go_simp
  rfl
theorem ex_lss {r : Bool} (ho : o.op = .binOp .lss 3 x y 3) (hx : a.eval x = .int .i64 p) (hy : a.eval y = .int .i64 q) (h : decide (p < q) = r) : (execOp a.eval o).run Try.prog w = .ok (.value (.bool r)) w := by
  subst h
  unfold execOp
  rw [ho]
  simp only [hx, hy]
  go_simp
theorem ex_leq {r : Bool} (ho : o.op = .binOp .leq 3 x y 3) (hx : a.eval x = .int .i64 p) (hy : a.eval y = .int .i64 q) (h : decide (p ≤ q) = r) : (execOp a.eval o).run Try.prog w = .ok (.value (.bool r)) w := by
  subst h
  unfold execOp
  rw [ho]
  simp only [hx, hy]
  go_simp
theorem ex_geq {r : Bool} (ho : o.op = .binOp .geq 3 x y 3) (hx : a.eval x = .int .i64 p) (hy : a.eval y = .int .i64 q) (h : decide (p ≥ q) = r) : (execOp a.eval o).run Try.prog w = .ok (.value (.bool r)) w := by
  subst h
  unfold execOp
  rw [ho]
  simp only [hx, hy]
  go_simp
theorem ex_gtr {r : Bool} (ho : o.op = .binOp .gtr 3 x y 3) (hx : a.eval x = .int .i64 p) (hy : a.eval y = .int .i64 q) (h : decide (p > q) = r) : (execOp a.eval o).run Try.prog w = .ok (.value (.bool r)) w := by
  subst h
  unfold execOp
  rw [ho]
  simp only [hx, hy]
  go_simp
end
end Go.Proofs.Ytlejbdepoemcjaa
