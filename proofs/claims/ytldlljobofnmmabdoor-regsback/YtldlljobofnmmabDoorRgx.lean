import Derived.Test.YtldlljobofnmmabDoorRga
import Derived.Test.YtldlljobofnmmabDoorZr
namespace Go.Proofs.YtldlljobofnmmabDoor
open Go.RowKit
set_option linter.unusedVariables false
set_option linter.unusedSimpArgs false

theorem hidMk {p : Prop} (h : p) : Hid p := h
section
variable {P : Program} {w w2 : World} {a : Act} {o : Oper} {F : Nat} {ts : Array TypeId} {caps : Array Value}
theorem exec_box {t : TypeId} {x : Operand} {v : Value} (ho : o.op = .box t x) (hx : a.eval x = v) : (execOp a.eval o).run P w = .ok (.value (.pointer (some ⟨w.heap.size, 0, none⟩))) (w.alloc (.cells v.cells t)) := by
  unfold execOp; simp only [ho, hx, Instr.box, newVar, newRow, newObj, Sem.run_bind, Sem.run_pure, Result.andThen_ok]
  rfl
theorem exec_mkf2 {x1 x2 : Operand} {v1 v2 : Value} (ho : o.op = .makeFunc (.func F) #[] #[x1, x2]) (h1 : a.eval x1 = v1) (h2 : a.eval x2 = v2) : (execOp a.eval o).run P w = .ok (.value (.func (.func F) #[] #[v1, v2])) w := by
  unfold execOp; simp [ho, h1, h2, Result.andThen, Instr.makeFunc]
theorem exec_mkf1 {x1 : Operand} {v1 : Value} (ho : o.op = .makeFunc (.func F) #[] #[x1]) (h1 : a.eval x1 = v1) : (execOp a.eval o).run P w = .ok (.value (.func (.func F) #[] #[v1])) w := by
  unfold execOp; simp [ho, h1, Result.andThen, Instr.makeFunc]
theorem exec_bs0 {t : TypeId} {v : Value} (ho : o.op = .buildSlice t 0 #[]) (hl : (Instr.buildSlice t 0 #[]).run P w = .ok v w2) : (execOp a.eval o).run P w = .ok (.value v) w2 := by
  unfold execOp; simp only [ho, List.map_toArray, List.map_nil, Sem.run_bind, hl, Result.andThen_ok, Sem.run_pure]
/-- A call of a function value. -/
theorem exec_cv1 {x0 x1 : Operand} {v1 : Value} (ho : o.op = .call { callee := .value x0, args := #[x1], argTypes := ts }) (h0 : a.eval x0 = .func (.func F) #[] caps) (h1 : a.eval x1 = v1) (hf : ∀ vs (W : World), (callFunc F vs).run P W = .ok (.enter F vs) W) : (execOp a.eval o).run P w = .ok (.enter F (#[v1] ++ caps)) w := by
  unfold execOp; simp [ho, resolve, invoke, h1, h0, Deferred.ofValue, Result.andThen, hf]
end
/-- A function value that tells of Ids, whatever is asked in whatever world behind w. -/
structure Tells (w : World) (F : Nat) (caps : Array Value) (sn : IdK → Bool) : Prop where
  en : ∀ vs (W : World), (callFunc F vs).run Tryd.prog W = .ok (.enter F vs) W
  an : ∀ W, Below w.heap.size w W → ∀ k : IdK, k.ok → Calls Tryd.prog F (#[k.v] ++ caps) W fun e W' => e = .returned (.bool (sn k)) ∧ Below W.heap.size W W'
theorem Tells.below {w w' : World} {F : Nat} {caps : Array Value} {sn : IdK → Bool} (h : Tells w F caps sn) (b : Below w.heap.size w w') : Tells w' F caps sn := ⟨h.en, fun W bW => h.an W (b.trans (bW.mono b.size))⟩
section
variable {w : World} {b o : Nat} {x : EnV}
theorem ld_en (hx : x.ok) (h : w.rangeAt b o x.c) : (Instr.loadAt 65 (.pointer (some ⟨b, o, none⟩))).run Tryd.prog w = .ok x.a w := RowT.ld RN_is hx h
theorem rng_id (hx : x.ok) (h : w.rangeAt b o x.c) : w.rangeAt b o x.id.c := fun j v hv => h j v (by rw [EnV.c, List.getElem?_append_left (List.getElem?_eq_some_iff.1 hv).1]; exact hv)
theorem rng_va (hx : x.ok) (h : w.rangeAt b o x.c) : w.rangeAt b (o + 33) x.v.c := fun j v hv => by
  rw [Nat.add_assoc]
  exact h (33 + j) v (by rw [EnV.c, List.getElem?_append_right (by rw [IdK.len hx.i]; omega), IdK.len hx.i, show 33 + j - 33 = j by omega]; exact hv)
theorem en_id (hx : x.ok) (h : w.rangeAt b o x.c) : (Instr.loadAt 32 (.pointer (some ⟨b, o + 0, none⟩))).run Tryd.prog w = .ok x.id.v w :=
  run_loadAt_mid (P := Tryd.prog) w b o 32 x.id.c _ (rng_id hx h) Tryd.underlying32 rfl (by rw [IdK.len hx.i]; exact szId)
theorem szVa : (Tryd.prog.info? 39).map (·.size) = some 4 := by kernel_rfl
theorem ld_va {x : VaV} (h : w.rangeAt b o x.c) : (Instr.loadAt 39 (.pointer (some ⟨b, o, none⟩))).run Tryd.prog w = .ok x.v w :=
  run_loadAt_mid (P := Tryd.prog) w b o 39 x.c _ h Tryd.underlying39 rfl (by rw [VaV.len]; exact szVa)
theorem en_va (hx : x.ok) (h : w.rangeAt b o x.c) : (Instr.loadAt 39 (.pointer (some ⟨b, o + 33, none⟩))).run Tryd.prog w = .ok x.v.v w := ld_va (rng_va hx h)
variable {t : Nat × EnV}
theorem ld_sd (hx : RD.ok t) (h : w.rangeAt b o (sdC t)) : (Instr.loadAt 100 (.pointer (some ⟨b, o, none⟩))).run Tryd.prog w = .ok (.agg (sdC t).toArray) w := RowT.ld RD_is hx h
theorem rng_sd (h : w.rangeAt b o (sdC t)) : w.rangeAt b (o + 1) t.2.c := fun j v hv => by rw [Nat.add_assoc, Nat.add_comm 1 j]; exact h (j + 1) v (by rw [sdC, List.getElem?_cons_succ]; exact hv)
theorem sd_at (h : w.rangeAt b o (sdC t)) : (Instr.loadAt 3 (.pointer (some ⟨b, o + 0, none⟩))).run Tryd.prog w = .ok (.int .i64 (t.1 : Int)) w := by
  have hc : w.cell? ⟨b, o, none⟩ = some (.int .i64 (t.1 : Int)) := h 0 _ rfl
  go_simp
theorem sd_en (hx : RD.ok t) (h : w.rangeAt b o (sdC t)) : (Instr.loadAt 65 (.pointer (some ⟨b, o + 1, none⟩))).run Tryd.prog w = .ok t.2.a w := ld_en hx.1 (rng_sd h)
theorem sd_va (hx : RD.ok t) (h : w.rangeAt b o (sdC t)) : (Instr.loadAt 39 (.pointer (some ⟨b, o + 1 + 33, none⟩))).run Tryd.prog w = .ok t.2.v.v w := en_va hx.1 (rng_sd h)
theorem szPl : (Tryd.prog.info? 34).map (·.size) = some 67 := by kernel_rfl
theorem ld_pl {x : PlK} (hx : x.ok) (h : w.rangeAt b o x.c) : (Instr.loadAt 34 (.pointer (some ⟨b, o, none⟩))).run Tryd.prog w = .ok x.v w :=
  run_loadAt_mid (P := Tryd.prog) w b o 34 x.c _ h Tryd.underlying34 rfl (by rw [PlK.len hx]; exact szPl)
theorem pl_o {x : PlK} (hx : x.ok) (h : w.rangeAt b o x.c) : (Instr.loadAt 32 (.pointer (some ⟨b, o + 0, none⟩))).run Tryd.prog w = .ok x.o.v w :=
  run_loadAt_mid (P := Tryd.prog) w b o 32 x.o.c _ (fun j v hv => h j v (by rw [PlK.c, List.getElem?_append_left (List.getElem?_eq_some_iff.1 hv).1]; exact hv)) Tryd.underlying32 rfl (by rw [IdK.len hx.o]; exact szId)
theorem pl_k {x : PlK} (hx : x.ok) (h : w.rangeAt b o x.c) : (Instr.loadAt 9 (.pointer (some ⟨b, o + 33, none⟩))).run Tryd.prog w = .ok (.string x.k) w := by
  have hc : w.cell? ⟨b, o + 33, none⟩ = some (.string x.k) := h 33 _ (by rw [PlK.c, List.getElem?_append_right (by rw [IdK.len hx.o]; omega), IdK.len hx.o]; rfl)
  go_simp
theorem pl_a {x : PlK} (hx : x.ok) (h : w.rangeAt b o x.c) : (Instr.loadAt 32 (.pointer (some ⟨b, o + 34, none⟩))).run Tryd.prog w = .ok x.a.v w :=
  run_loadAt_mid (P := Tryd.prog) w b (o + 34) 32 x.a.c _ (fun j v hv => by
    rw [Nat.add_assoc]
    exact h (34 + j) v (by rw [PlK.c, List.getElem?_append_right (by rw [IdK.len hx.o]; omega), IdK.len hx.o, show 34 + j - 33 = j + 1 by omega, List.getElem?_cons_succ]; exact hv)) Tryd.underlying32 rfl (by rw [IdK.len hx.a]; exact szId)
end
theorem ix_en {b o m c i : Nat} (hi : i < m) (hm : m ≤ 9223372036854775807) (W : World) : (Instr.indexAt 44 (.slice (some ⟨b, o, none⟩) m c) (.int .i64 (i : Int))).run Tryd.prog W = .ok (.pointer (some ⟨b, o + 37 * i, none⟩)) W := by
  have := Nat.mul_comm 37 i
  go_simp
theorem ix_sd {b o m c i : Nat} (hi : i < m) (hm : m ≤ 9223372036854775807) (W : World) : (Instr.indexAt 83 (.slice (some ⟨b, o, none⟩) m c) (.int .i64 (i : Int))).run Tryd.prog W = .ok (.pointer (some ⟨b, o + 38 * i, none⟩)) W := by
  have := Nat.mul_comm 38 i
  go_simp
theorem len_en (a : Option Addr) (n c : Nat) (W : World) (ty : TypeId) : (Builtin.len_ #[44] ty #[.slice a n c]).run Tryd.prog W = .ok (.int .i64 (n : Int)) W := by go_simp
theorem len_sd (a : Option Addr) (n c : Nat) (W : World) (ty : TypeId) : (Builtin.len_ #[83] ty #[.slice a n c]).run Tryd.prog W = .ok (.int .i64 (n : Int)) W := by go_simp
end Go.Proofs.YtldlljobofnmmabDoor
