import Derived.Test.YthlcmijekgjgjaaDoorRb
import Derived.Deep.RegionHeld3
namespace Go.Proofs.YthlcmijekgjgjaaDoor
open Go.RowKit
set_option linter.unusedVariables false
set_option linter.unusedSimpArgs false

section
variable {P : Program} {w w2 : World} {a : Act} {o : Oper}
theorem exec_move {x : Operand} {v : Value} (ho : o.op = .move x) (hp : a.eval x = v) : (execOp a.eval o).run P w = .ok (.value v) w := by
  unfold execOp; simp only [ho, hp, Sem.run_pure]
theorem exec_assign {x : Operand} {v : Value} (ho : o.op = .assign x) (hp : a.eval x = v) : (execOp a.eval o).run P w = .ok (.value v) w := by
  unfold execOp; simp only [ho, hp, Sem.run_pure]
theorem exec_nilCheck {x : Operand} {p : Addr} (ho : o.op = .nilCheck x) (hp : a.eval x = .pointer (some p)) : (execOp a.eval o).run P w = .ok (.value (.pointer (some p))) w := by
  unfold execOp; simp only [ho, hp, Sem.run_pure]
theorem exec_fieldAt {s i : Nat} {x : Operand} {u v : Value} (ho : o.op = .fieldAddr s x i) (hp : a.eval x = u) (hl : (Instr.fieldAt s u i).run P w = .ok v w) : (execOp a.eval o).run P w = .ok (.value v) w := by
  unfold execOp; simp only [ho, hp, Sem.run_bind, hl, Result.andThen_ok, Sem.run_pure]
theorem exec_load {t : TypeId} {x : Operand} {u v : Value} (ho : o.op = .load t x) (hp : a.eval x = u) (hl : (Instr.loadAt t u).run P w = .ok v w) : (execOp a.eval o).run P w = .ok (.value v) w := by
  unfold execOp; simp only [ho, hp, Sem.run_bind, hl, Result.andThen_ok, Sem.run_pure]
theorem exec_lookup {t : TypeId} {m x : Operand} {c : Bool} {mv xv v : Value} (ho : o.op = .lookup t m x c) (hm : a.eval m = mv) (hx : a.eval x = xv) (hl : (Instr.lookup t mv xv c).run P w = .ok v w) : (execOp a.eval o).run P w = .ok (.value v) w := by
  unfold execOp; simp only [ho, hm, hx, Sem.run_bind, hl, Result.andThen_ok, Sem.run_pure]
theorem exec_extract {x : Operand} {i : Nat} {vs : Array Value} {v : Value} (ho : o.op = .extract x i) (hx : a.eval x = .tuple vs) (hv : vs[i]? = some v) : (execOp a.eval o).run P w = .ok (.value v) w := by
  unfold execOp; simp only [ho, hx, Instr.extract, hv, Sem.run_bind, Result.andThen_ok, Sem.run_pure]
theorem exec_build0 {t : TypeId} {v : Value} (ho : o.op = .build t #[]) (hl : (Instr.build t #[]).run P w = .ok v w) : (execOp a.eval o).run P w = .ok (.value v) w := by
  unfold execOp; simp only [ho, List.map_toArray, List.map_nil, Sem.run_bind, hl, Result.andThen_ok, Sem.run_pure]
theorem exec_build {t : TypeId} {parts : Array (Nat × Operand)} {pv : Array (Nat × Value)} {v : Value} (ho : o.op = .build t parts) (hp : (parts.map fun (i, x) => (i, a.eval x)) = pv) (hl : (Instr.build t pv).run P w = .ok v w) : (execOp a.eval o).run P w = .ok (.value v) w := by
  unfold execOp; simp only [ho, hp, Sem.run_bind, hl, Result.andThen_ok, Sem.run_pure]
theorem exec_binOp {b : BinOp} {t t2 : TypeId} {x y : Operand} {xv yv v : Value} (ho : o.op = .binOp b t x y t2) (hx : a.eval x = xv) (hy : a.eval y = yv) (hg : (eqGuard b t x y xv yv).run P w = .ok () w) (hl : (binOp b t xv yv).run P w = .ok v w) : (execOp a.eval o).run P w = .ok (.value v) w := by
  unfold execOp; simp only [ho, hx, hy, Sem.run_bind, hg, hl, Result.andThen_ok, Sem.run_pure]
theorem exec_len {x : Operand} {ts : Array TypeId} {xv v : Value} (ho : o.op = .call { callee := .builtin .len, args := #[x], argTypes := ts }) (hx : a.eval x = xv) (hl : (Builtin.len_ ts o.type #[xv]).run P w = .ok v w) : (execOp a.eval o).run P w = .ok (.value v) w := by
  unfold execOp
  simp only [ho, resolve, invoke, builtin, List.map_toArray, List.map_cons, List.map_nil, hx, Sem.run_bind, Sem.run_pure, hl, Result.andThen_ok]
theorem exec_delete {x y : Operand} {ts : Array TypeId} {xv yv : Value} (ho : o.op = .call { callee := .builtin .delete, args := #[x, y], argTypes := ts }) (hx : a.eval x = xv) (hy : a.eval y = yv) (hl : (Builtin.delete_ ts o.type #[xv, yv]).run P w = .ok (.tuple #[]) w2) : (execOp a.eval o).run P w = .ok (.value (.tuple #[])) w2 := by
  unfold execOp
  simp only [ho, resolve, invoke, builtin, List.map_toArray, List.map_cons, List.map_nil, hx, hy, Sem.run_bind, Sem.run_pure, hl, Result.andThen_ok]
theorem exec_alloc {t : TypeId} {v : Value} (ho : o.op = .alloc t) (hl : (Instr.alloc t true (.tuple #[])).run P w = .ok v w2) : (execOp a.eval o).run P w = .ok (.value v) w2 := by
  unfold execOp; simp only [ho, Sem.run_bind, hl, Result.andThen_ok, Sem.run_pure]
theorem exec_makeMap {t : TypeId} {v : Value} (ho : o.op = .makeMap t none) (hl : (Instr.makeMap t none).run P w = .ok v w2) : (execOp a.eval o).run P w = .ok (.value v) w2 := by
  unfold execOp; simp only [ho, Option.map_none, Sem.run_bind, hl, Result.andThen_ok, Sem.run_pure]
theorem exec_store {t : TypeId} {x y : Operand} {xv yv : Value} (ho : o.op = .store t x y) (hx : a.eval x = xv) (hy : a.eval y = yv) (hl : (Instr.storeAt t xv yv).run P w = .ok () w2) : (execOp a.eval o).run P w = .ok .skip w2 := by
  unfold execOp; simp only [ho, hx, hy, Sem.run_bind, hl, Result.andThen_ok, Sem.run_pure]
theorem exec_mapUpdate {t : TypeId} {m x y : Operand} {mv xv yv : Value} (ho : o.op = .mapUpdate t m x y) (hm : a.eval m = mv) (hx : a.eval x = xv) (hy : a.eval y = yv) (hl : (Instr.mapUpdate t mv xv yv).run P w = .ok () w2) : (execOp a.eval o).run P w = .ok .skip w2 := by
  unfold execOp; simp only [ho, hm, hx, hy, Sem.run_bind, hl, Result.andThen_ok, Sem.run_pure]
theorem exec_buildSlice {t n : Nat} {x : Operand} {xv v : Value} (ho : o.op = .buildSlice t n #[(0, x)]) (hx : a.eval x = xv) (hl : (Instr.buildSlice t n #[(0, xv)]).run P w = .ok v w2) : (execOp a.eval o).run P w = .ok (.value v) w2 := by
  unfold execOp; simp only [ho, List.map_toArray, List.map_cons, List.map_nil, hx, Sem.run_bind, hl, Result.andThen_ok, Sem.run_pure]
theorem exec_append {x y : Operand} {ts : Array TypeId} {xv yv v : Value} (ho : o.op = .call { callee := .builtin .append, args := #[x, y], argTypes := ts }) (hx : a.eval x = xv) (hy : a.eval y = yv) (hl : (Builtin.append_ ts o.type #[xv, yv]).run P w = .ok v w2) : (execOp a.eval o).run P w = .ok (.value v) w2 := by
  unfold execOp
  simp only [ho, resolve, invoke, builtin, List.map_toArray, List.map_cons, List.map_nil, hx, hy, Sem.run_bind, Sem.run_pure, hl, Result.andThen_ok]
theorem exec_indexAt {t : TypeId} {x y : Operand} {xv yv v : Value} (ho : o.op = .indexAddr t x y) (hx : a.eval x = xv) (hy : a.eval y = yv) (hl : (Instr.indexAt t xv yv).run P w = .ok v w) : (execOp a.eval o).run P w = .ok (.value v) w := by
  unfold execOp; simp only [ho, hx, hy, Sem.run_bind, hl, Result.andThen_ok, Sem.run_pure]
variable {ops : Array Oper} {K : Act → World → Prop} {Q : Exit → Act → World → Prop} {E : Prop}
theorem step_run {v : Value} (hgd : o.guard = none) (he : (execOp a.eval o).run P w = .ok (.value v) w2) (h : K (a.put o.dst v) w2) : if Region.wanted o (yielded ops a.tmps) = true then Oper.wp P o a w K Q else E := by
  have hw : Region.wanted o (yielded ops a.tmps) = true := by simp [Region.wanted, hgd]
  rw [if_pos hw, Oper.wp, he]
  exact h
theorem step_none {v : Value} (hgd : o.guard = none) (hd : o.dst = none) (he : (execOp a.eval o).run P w = .ok (.value v) w2) (h : K a w2) : if Region.wanted o (yielded ops a.tmps) = true then Oper.wp P o a w K Q else E := by
  refine step_run hgd he ?_
  rw [hd]
  exact h
theorem step_skip (hgd : o.guard = none) (hd : o.dst = none) (he : (execOp a.eval o).run P w = .ok .skip w2) (h : K a w2) : if Region.wanted o (yielded ops a.tmps) = true then Oper.wp P o a w K Q else E := by
  have hw : Region.wanted o (yielded ops a.tmps) = true := by simp [Region.wanted, hgd]
  rw [if_pos hw, Oper.wp, he]
  show K (a.put o.dst undef) w2
  rw [hd]
  exact h
end
theorem put_same (a : Act) (d : Nat) (v : Value) (h : d < a.tmps.size) : (a.put (some d) v).tmps.getD d undef = v := by
  simp [Act.put, Array.getD_eq_getD_getElem?, h]
theorem put_ne (a : Act) (d e : Nat) (v : Value) (h : d ≠ e) : (a.put (some d) v).tmps.getD e undef = a.tmps.getD e undef := by
  simp [Act.put, Array.getD_eq_getD_getElem?, Array.getElem?_setIfInBounds, h]
theorem put_size (a : Act) (d : Option Nat) (v : Value) : (a.put d v).tmps.size = a.tmps.size := by
  cases d <;> simp [Act.put]
theorem put_comm (a : Act) (i j : Nat) (x y : Value) (h : i ≠ j) : (a.put (some i) x).put (some j) y = (a.put (some j) y).put (some i) x := by
  simp only [Act.put]
  rw [Array.setIfInBounds_comm _ _ h]
theorem fa_40_0 (b : Nat) (w : World) : (Instr.fieldAt 40 (.pointer (some ⟨b, 0, none⟩)) 0).run Tryd.prog w = .ok (.pointer (some ⟨b, 0, none⟩)) w := by go_simp
def ring13_ops : Array Oper := #[{ dst := some 48, op := Op.move (Operand.tmp 4), type := 31, pos := "ref.go:32", after := #[], guard := none }, { dst := some 49, op := Op.move (Operand.tmp 4), type := 31, pos := "ref.go:32", after := #[], guard := none }, { dst := some 50, op := Op.nilCheck (Operand.tmp 49), type := 0, pos := "ref.go:32", after := #[{ on := 1, ground := Ground.data }], guard := none }, { dst := some 51, op := Op.fieldAddr 40 (Operand.tmp 50) 0, type := 0, pos := "ref.go:32", after := #[{ on := 2, ground := Ground.data }], guard := none }, { dst := some 52, op := Op.load 22 (Operand.tmp 51), type := 22, pos := "ref.go:32", after := #[{ on := 3, ground := Ground.data }], guard := none }, { dst := some 53, op := Op.move (Operand.tmp 0), type := 22, pos := "ref.go:32", after := #[], guard := none }, { dst := some 54, op := Op.move (Operand.tmp 6), type := 3, pos := "ref.go:32", after := #[], guard := none }, { dst := some 55, op := Op.indexAddr 22 (Operand.tmp 53) (Operand.tmp 54), type := 0, pos := "ref.go:32", after := #[{ on := 5, ground := Ground.data }, { on := 6, ground := Ground.data }], guard := none }, { dst := some 56, op := Op.load 26 (Operand.tmp 55), type := 26, pos := "ref.go:32", after := #[{ on := 7, ground := Ground.data }], guard := none }, { dst := some 57, op := Op.buildSlice 22 1 #[(0, Operand.tmp 56)], type := 22, pos := "ref.go:32", after := #[{ on := 8, ground := Ground.data }], guard := none }, { dst := some 58, op := Op.call { callee := Callee.builtin Builtin.append, args := #[Operand.tmp 52, Operand.tmp 57], argTypes := #[22, 22] }, type := 22, pos := "ref.go:32", after := #[{ on := 4, ground := Ground.data }, { on := 9, ground := Ground.data }], guard := none }, { dst := some 59, op := Op.nilCheck (Operand.tmp 48), type := 0, pos := "ref.go:32", after := #[{ on := 0, ground := Ground.data }, { on := 0, ground := Ground.phase }, { on := 1, ground := Ground.phase }, { on := 2, ground := Ground.phase }, { on := 3, ground := Ground.phase }, { on := 4, ground := Ground.phase }, { on := 5, ground := Ground.phase }, { on := 6, ground := Ground.phase }, { on := 7, ground := Ground.phase }, { on := 8, ground := Ground.phase }, { on := 9, ground := Ground.phase }, { on := 10, ground := Ground.phase }], guard := none }, { dst := some 60, op := Op.fieldAddr 40 (Operand.tmp 59) 0, type := 0, pos := "ref.go:32", after := #[{ on := 11, ground := Ground.data }, { on := 0, ground := Ground.phase }, { on := 1, ground := Ground.phase }, { on := 2, ground := Ground.phase }, { on := 3, ground := Ground.phase }, { on := 4, ground := Ground.phase }, { on := 5, ground := Ground.phase }, { on := 6, ground := Ground.phase }, { on := 7, ground := Ground.phase }, { on := 8, ground := Ground.phase }, { on := 9, ground := Ground.phase }, { on := 10, ground := Ground.phase }], guard := none }, { dst := none, op := Op.store 22 (Operand.tmp 60) (Operand.tmp 58), type := 0, pos := "ref.go:32", after := #[{ on := 12, ground := Ground.data }, { on := 10, ground := Ground.data }, { on := 10, ground := Ground.chain }, { on := 0, ground := Ground.phase }, { on := 1, ground := Ground.phase }, { on := 2, ground := Ground.phase }, { on := 3, ground := Ground.phase }, { on := 4, ground := Ground.phase }, { on := 5, ground := Ground.phase }, { on := 6, ground := Ground.phase }, { on := 7, ground := Ground.phase }, { on := 8, ground := Ground.phase }, { on := 9, ground := Ground.phase }, { on := 10, ground := Ground.phase }], guard := none }]
theorem ring13 (q pb po : Nat) (i : Int) (sv rv nv rv2 : Value) (cs : Array Value) (w1 w2 w3 : World) (S : World → Prop) (a : Act) (w : World) (Q : Exit → Act → World → Prop) (hsz : a.tmps.size = 62)
    (h4 : a.tmps.getD 4 undef = .pointer (some ⟨q, 0, none⟩))
    (h0 : a.tmps.getD 0 undef = sv)
    (h6 : a.tmps.getD 6 undef = .int .i64 i)
    (hS0 : S w.drew)
    (H4 : (Instr.loadAt 22 (.pointer (some ⟨q, 0, none⟩))).run Tryd.prog w.drew = .ok (rv) w.drew) (G4 : (Instr.loadAt 22 (.pointer (some ⟨q, 0, none⟩))).run Tryd.prog w1 = .ok (rv) w1)
    (H7 : ∀ wx, (Instr.indexAt 22 (sv) (.int .i64 i)).run Tryd.prog wx = .ok (.pointer (some ⟨pb, po, none⟩)) wx)
    (H8 : ∀ wx, S wx → (Instr.loadAt 26 (.pointer (some ⟨pb, po, none⟩))).run Tryd.prog wx = .ok (.agg cs) wx)
    (H9 : (Instr.buildSlice 22 1 #[(0, .agg cs)]).run Tryd.prog (w.drew) = .ok (nv) w1) (S1 : S w1)
    (H10 : (Builtin.append_ #[22, 22] 22 #[rv, nv]).run Tryd.prog (w1) = .ok (rv2) w2) (S2 : S w2)
    (H13 : (Instr.storeAt 22 (.pointer (some ⟨q, 0, none⟩)) (rv2)).run Tryd.prog (w2) = .ok () w3) (S3 : S w3)
    (h : ∀ (a' : Act), a' = (((((((((((((a).put (some 48) (.pointer (some ⟨q, 0, none⟩))).put (some 49) (.pointer (some ⟨q, 0, none⟩))).put (some 50) (.pointer (some ⟨q, 0, none⟩))).put (some 51) (.pointer (some ⟨q, 0, none⟩))).put (some 53) (sv)).put (some 54) (.int .i64 i)).put (some 55) (.pointer (some ⟨pb, po, none⟩))).put (some 56) (.agg cs)).put (some 52) (rv)).put (some 57) (nv)).put (some 58) (rv2)).put (some 59) (.pointer (some ⟨q, 0, none⟩))).put (some 60) (.pointer (some ⟨q, 0, none⟩)) → Q .normal a' w3) :
    (Code.region 13 ring13_ops true).wp Tryd.prog Q a w := by
  refine wp_region_noPanic ?_
  refine wp_region_held_drew (S := S) (by kernel_rfl) hS0 (fun hHeld => ?_)
  refine wpAnyH_take (i := 0) (oi := { dst := some 48, op := Op.move (Operand.tmp 4), type := 31, pos := "ref.go:32", after := #[], guard := none }) (v := .pointer (some ⟨q, 0, none⟩)) rfl (by kernel_rfl) (by kernel_rfl) (by kernel_rfl) (fun _ _ _ h => h) (Or.inl ⟨by rfl, fun w1 hw => exec_move rfl (h4)⟩) hHeld ?_
  change wpAnyH _ _ _ _ _ _ _ (a.put (some 48) (.pointer (some ⟨q, 0, none⟩))) _
  obtain ⟨a1, e1⟩ : ∃ act, act = a.put (some 48) (.pointer (some ⟨q, 0, none⟩)) := ⟨_, rfl⟩
  rw [← e1] at h ⊢
  have z1 : a1.tmps.size = 62 := by rw [e1, put_size]; exact hsz
  replace h4 : a1.tmps.getD 4 undef = .pointer (some ⟨q, 0, none⟩) := by rw [e1, put_ne _ _ _ _ (by decide)]; exact h4
  replace h0 : a1.tmps.getD 0 undef = sv := by rw [e1, put_ne _ _ _ _ (by decide)]; exact h0
  replace h6 : a1.tmps.getD 6 undef = .int .i64 i := by rw [e1, put_ne _ _ _ _ (by decide)]; exact h6
  have h48 : a1.tmps.getD 48 undef = .pointer (some ⟨q, 0, none⟩) := by rw [e1]; exact put_same _ _ _ (by omega)
  clear e1 hsz
  refine wpAnyH_take (i := 1) (oi := { dst := some 49, op := Op.move (Operand.tmp 4), type := 31, pos := "ref.go:32", after := #[], guard := none }) (v := .pointer (some ⟨q, 0, none⟩)) rfl (by kernel_rfl) (by kernel_rfl) (by kernel_rfl) (fun _ _ _ h => h) (Or.inl ⟨by rfl, fun w1 hw => exec_move rfl (h4)⟩) hHeld ?_
  change wpAnyH _ _ _ _ _ _ _ (a1.put (some 49) (.pointer (some ⟨q, 0, none⟩))) _
  obtain ⟨a2, e2⟩ : ∃ act, act = a1.put (some 49) (.pointer (some ⟨q, 0, none⟩)) := ⟨_, rfl⟩
  rw [← e2] at h ⊢
  have z2 : a2.tmps.size = 62 := by rw [e2, put_size]; exact z1
  clear h4
  replace h0 : a2.tmps.getD 0 undef = sv := by rw [e2, put_ne _ _ _ _ (by decide)]; exact h0
  replace h6 : a2.tmps.getD 6 undef = .int .i64 i := by rw [e2, put_ne _ _ _ _ (by decide)]; exact h6
  replace h48 : a2.tmps.getD 48 undef = .pointer (some ⟨q, 0, none⟩) := by rw [e2, put_ne _ _ _ _ (by decide)]; exact h48
  have h49 : a2.tmps.getD 49 undef = .pointer (some ⟨q, 0, none⟩) := by rw [e2]; exact put_same _ _ _ (by omega)
  clear e2 z1
  refine wpAnyH_take (i := 2) (oi := { dst := some 50, op := Op.nilCheck (Operand.tmp 49), type := 0, pos := "ref.go:32", after := #[{ on := 1, ground := Ground.data }], guard := none }) (v := .pointer (some ⟨q, 0, none⟩)) rfl (by kernel_rfl) (by kernel_rfl) (by kernel_rfl) (fun _ _ _ h => h) (Or.inl ⟨by rfl, fun w1 hw => exec_nilCheck rfl (h49)⟩) hHeld ?_
  change wpAnyH _ _ _ _ _ _ _ (a2.put (some 50) (.pointer (some ⟨q, 0, none⟩))) _
  obtain ⟨a3, e3⟩ : ∃ act, act = a2.put (some 50) (.pointer (some ⟨q, 0, none⟩)) := ⟨_, rfl⟩
  rw [← e3] at h ⊢
  have z3 : a3.tmps.size = 62 := by rw [e3, put_size]; exact z2
  replace h0 : a3.tmps.getD 0 undef = sv := by rw [e3, put_ne _ _ _ _ (by decide)]; exact h0
  replace h6 : a3.tmps.getD 6 undef = .int .i64 i := by rw [e3, put_ne _ _ _ _ (by decide)]; exact h6
  replace h48 : a3.tmps.getD 48 undef = .pointer (some ⟨q, 0, none⟩) := by rw [e3, put_ne _ _ _ _ (by decide)]; exact h48
  clear h49
  have h50 : a3.tmps.getD 50 undef = .pointer (some ⟨q, 0, none⟩) := by rw [e3]; exact put_same _ _ _ (by omega)
  clear e3 z2
  refine wpAnyH_take (i := 3) (oi := { dst := some 51, op := Op.fieldAddr 40 (Operand.tmp 50) 0, type := 0, pos := "ref.go:32", after := #[{ on := 2, ground := Ground.data }], guard := none }) (v := .pointer (some ⟨q, 0, none⟩)) rfl (by kernel_rfl) (by kernel_rfl) (by kernel_rfl) (fun _ _ _ h => h) (Or.inl ⟨by rfl, fun w1 hw => exec_fieldAt rfl (h50) (fa_40_0 _ _)⟩) hHeld ?_
  change wpAnyH _ _ _ _ _ _ _ (a3.put (some 51) (.pointer (some ⟨q, 0, none⟩))) _
  obtain ⟨a4, e4⟩ : ∃ act, act = a3.put (some 51) (.pointer (some ⟨q, 0, none⟩)) := ⟨_, rfl⟩
  rw [← e4] at h ⊢
  have z4 : a4.tmps.size = 62 := by rw [e4, put_size]; exact z3
  replace h0 : a4.tmps.getD 0 undef = sv := by rw [e4, put_ne _ _ _ _ (by decide)]; exact h0
  replace h6 : a4.tmps.getD 6 undef = .int .i64 i := by rw [e4, put_ne _ _ _ _ (by decide)]; exact h6
  replace h48 : a4.tmps.getD 48 undef = .pointer (some ⟨q, 0, none⟩) := by rw [e4, put_ne _ _ _ _ (by decide)]; exact h48
  clear h50
  have h51 : a4.tmps.getD 51 undef = .pointer (some ⟨q, 0, none⟩) := by rw [e4]; exact put_same _ _ _ (by omega)
  clear e4 z3
  refine wpAnyH_take (i := 5) (oi := { dst := some 53, op := Op.move (Operand.tmp 0), type := 22, pos := "ref.go:32", after := #[], guard := none }) (v := sv) rfl (by kernel_rfl) (by kernel_rfl) (by kernel_rfl) (fun _ _ _ h => h) (Or.inl ⟨by rfl, fun w1 hw => exec_move rfl (h0)⟩) hHeld ?_
  change wpAnyH _ _ _ _ _ _ _ (a4.put (some 53) (sv)) _
  obtain ⟨a5, e5⟩ : ∃ act, act = a4.put (some 53) (sv) := ⟨_, rfl⟩
  rw [← e5] at h ⊢
  have z5 : a5.tmps.size = 62 := by rw [e5, put_size]; exact z4
  clear h0
  replace h6 : a5.tmps.getD 6 undef = .int .i64 i := by rw [e5, put_ne _ _ _ _ (by decide)]; exact h6
  replace h48 : a5.tmps.getD 48 undef = .pointer (some ⟨q, 0, none⟩) := by rw [e5, put_ne _ _ _ _ (by decide)]; exact h48
  replace h51 : a5.tmps.getD 51 undef = .pointer (some ⟨q, 0, none⟩) := by rw [e5, put_ne _ _ _ _ (by decide)]; exact h51
  have h53 : a5.tmps.getD 53 undef = sv := by rw [e5]; exact put_same _ _ _ (by omega)
  clear e5 z4
  refine wpAnyH_take (i := 6) (oi := { dst := some 54, op := Op.move (Operand.tmp 6), type := 3, pos := "ref.go:32", after := #[], guard := none }) (v := .int .i64 i) rfl (by kernel_rfl) (by kernel_rfl) (by kernel_rfl) (fun _ _ _ h => h) (Or.inl ⟨by rfl, fun w1 hw => exec_move rfl (h6)⟩) hHeld ?_
  change wpAnyH _ _ _ _ _ _ _ (a5.put (some 54) (.int .i64 i)) _
  obtain ⟨a6, e6⟩ : ∃ act, act = a5.put (some 54) (.int .i64 i) := ⟨_, rfl⟩
  rw [← e6] at h ⊢
  have z6 : a6.tmps.size = 62 := by rw [e6, put_size]; exact z5
  clear h6
  replace h48 : a6.tmps.getD 48 undef = .pointer (some ⟨q, 0, none⟩) := by rw [e6, put_ne _ _ _ _ (by decide)]; exact h48
  replace h51 : a6.tmps.getD 51 undef = .pointer (some ⟨q, 0, none⟩) := by rw [e6, put_ne _ _ _ _ (by decide)]; exact h51
  replace h53 : a6.tmps.getD 53 undef = sv := by rw [e6, put_ne _ _ _ _ (by decide)]; exact h53
  have h54 : a6.tmps.getD 54 undef = .int .i64 i := by rw [e6]; exact put_same _ _ _ (by omega)
  clear e6 z5
  refine wpAnyH_take (i := 7) (oi := { dst := some 55, op := Op.indexAddr 22 (Operand.tmp 53) (Operand.tmp 54), type := 0, pos := "ref.go:32", after := #[{ on := 5, ground := Ground.data }, { on := 6, ground := Ground.data }], guard := none }) (v := .pointer (some ⟨pb, po, none⟩)) rfl (by kernel_rfl) (by kernel_rfl) (by kernel_rfl) (fun _ _ _ h => h) (Or.inl ⟨by rfl, fun w1 hw => exec_indexAt rfl (h53) (h54) (H7 _)⟩) hHeld ?_
  change wpAnyH _ _ _ _ _ _ _ (a6.put (some 55) (.pointer (some ⟨pb, po, none⟩))) _
  obtain ⟨a7, e7⟩ : ∃ act, act = a6.put (some 55) (.pointer (some ⟨pb, po, none⟩)) := ⟨_, rfl⟩
  rw [← e7] at h ⊢
  have z7 : a7.tmps.size = 62 := by rw [e7, put_size]; exact z6
  replace h48 : a7.tmps.getD 48 undef = .pointer (some ⟨q, 0, none⟩) := by rw [e7, put_ne _ _ _ _ (by decide)]; exact h48
  replace h51 : a7.tmps.getD 51 undef = .pointer (some ⟨q, 0, none⟩) := by rw [e7, put_ne _ _ _ _ (by decide)]; exact h51
  clear h53
  clear h54
  have h55 : a7.tmps.getD 55 undef = .pointer (some ⟨pb, po, none⟩) := by rw [e7]; exact put_same _ _ _ (by omega)
  clear e7 z6
  refine wpAnyH_take (i := 8) (oi := { dst := some 56, op := Op.load 26 (Operand.tmp 55), type := 26, pos := "ref.go:32", after := #[{ on := 7, ground := Ground.data }], guard := none }) (v := .agg cs) rfl (by kernel_rfl) (by kernel_rfl) (by kernel_rfl) (fun _ _ _ h => h) (Or.inl ⟨by rfl, fun w1 hw => exec_load rfl (h55) (H8 _ hw)⟩) hHeld ?_
  change wpAnyH _ _ _ _ _ _ _ (a7.put (some 56) (.agg cs)) _
  obtain ⟨a8, e8⟩ : ∃ act, act = a7.put (some 56) (.agg cs) := ⟨_, rfl⟩
  rw [← e8] at h ⊢
  have z8 : a8.tmps.size = 62 := by rw [e8, put_size]; exact z7
  replace h48 : a8.tmps.getD 48 undef = .pointer (some ⟨q, 0, none⟩) := by rw [e8, put_ne _ _ _ _ (by decide)]; exact h48
  replace h51 : a8.tmps.getD 51 undef = .pointer (some ⟨q, 0, none⟩) := by rw [e8, put_ne _ _ _ _ (by decide)]; exact h51
  clear h55
  have h56 : a8.tmps.getD 56 undef = .agg cs := by rw [e8]; exact put_same _ _ _ (by omega)
  clear e8 z7
  refine wpAnyH_ready (rs := [4, 9]) (by kernel_rfl) (by simp) ?_
  refine AllReadyH.cons (o := { dst := some 52, op := Op.load 22 (Operand.tmp 51), type := 22, pos := "ref.go:32", after := #[{ on := 3, ground := Ground.data }], guard := none }) rfl (fun K hK => ?_) (AllReadyH.cons (o := { dst := some 57, op := Op.buildSlice 22 1 #[(0, Operand.tmp 56)], type := 22, pos := "ref.go:32", after := #[{ on := 8, ground := Ground.data }], guard := none }) rfl (fun K hK => ?_) AllReadyH.nil)
  · have X := exec_load (P := Tryd.prog) (a := a8) (o := { dst := some 52, op := Op.load 22 (Operand.tmp 51), type := 22, pos := "ref.go:32", after := #[{ on := 3, ground := Ground.data }], guard := none }) rfl (h51) H4
    rw [if_pos (show Region.wanted { dst := some 52, op := Op.load 22 (Operand.tmp 51), type := 22, pos := "ref.go:32", after := #[{ on := 3, ground := Ground.data }], guard := none } (yielded ring13_ops (a8).tmps) = true from rfl), Oper.wp, X]
    show K _ _
    clear X
    refine hK.out _ _ hHeld (fun _ => ?_)
    clear hK K
    change wpAnyH _ _ _ _ _ _ _ (a8.put (some 52) (rv)) _
    refine wpAnyH_ready (rs := [9]) (by kernel_rfl) (by simp) ?_
    refine AllReadyH.cons (o := { dst := some 57, op := Op.buildSlice 22 1 #[(0, Operand.tmp 56)], type := 22, pos := "ref.go:32", after := #[{ on := 8, ground := Ground.data }], guard := none }) rfl (fun K hK => ?_) AllReadyH.nil
    have X := exec_buildSlice (P := Tryd.prog) (a := (a8.put (some 52) (rv))) (o := { dst := some 57, op := Op.buildSlice 22 1 #[(0, Operand.tmp 56)], type := 22, pos := "ref.go:32", after := #[{ on := 8, ground := Ground.data }], guard := none }) rfl (by show (a8.put (some 52) (rv)).tmps.getD 56 undef = _; rw [put_ne _ _ _ _ (by decide)]; exact h56) H9
    rw [if_pos (show Region.wanted { dst := some 57, op := Op.buildSlice 22 1 #[(0, Operand.tmp 56)], type := 22, pos := "ref.go:32", after := #[{ on := 8, ground := Ground.data }], guard := none } (yielded ring13_ops (a8.put (some 52) (rv)).tmps) = true from rfl), Oper.wp, X]
    show K _ _
    clear X
    refine hK.out _ _ S1 (fun hHeld => ?_)
    clear hK K
    change wpAnyH _ _ _ _ _ _ _ ((a8.put (some 52) (rv)).put (some 57) (nv)) _
    obtain ⟨a9, e9⟩ : ∃ act, act = a8.put (some 52) (rv) := ⟨_, rfl⟩
    rw [← e9] at h ⊢
    have z9 : a9.tmps.size = 62 := by rw [e9, put_size]; exact z8
    replace h48 : a9.tmps.getD 48 undef = .pointer (some ⟨q, 0, none⟩) := by rw [e9, put_ne _ _ _ _ (by decide)]; exact h48
    clear h51
    replace h56 : a9.tmps.getD 56 undef = .agg cs := by rw [e9, put_ne _ _ _ _ (by decide)]; exact h56
    have h52 : a9.tmps.getD 52 undef = rv := by rw [e9]; exact put_same _ _ _ (by omega)
    clear e9 z8
    obtain ⟨a10, e10⟩ : ∃ act, act = a9.put (some 57) (nv) := ⟨_, rfl⟩
    rw [← e10] at h ⊢
    have z10 : a10.tmps.size = 62 := by rw [e10, put_size]; exact z9
    replace h48 : a10.tmps.getD 48 undef = .pointer (some ⟨q, 0, none⟩) := by rw [e10, put_ne _ _ _ _ (by decide)]; exact h48
    clear h56
    replace h52 : a10.tmps.getD 52 undef = rv := by rw [e10, put_ne _ _ _ _ (by decide)]; exact h52
    have h57 : a10.tmps.getD 57 undef = nv := by rw [e10]; exact put_same _ _ _ (by omega)
    clear e10 z9
    refine wpAnyH_ready (rs := [10]) (by kernel_rfl) (by simp) ?_
    refine AllReadyH.cons (o := { dst := some 58, op := Op.call { callee := Callee.builtin Builtin.append, args := #[Operand.tmp 52, Operand.tmp 57], argTypes := #[22, 22] }, type := 22, pos := "ref.go:32", after := #[{ on := 4, ground := Ground.data }, { on := 9, ground := Ground.data }], guard := none }) rfl (fun K hK => ?_) AllReadyH.nil
    have X := exec_append (P := Tryd.prog) (a := a10) (o := { dst := some 58, op := Op.call { callee := Callee.builtin Builtin.append, args := #[Operand.tmp 52, Operand.tmp 57], argTypes := #[22, 22] }, type := 22, pos := "ref.go:32", after := #[{ on := 4, ground := Ground.data }, { on := 9, ground := Ground.data }], guard := none }) rfl (h52) (h57) H10
    rw [if_pos (show Region.wanted { dst := some 58, op := Op.call { callee := Callee.builtin Builtin.append, args := #[Operand.tmp 52, Operand.tmp 57], argTypes := #[22, 22] }, type := 22, pos := "ref.go:32", after := #[{ on := 4, ground := Ground.data }, { on := 9, ground := Ground.data }], guard := none } (yielded ring13_ops (a10).tmps) = true from rfl), Oper.wp, X]
    show K _ _
    clear X
    refine hK.out _ _ S2 (fun hHeld => ?_)
    clear hK K
    change wpAnyH _ _ _ _ _ _ _ (a10.put (some 58) (rv2)) _
    obtain ⟨a11, e11⟩ : ∃ act, act = a10.put (some 58) (rv2) := ⟨_, rfl⟩
    rw [← e11] at h ⊢
    have z11 : a11.tmps.size = 62 := by rw [e11, put_size]; exact z10
    replace h48 : a11.tmps.getD 48 undef = .pointer (some ⟨q, 0, none⟩) := by rw [e11, put_ne _ _ _ _ (by decide)]; exact h48
    clear h52
    clear h57
    have h58 : a11.tmps.getD 58 undef = rv2 := by rw [e11]; exact put_same _ _ _ (by omega)
    clear e11 z10
    refine wpAnyH_take (i := 11) (oi := { dst := some 59, op := Op.nilCheck (Operand.tmp 48), type := 0, pos := "ref.go:32", after := #[{ on := 0, ground := Ground.data }, { on := 0, ground := Ground.phase }, { on := 1, ground := Ground.phase }, { on := 2, ground := Ground.phase }, { on := 3, ground := Ground.phase }, { on := 4, ground := Ground.phase }, { on := 5, ground := Ground.phase }, { on := 6, ground := Ground.phase }, { on := 7, ground := Ground.phase }, { on := 8, ground := Ground.phase }, { on := 9, ground := Ground.phase }, { on := 10, ground := Ground.phase }], guard := none }) (v := .pointer (some ⟨q, 0, none⟩)) rfl (by kernel_rfl) (by kernel_rfl) (by kernel_rfl) (fun _ _ _ h => h) (Or.inl ⟨by rfl, fun w1 hw => exec_nilCheck rfl (h48)⟩) hHeld ?_
    change wpAnyH _ _ _ _ _ _ _ (a11.put (some 59) (.pointer (some ⟨q, 0, none⟩))) _
    obtain ⟨a12, e12⟩ : ∃ act, act = a11.put (some 59) (.pointer (some ⟨q, 0, none⟩)) := ⟨_, rfl⟩
    rw [← e12] at h ⊢
    have z12 : a12.tmps.size = 62 := by rw [e12, put_size]; exact z11
    clear h48
    replace h58 : a12.tmps.getD 58 undef = rv2 := by rw [e12, put_ne _ _ _ _ (by decide)]; exact h58
    have h59 : a12.tmps.getD 59 undef = .pointer (some ⟨q, 0, none⟩) := by rw [e12]; exact put_same _ _ _ (by omega)
    clear e12 z11
    refine wpAnyH_take (i := 12) (oi := { dst := some 60, op := Op.fieldAddr 40 (Operand.tmp 59) 0, type := 0, pos := "ref.go:32", after := #[{ on := 11, ground := Ground.data }, { on := 0, ground := Ground.phase }, { on := 1, ground := Ground.phase }, { on := 2, ground := Ground.phase }, { on := 3, ground := Ground.phase }, { on := 4, ground := Ground.phase }, { on := 5, ground := Ground.phase }, { on := 6, ground := Ground.phase }, { on := 7, ground := Ground.phase }, { on := 8, ground := Ground.phase }, { on := 9, ground := Ground.phase }, { on := 10, ground := Ground.phase }], guard := none }) (v := .pointer (some ⟨q, 0, none⟩)) rfl (by kernel_rfl) (by kernel_rfl) (by kernel_rfl) (fun _ _ _ h => h) (Or.inl ⟨by rfl, fun w1 hw => exec_fieldAt rfl (h59) (fa_40_0 _ _)⟩) hHeld ?_
    change wpAnyH _ _ _ _ _ _ _ (a12.put (some 60) (.pointer (some ⟨q, 0, none⟩))) _
    obtain ⟨a13, e13⟩ : ∃ act, act = a12.put (some 60) (.pointer (some ⟨q, 0, none⟩)) := ⟨_, rfl⟩
    rw [← e13] at h ⊢
    have z13 : a13.tmps.size = 62 := by rw [e13, put_size]; exact z12
    replace h58 : a13.tmps.getD 58 undef = rv2 := by rw [e13, put_ne _ _ _ _ (by decide)]; exact h58
    clear h59
    have h60 : a13.tmps.getD 60 undef = .pointer (some ⟨q, 0, none⟩) := by rw [e13]; exact put_same _ _ _ (by omega)
    clear e13 z12
    refine wpAnyH_ready (rs := [13]) (by kernel_rfl) (by simp) ?_
    refine AllReadyH.cons (o := { dst := none, op := Op.store 22 (Operand.tmp 60) (Operand.tmp 58), type := 0, pos := "ref.go:32", after := #[{ on := 12, ground := Ground.data }, { on := 10, ground := Ground.data }, { on := 10, ground := Ground.chain }, { on := 0, ground := Ground.phase }, { on := 1, ground := Ground.phase }, { on := 2, ground := Ground.phase }, { on := 3, ground := Ground.phase }, { on := 4, ground := Ground.phase }, { on := 5, ground := Ground.phase }, { on := 6, ground := Ground.phase }, { on := 7, ground := Ground.phase }, { on := 8, ground := Ground.phase }, { on := 9, ground := Ground.phase }, { on := 10, ground := Ground.phase }], guard := none }) rfl (fun K hK => ?_) AllReadyH.nil
    have X := exec_store (P := Tryd.prog) (a := a13) (o := { dst := none, op := Op.store 22 (Operand.tmp 60) (Operand.tmp 58), type := 0, pos := "ref.go:32", after := #[{ on := 12, ground := Ground.data }, { on := 10, ground := Ground.data }, { on := 10, ground := Ground.chain }, { on := 0, ground := Ground.phase }, { on := 1, ground := Ground.phase }, { on := 2, ground := Ground.phase }, { on := 3, ground := Ground.phase }, { on := 4, ground := Ground.phase }, { on := 5, ground := Ground.phase }, { on := 6, ground := Ground.phase }, { on := 7, ground := Ground.phase }, { on := 8, ground := Ground.phase }, { on := 9, ground := Ground.phase }, { on := 10, ground := Ground.phase }], guard := none }) rfl (h60) (h58) H13
    rw [if_pos (show Region.wanted { dst := none, op := Op.store 22 (Operand.tmp 60) (Operand.tmp 58), type := 0, pos := "ref.go:32", after := #[{ on := 12, ground := Ground.data }, { on := 10, ground := Ground.data }, { on := 10, ground := Ground.chain }, { on := 0, ground := Ground.phase }, { on := 1, ground := Ground.phase }, { on := 2, ground := Ground.phase }, { on := 3, ground := Ground.phase }, { on := 4, ground := Ground.phase }, { on := 5, ground := Ground.phase }, { on := 6, ground := Ground.phase }, { on := 7, ground := Ground.phase }, { on := 8, ground := Ground.phase }, { on := 9, ground := Ground.phase }, { on := 10, ground := Ground.phase }], guard := none } (yielded ring13_ops (a13).tmps) = true from rfl), Oper.wp, X]
    show K a13 w3
    clear X
    refine hK.out _ _ S3 (fun hHeld => ?_)
    clear hK K
    clear h58
    clear h60
    exact wpAnyH_done (by kernel_rfl) (NoPanic.normal (h _ rfl)) _
  · have X := exec_buildSlice (P := Tryd.prog) (a := a8) (o := { dst := some 57, op := Op.buildSlice 22 1 #[(0, Operand.tmp 56)], type := 22, pos := "ref.go:32", after := #[{ on := 8, ground := Ground.data }], guard := none }) rfl (h56) H9
    rw [if_pos (show Region.wanted { dst := some 57, op := Op.buildSlice 22 1 #[(0, Operand.tmp 56)], type := 22, pos := "ref.go:32", after := #[{ on := 8, ground := Ground.data }], guard := none } (yielded ring13_ops (a8).tmps) = true from rfl), Oper.wp, X]
    show K _ _
    clear X
    refine hK.out _ _ S1 (fun hHeld => ?_)
    clear hK K
    change wpAnyH _ _ _ _ _ _ _ (a8.put (some 57) (nv)) _
    refine wpAnyH_ready (rs := [4]) (by kernel_rfl) (by simp) ?_
    refine AllReadyH.cons (o := { dst := some 52, op := Op.load 22 (Operand.tmp 51), type := 22, pos := "ref.go:32", after := #[{ on := 3, ground := Ground.data }], guard := none }) rfl (fun K hK => ?_) AllReadyH.nil
    have X := exec_load (P := Tryd.prog) (a := (a8.put (some 57) (nv))) (o := { dst := some 52, op := Op.load 22 (Operand.tmp 51), type := 22, pos := "ref.go:32", after := #[{ on := 3, ground := Ground.data }], guard := none }) rfl (by show (a8.put (some 57) (nv)).tmps.getD 51 undef = _; rw [put_ne _ _ _ _ (by decide)]; exact h51) G4
    rw [if_pos (show Region.wanted { dst := some 52, op := Op.load 22 (Operand.tmp 51), type := 22, pos := "ref.go:32", after := #[{ on := 3, ground := Ground.data }], guard := none } (yielded ring13_ops (a8.put (some 57) (nv)).tmps) = true from rfl), Oper.wp, X]
    show K _ _
    clear X
    refine hK.out _ _ hHeld (fun _ => ?_)
    clear hK K
    change wpAnyH _ _ _ _ _ _ _ ((a8.put (some 57) (nv)).put (some 52) (rv)) _
    rw [put_comm _ _ _ _ _ (show 57 ≠ 52 by decide)]
    obtain ⟨a9, e9⟩ : ∃ act, act = a8.put (some 52) (rv) := ⟨_, rfl⟩
    rw [← e9] at h ⊢
    have z9 : a9.tmps.size = 62 := by rw [e9, put_size]; exact z8
    replace h48 : a9.tmps.getD 48 undef = .pointer (some ⟨q, 0, none⟩) := by rw [e9, put_ne _ _ _ _ (by decide)]; exact h48
    clear h51
    replace h56 : a9.tmps.getD 56 undef = .agg cs := by rw [e9, put_ne _ _ _ _ (by decide)]; exact h56
    have h52 : a9.tmps.getD 52 undef = rv := by rw [e9]; exact put_same _ _ _ (by omega)
    clear e9 z8
    obtain ⟨a10, e10⟩ : ∃ act, act = a9.put (some 57) (nv) := ⟨_, rfl⟩
    rw [← e10] at h ⊢
    have z10 : a10.tmps.size = 62 := by rw [e10, put_size]; exact z9
    replace h48 : a10.tmps.getD 48 undef = .pointer (some ⟨q, 0, none⟩) := by rw [e10, put_ne _ _ _ _ (by decide)]; exact h48
    clear h56
    replace h52 : a10.tmps.getD 52 undef = rv := by rw [e10, put_ne _ _ _ _ (by decide)]; exact h52
    have h57 : a10.tmps.getD 57 undef = nv := by rw [e10]; exact put_same _ _ _ (by omega)
    clear e10 z9
    refine wpAnyH_ready (rs := [10]) (by kernel_rfl) (by simp) ?_
    refine AllReadyH.cons (o := { dst := some 58, op := Op.call { callee := Callee.builtin Builtin.append, args := #[Operand.tmp 52, Operand.tmp 57], argTypes := #[22, 22] }, type := 22, pos := "ref.go:32", after := #[{ on := 4, ground := Ground.data }, { on := 9, ground := Ground.data }], guard := none }) rfl (fun K hK => ?_) AllReadyH.nil
    have X := exec_append (P := Tryd.prog) (a := a10) (o := { dst := some 58, op := Op.call { callee := Callee.builtin Builtin.append, args := #[Operand.tmp 52, Operand.tmp 57], argTypes := #[22, 22] }, type := 22, pos := "ref.go:32", after := #[{ on := 4, ground := Ground.data }, { on := 9, ground := Ground.data }], guard := none }) rfl (h52) (h57) H10
    rw [if_pos (show Region.wanted { dst := some 58, op := Op.call { callee := Callee.builtin Builtin.append, args := #[Operand.tmp 52, Operand.tmp 57], argTypes := #[22, 22] }, type := 22, pos := "ref.go:32", after := #[{ on := 4, ground := Ground.data }, { on := 9, ground := Ground.data }], guard := none } (yielded ring13_ops (a10).tmps) = true from rfl), Oper.wp, X]
    show K _ _
    clear X
    refine hK.out _ _ S2 (fun hHeld => ?_)
    clear hK K
    change wpAnyH _ _ _ _ _ _ _ (a10.put (some 58) (rv2)) _
    obtain ⟨a11, e11⟩ : ∃ act, act = a10.put (some 58) (rv2) := ⟨_, rfl⟩
    rw [← e11] at h ⊢
    have z11 : a11.tmps.size = 62 := by rw [e11, put_size]; exact z10
    replace h48 : a11.tmps.getD 48 undef = .pointer (some ⟨q, 0, none⟩) := by rw [e11, put_ne _ _ _ _ (by decide)]; exact h48
    clear h52
    clear h57
    have h58 : a11.tmps.getD 58 undef = rv2 := by rw [e11]; exact put_same _ _ _ (by omega)
    clear e11 z10
    refine wpAnyH_take (i := 11) (oi := { dst := some 59, op := Op.nilCheck (Operand.tmp 48), type := 0, pos := "ref.go:32", after := #[{ on := 0, ground := Ground.data }, { on := 0, ground := Ground.phase }, { on := 1, ground := Ground.phase }, { on := 2, ground := Ground.phase }, { on := 3, ground := Ground.phase }, { on := 4, ground := Ground.phase }, { on := 5, ground := Ground.phase }, { on := 6, ground := Ground.phase }, { on := 7, ground := Ground.phase }, { on := 8, ground := Ground.phase }, { on := 9, ground := Ground.phase }, { on := 10, ground := Ground.phase }], guard := none }) (v := .pointer (some ⟨q, 0, none⟩)) rfl (by kernel_rfl) (by kernel_rfl) (by kernel_rfl) (fun _ _ _ h => h) (Or.inl ⟨by rfl, fun w1 hw => exec_nilCheck rfl (h48)⟩) hHeld ?_
    change wpAnyH _ _ _ _ _ _ _ (a11.put (some 59) (.pointer (some ⟨q, 0, none⟩))) _
    obtain ⟨a12, e12⟩ : ∃ act, act = a11.put (some 59) (.pointer (some ⟨q, 0, none⟩)) := ⟨_, rfl⟩
    rw [← e12] at h ⊢
    have z12 : a12.tmps.size = 62 := by rw [e12, put_size]; exact z11
    clear h48
    replace h58 : a12.tmps.getD 58 undef = rv2 := by rw [e12, put_ne _ _ _ _ (by decide)]; exact h58
    have h59 : a12.tmps.getD 59 undef = .pointer (some ⟨q, 0, none⟩) := by rw [e12]; exact put_same _ _ _ (by omega)
    clear e12 z11
    refine wpAnyH_take (i := 12) (oi := { dst := some 60, op := Op.fieldAddr 40 (Operand.tmp 59) 0, type := 0, pos := "ref.go:32", after := #[{ on := 11, ground := Ground.data }, { on := 0, ground := Ground.phase }, { on := 1, ground := Ground.phase }, { on := 2, ground := Ground.phase }, { on := 3, ground := Ground.phase }, { on := 4, ground := Ground.phase }, { on := 5, ground := Ground.phase }, { on := 6, ground := Ground.phase }, { on := 7, ground := Ground.phase }, { on := 8, ground := Ground.phase }, { on := 9, ground := Ground.phase }, { on := 10, ground := Ground.phase }], guard := none }) (v := .pointer (some ⟨q, 0, none⟩)) rfl (by kernel_rfl) (by kernel_rfl) (by kernel_rfl) (fun _ _ _ h => h) (Or.inl ⟨by rfl, fun w1 hw => exec_fieldAt rfl (h59) (fa_40_0 _ _)⟩) hHeld ?_
    change wpAnyH _ _ _ _ _ _ _ (a12.put (some 60) (.pointer (some ⟨q, 0, none⟩))) _
    obtain ⟨a13, e13⟩ : ∃ act, act = a12.put (some 60) (.pointer (some ⟨q, 0, none⟩)) := ⟨_, rfl⟩
    rw [← e13] at h ⊢
    have z13 : a13.tmps.size = 62 := by rw [e13, put_size]; exact z12
    replace h58 : a13.tmps.getD 58 undef = rv2 := by rw [e13, put_ne _ _ _ _ (by decide)]; exact h58
    clear h59
    have h60 : a13.tmps.getD 60 undef = .pointer (some ⟨q, 0, none⟩) := by rw [e13]; exact put_same _ _ _ (by omega)
    clear e13 z12
    refine wpAnyH_ready (rs := [13]) (by kernel_rfl) (by simp) ?_
    refine AllReadyH.cons (o := { dst := none, op := Op.store 22 (Operand.tmp 60) (Operand.tmp 58), type := 0, pos := "ref.go:32", after := #[{ on := 12, ground := Ground.data }, { on := 10, ground := Ground.data }, { on := 10, ground := Ground.chain }, { on := 0, ground := Ground.phase }, { on := 1, ground := Ground.phase }, { on := 2, ground := Ground.phase }, { on := 3, ground := Ground.phase }, { on := 4, ground := Ground.phase }, { on := 5, ground := Ground.phase }, { on := 6, ground := Ground.phase }, { on := 7, ground := Ground.phase }, { on := 8, ground := Ground.phase }, { on := 9, ground := Ground.phase }, { on := 10, ground := Ground.phase }], guard := none }) rfl (fun K hK => ?_) AllReadyH.nil
    have X := exec_store (P := Tryd.prog) (a := a13) (o := { dst := none, op := Op.store 22 (Operand.tmp 60) (Operand.tmp 58), type := 0, pos := "ref.go:32", after := #[{ on := 12, ground := Ground.data }, { on := 10, ground := Ground.data }, { on := 10, ground := Ground.chain }, { on := 0, ground := Ground.phase }, { on := 1, ground := Ground.phase }, { on := 2, ground := Ground.phase }, { on := 3, ground := Ground.phase }, { on := 4, ground := Ground.phase }, { on := 5, ground := Ground.phase }, { on := 6, ground := Ground.phase }, { on := 7, ground := Ground.phase }, { on := 8, ground := Ground.phase }, { on := 9, ground := Ground.phase }, { on := 10, ground := Ground.phase }], guard := none }) rfl (h60) (h58) H13
    rw [if_pos (show Region.wanted { dst := none, op := Op.store 22 (Operand.tmp 60) (Operand.tmp 58), type := 0, pos := "ref.go:32", after := #[{ on := 12, ground := Ground.data }, { on := 10, ground := Ground.data }, { on := 10, ground := Ground.chain }, { on := 0, ground := Ground.phase }, { on := 1, ground := Ground.phase }, { on := 2, ground := Ground.phase }, { on := 3, ground := Ground.phase }, { on := 4, ground := Ground.phase }, { on := 5, ground := Ground.phase }, { on := 6, ground := Ground.phase }, { on := 7, ground := Ground.phase }, { on := 8, ground := Ground.phase }, { on := 9, ground := Ground.phase }, { on := 10, ground := Ground.phase }], guard := none } (yielded ring13_ops (a13).tmps) = true from rfl), Oper.wp, X]
    show K a13 w3
    clear X
    refine hK.out _ _ S3 (fun hHeld => ?_)
    clear hK K
    clear h58
    clear h60
    exact wpAnyH_done (by kernel_rfl) (NoPanic.normal (h _ rfl)) _
def law7_ops : Array Oper := #[{ dst := some 36, op := Op.move (Operand.tmp 5), type := 22, pos := "law.go:21", after := #[], guard := none }, { dst := some 37, op := Op.move (Operand.tmp 10), type := 3, pos := "law.go:21", after := #[], guard := none }, { dst := some 38, op := Op.indexAddr 22 (Operand.tmp 36) (Operand.tmp 37), type := 0, pos := "law.go:21", after := #[{ on := 0, ground := Ground.data }, { on := 1, ground := Ground.data }], guard := none }, { dst := some 39, op := Op.load 26 (Operand.tmp 38), type := 26, pos := "law.go:21", after := #[{ on := 2, ground := Ground.data }], guard := none }, { dst := some 40, op := Op.move (Operand.tmp 1), type := 22, pos := "law.go:21", after := #[], guard := none }, { dst := some 41, op := Op.move (Operand.tmp 10), type := 3, pos := "law.go:21", after := #[], guard := none }, { dst := some 42, op := Op.indexAddr 22 (Operand.tmp 40) (Operand.tmp 41), type := 0, pos := "law.go:21", after := #[{ on := 4, ground := Ground.data }, { on := 5, ground := Ground.data }], guard := none }, { dst := some 43, op := Op.load 26 (Operand.tmp 42), type := 26, pos := "law.go:21", after := #[{ on := 6, ground := Ground.data }], guard := none }, { dst := some 44, op := Op.binOp BinOp.neq 26 (Operand.tmp 39) (Operand.tmp 43) 26, type := 4, pos := "law.go:21", after := #[{ on := 3, ground := Ground.data }, { on := 7, ground := Ground.data }], guard := none }]
theorem law7 (pb po qb qo : Nat) (i : Int) (ov sv : Value) (cs : Array Value) (S : World → Prop) (a : Act) (w : World) (Q : Exit → Act → World → Prop) (hsz : a.tmps.size = 75)
    (h5 : a.tmps.getD 5 undef = ov)
    (h1 : a.tmps.getD 1 undef = sv)
    (h10 : a.tmps.getD 10 undef = .int .i64 i)
    (hS0 : S w.drew)
    (H2 : ∀ wx, (Instr.indexAt 22 (ov) (.int .i64 i)).run Tryd.prog wx = .ok (.pointer (some ⟨pb, po, none⟩)) wx)
    (H3 : ∀ wx, S wx → (Instr.loadAt 26 (.pointer (some ⟨pb, po, none⟩))).run Tryd.prog wx = .ok (.agg cs) wx)
    (H6 : ∀ wx, (Instr.indexAt 22 (sv) (.int .i64 i)).run Tryd.prog wx = .ok (.pointer (some ⟨qb, qo, none⟩)) wx)
    (H7 : ∀ wx, S wx → (Instr.loadAt 26 (.pointer (some ⟨qb, qo, none⟩))).run Tryd.prog wx = .ok (.agg cs) wx)
    (H8 : ∀ wx, (eqGuard BinOp.neq 26 (Operand.tmp 39) (Operand.tmp 43) (.agg cs) (.agg cs)).run Tryd.prog wx = .ok () wx) (I8 : ∀ wx, S wx → (binOp BinOp.neq 26 (.agg cs) (.agg cs)).run Tryd.prog wx = .ok (.bool false) wx)
    (h : ∀ (a' : Act), a' = (((((((((a).put (some 36) (ov)).put (some 37) (.int .i64 i)).put (some 38) (.pointer (some ⟨pb, po, none⟩))).put (some 39) (.agg cs)).put (some 40) (sv)).put (some 41) (.int .i64 i)).put (some 42) (.pointer (some ⟨qb, qo, none⟩))).put (some 43) (.agg cs)).put (some 44) (.bool false) → Q .normal a' w.drew) :
    (Code.region 7 law7_ops true).wp Tryd.prog Q a w := by
  refine wp_region_noPanic ?_
  refine wp_region_held_drew (S := S) (by kernel_rfl) hS0 (fun hHeld => ?_)
  refine wpAnyH_take (i := 0) (oi := { dst := some 36, op := Op.move (Operand.tmp 5), type := 22, pos := "law.go:21", after := #[], guard := none }) (v := ov) rfl (by kernel_rfl) (by kernel_rfl) (by kernel_rfl) (fun _ _ _ h => h) (Or.inl ⟨by rfl, fun w1 hw => exec_move rfl (h5)⟩) hHeld ?_
  change wpAnyH _ _ _ _ _ _ _ (a.put (some 36) (ov)) _
  obtain ⟨a1, e1⟩ : ∃ act, act = a.put (some 36) (ov) := ⟨_, rfl⟩
  rw [← e1] at h ⊢
  have z1 : a1.tmps.size = 75 := by rw [e1, put_size]; exact hsz
  clear h5
  replace h1 : a1.tmps.getD 1 undef = sv := by rw [e1, put_ne _ _ _ _ (by decide)]; exact h1
  replace h10 : a1.tmps.getD 10 undef = .int .i64 i := by rw [e1, put_ne _ _ _ _ (by decide)]; exact h10
  have h36 : a1.tmps.getD 36 undef = ov := by rw [e1]; exact put_same _ _ _ (by omega)
  clear e1 hsz
  refine wpAnyH_take (i := 1) (oi := { dst := some 37, op := Op.move (Operand.tmp 10), type := 3, pos := "law.go:21", after := #[], guard := none }) (v := .int .i64 i) rfl (by kernel_rfl) (by kernel_rfl) (by kernel_rfl) (fun _ _ _ h => h) (Or.inl ⟨by rfl, fun w1 hw => exec_move rfl (h10)⟩) hHeld ?_
  change wpAnyH _ _ _ _ _ _ _ (a1.put (some 37) (.int .i64 i)) _
  obtain ⟨a2, e2⟩ : ∃ act, act = a1.put (some 37) (.int .i64 i) := ⟨_, rfl⟩
  rw [← e2] at h ⊢
  have z2 : a2.tmps.size = 75 := by rw [e2, put_size]; exact z1
  replace h1 : a2.tmps.getD 1 undef = sv := by rw [e2, put_ne _ _ _ _ (by decide)]; exact h1
  replace h10 : a2.tmps.getD 10 undef = .int .i64 i := by rw [e2, put_ne _ _ _ _ (by decide)]; exact h10
  replace h36 : a2.tmps.getD 36 undef = ov := by rw [e2, put_ne _ _ _ _ (by decide)]; exact h36
  have h37 : a2.tmps.getD 37 undef = .int .i64 i := by rw [e2]; exact put_same _ _ _ (by omega)
  clear e2 z1
  refine wpAnyH_take (i := 2) (oi := { dst := some 38, op := Op.indexAddr 22 (Operand.tmp 36) (Operand.tmp 37), type := 0, pos := "law.go:21", after := #[{ on := 0, ground := Ground.data }, { on := 1, ground := Ground.data }], guard := none }) (v := .pointer (some ⟨pb, po, none⟩)) rfl (by kernel_rfl) (by kernel_rfl) (by kernel_rfl) (fun _ _ _ h => h) (Or.inl ⟨by rfl, fun w1 hw => exec_indexAt rfl (h36) (h37) (H2 _)⟩) hHeld ?_
  change wpAnyH _ _ _ _ _ _ _ (a2.put (some 38) (.pointer (some ⟨pb, po, none⟩))) _
  obtain ⟨a3, e3⟩ : ∃ act, act = a2.put (some 38) (.pointer (some ⟨pb, po, none⟩)) := ⟨_, rfl⟩
  rw [← e3] at h ⊢
  have z3 : a3.tmps.size = 75 := by rw [e3, put_size]; exact z2
  replace h1 : a3.tmps.getD 1 undef = sv := by rw [e3, put_ne _ _ _ _ (by decide)]; exact h1
  replace h10 : a3.tmps.getD 10 undef = .int .i64 i := by rw [e3, put_ne _ _ _ _ (by decide)]; exact h10
  clear h36
  clear h37
  have h38 : a3.tmps.getD 38 undef = .pointer (some ⟨pb, po, none⟩) := by rw [e3]; exact put_same _ _ _ (by omega)
  clear e3 z2
  refine wpAnyH_take (i := 3) (oi := { dst := some 39, op := Op.load 26 (Operand.tmp 38), type := 26, pos := "law.go:21", after := #[{ on := 2, ground := Ground.data }], guard := none }) (v := .agg cs) rfl (by kernel_rfl) (by kernel_rfl) (by kernel_rfl) (fun _ _ _ h => h) (Or.inl ⟨by rfl, fun w1 hw => exec_load rfl (h38) (H3 _ hw)⟩) hHeld ?_
  change wpAnyH _ _ _ _ _ _ _ (a3.put (some 39) (.agg cs)) _
  obtain ⟨a4, e4⟩ : ∃ act, act = a3.put (some 39) (.agg cs) := ⟨_, rfl⟩
  rw [← e4] at h ⊢
  have z4 : a4.tmps.size = 75 := by rw [e4, put_size]; exact z3
  replace h1 : a4.tmps.getD 1 undef = sv := by rw [e4, put_ne _ _ _ _ (by decide)]; exact h1
  replace h10 : a4.tmps.getD 10 undef = .int .i64 i := by rw [e4, put_ne _ _ _ _ (by decide)]; exact h10
  clear h38
  have h39 : a4.tmps.getD 39 undef = .agg cs := by rw [e4]; exact put_same _ _ _ (by omega)
  clear e4 z3
  refine wpAnyH_take (i := 4) (oi := { dst := some 40, op := Op.move (Operand.tmp 1), type := 22, pos := "law.go:21", after := #[], guard := none }) (v := sv) rfl (by kernel_rfl) (by kernel_rfl) (by kernel_rfl) (fun _ _ _ h => h) (Or.inl ⟨by rfl, fun w1 hw => exec_move rfl (h1)⟩) hHeld ?_
  change wpAnyH _ _ _ _ _ _ _ (a4.put (some 40) (sv)) _
  obtain ⟨a5, e5⟩ : ∃ act, act = a4.put (some 40) (sv) := ⟨_, rfl⟩
  rw [← e5] at h ⊢
  have z5 : a5.tmps.size = 75 := by rw [e5, put_size]; exact z4
  clear h1
  replace h10 : a5.tmps.getD 10 undef = .int .i64 i := by rw [e5, put_ne _ _ _ _ (by decide)]; exact h10
  replace h39 : a5.tmps.getD 39 undef = .agg cs := by rw [e5, put_ne _ _ _ _ (by decide)]; exact h39
  have h40 : a5.tmps.getD 40 undef = sv := by rw [e5]; exact put_same _ _ _ (by omega)
  clear e5 z4
  refine wpAnyH_take (i := 5) (oi := { dst := some 41, op := Op.move (Operand.tmp 10), type := 3, pos := "law.go:21", after := #[], guard := none }) (v := .int .i64 i) rfl (by kernel_rfl) (by kernel_rfl) (by kernel_rfl) (fun _ _ _ h => h) (Or.inl ⟨by rfl, fun w1 hw => exec_move rfl (h10)⟩) hHeld ?_
  change wpAnyH _ _ _ _ _ _ _ (a5.put (some 41) (.int .i64 i)) _
  obtain ⟨a6, e6⟩ : ∃ act, act = a5.put (some 41) (.int .i64 i) := ⟨_, rfl⟩
  rw [← e6] at h ⊢
  have z6 : a6.tmps.size = 75 := by rw [e6, put_size]; exact z5
  clear h10
  replace h39 : a6.tmps.getD 39 undef = .agg cs := by rw [e6, put_ne _ _ _ _ (by decide)]; exact h39
  replace h40 : a6.tmps.getD 40 undef = sv := by rw [e6, put_ne _ _ _ _ (by decide)]; exact h40
  have h41 : a6.tmps.getD 41 undef = .int .i64 i := by rw [e6]; exact put_same _ _ _ (by omega)
  clear e6 z5
  refine wpAnyH_take (i := 6) (oi := { dst := some 42, op := Op.indexAddr 22 (Operand.tmp 40) (Operand.tmp 41), type := 0, pos := "law.go:21", after := #[{ on := 4, ground := Ground.data }, { on := 5, ground := Ground.data }], guard := none }) (v := .pointer (some ⟨qb, qo, none⟩)) rfl (by kernel_rfl) (by kernel_rfl) (by kernel_rfl) (fun _ _ _ h => h) (Or.inl ⟨by rfl, fun w1 hw => exec_indexAt rfl (h40) (h41) (H6 _)⟩) hHeld ?_
  change wpAnyH _ _ _ _ _ _ _ (a6.put (some 42) (.pointer (some ⟨qb, qo, none⟩))) _
  obtain ⟨a7, e7⟩ : ∃ act, act = a6.put (some 42) (.pointer (some ⟨qb, qo, none⟩)) := ⟨_, rfl⟩
  rw [← e7] at h ⊢
  have z7 : a7.tmps.size = 75 := by rw [e7, put_size]; exact z6
  replace h39 : a7.tmps.getD 39 undef = .agg cs := by rw [e7, put_ne _ _ _ _ (by decide)]; exact h39
  clear h40
  clear h41
  have h42 : a7.tmps.getD 42 undef = .pointer (some ⟨qb, qo, none⟩) := by rw [e7]; exact put_same _ _ _ (by omega)
  clear e7 z6
  refine wpAnyH_take (i := 7) (oi := { dst := some 43, op := Op.load 26 (Operand.tmp 42), type := 26, pos := "law.go:21", after := #[{ on := 6, ground := Ground.data }], guard := none }) (v := .agg cs) rfl (by kernel_rfl) (by kernel_rfl) (by kernel_rfl) (fun _ _ _ h => h) (Or.inl ⟨by rfl, fun w1 hw => exec_load rfl (h42) (H7 _ hw)⟩) hHeld ?_
  change wpAnyH _ _ _ _ _ _ _ (a7.put (some 43) (.agg cs)) _
  obtain ⟨a8, e8⟩ : ∃ act, act = a7.put (some 43) (.agg cs) := ⟨_, rfl⟩
  rw [← e8] at h ⊢
  have z8 : a8.tmps.size = 75 := by rw [e8, put_size]; exact z7
  replace h39 : a8.tmps.getD 39 undef = .agg cs := by rw [e8, put_ne _ _ _ _ (by decide)]; exact h39
  clear h42
  have h43 : a8.tmps.getD 43 undef = .agg cs := by rw [e8]; exact put_same _ _ _ (by omega)
  clear e8 z7
  refine wpAnyH_take (i := 8) (oi := { dst := some 44, op := Op.binOp BinOp.neq 26 (Operand.tmp 39) (Operand.tmp 43) 26, type := 4, pos := "law.go:21", after := #[{ on := 3, ground := Ground.data }, { on := 7, ground := Ground.data }], guard := none }) (v := .bool false) rfl (by kernel_rfl) (by kernel_rfl) (by kernel_rfl) (fun _ _ _ h => h) (Or.inl ⟨by rfl, fun w1 hw => exec_binOp rfl (h39) (h43) (H8 _) (I8 _ hw)⟩) hHeld ?_
  change wpAnyH _ _ _ _ _ _ _ (a8.put (some 44) (.bool false)) _
  obtain ⟨a9, e9⟩ : ∃ act, act = a8.put (some 44) (.bool false) := ⟨_, rfl⟩
  rw [← e9] at h ⊢
  have z9 : a9.tmps.size = 75 := by rw [e9, put_size]; exact z8
  clear h39
  clear h43
  clear e9 z8
  exact wpAnyH_done (by kernel_rfl) (NoPanic.normal (h _ rfl)) _
end Go.Proofs.YthlcmijekgjgjaaDoor
