import Derived.Test.YtphpaaajfcbafaaDoorPg
namespace Go.Proofs.YtphpaaajfcbafaaDoor.K
open Go.RowKit
set_option linter.unusedVariables false
set_option linter.unusedSimpArgs false

/-- Values of one cell that lie in memory. -/
def Vals (w : World) (a : Option Addr) (X : List Value) : Prop := X = [] ∨ ∃ b off, a = some ⟨b, off, none⟩ ∧ ∀ j u, X[j]? = some u → w.cell? ⟨b, off + j, none⟩ = some u
/-- A row of the call's own. -/
def OwnV (w : World) (base : Nat) (e : TypeId) (v : Value) (X : List Value) : Prop := w.ownsRow base e 1 v X.length X
theorem Vals.below {w w' : World} {a : Option Addr} {X : List Value} (h : Vals w a X) (hb : Below w.heap.size w w') : Vals w' a X := by
  rcases h with rfl | ⟨b, off, rfl, hc⟩
  · exact .inl rfl
  · exact .inr ⟨b, off, rfl, fun j u hj => (hb.cell (p := ⟨b, off + j, none⟩) (block_lt_of_cell (hc j u hj))).trans (hc j u hj)⟩
theorem OwnV.below {w w' : World} {base : Nat} {e : TypeId} {v : Value} {X : List Value} (h : OwnV w base e v X) (hb : Below w.heap.size w w') : OwnV w' base e v X := by
  refine ⟨h.1, ?_⟩
  rcases h.2 with hn | ⟨g, cap, cur, rfl, hbg, hg, rest⟩
  · exact .inl hn
  · exact .inr ⟨g, cap, cur, rfl, hbg, by rw [hb.block g (Array.getElem?_eq_some_iff.1 hg).1]; exact hg, rest⟩
theorem OwnV.open {w : World} {base : Nat} {e : TypeId} {v : Value} {X : List Value} (h : OwnV w base e v X) :
    ∃ a cap, v = .slice a X.length cap ∧ X.length ≤ cap ∧ Vals w a X ∧ (a = none → X = [] ∧ cap = 0) := by
  rcases h.2 with ⟨rfl, hn⟩ | ⟨g, cap, cur, rfl, hbg, hg, hnc, hcm, hcs, htake⟩
  · obtain rfl : X = [] := List.eq_nil_of_length_eq_zero hn
    exact ⟨none, 0, rfl, Nat.le_refl _, .inl rfl, fun _ => ⟨rfl, rfl⟩⟩
  · refine ⟨some ⟨g, 0, none⟩, cap, rfl, hnc, .inr ⟨g, 0, rfl, fun j u hj => ?_⟩, fun h => by cases h⟩
    rw [Nat.zero_add, cell_of_row w g j cur e (0, 0) hg]
    rw [← htake, List.getElem?_take] at hj
    split at hj
    · simpa using hj
    · cases hj
theorem run_appV (T e : TypeId) (z : Value) (ht : Tryd.prog.underlying T = some (.slice e)) (hi : (Tryd.prog.info? e).map (fun i => (i.zero, i.size, i.bytes)) = some (some z, 1, 8)) (hz1 : z.cells.size = 1)
    (w : World) (base : Nat) (ty : TypeId) (v : Value) (L : List Value) (a : Option Addr) (M : List Value) (c : Nat) (hown : OwnV w base e v L) (hb : Vals w a M) (h1 : ∀ u ∈ M, u.oneCell' = true)
    (h : L.length + M.length ≤ 28000000000000) (hbase : base ≤ w.heap.size) :
    ∃ v' w', (Builtin.append_ #[T, T] ty #[v, .slice a M.length c]).run Tryd.prog w = .ok v' w' ∧ OwnV w' base e v' (L ++ M) ∧ w.grownBy w' v.ownBlock ∧ (v'.ownBlock = v.ownBlock ∨ v'.ownBlock = some w.heap.size) := by
  obtain ⟨i, hi, hz, hs, hby⟩ := info_parts hi
  cases a with
  | some ad =>
    have hnews : ∀ j u, M[j]? = some u → w.cell? (ad.add j) = some u := fun j u hj => by
      rcases hb with rfl | ⟨b, off, e, hc⟩
      · simp at hj
      · cases e
        rw [Addr.add_mid]
        exact hc j u hj
    obtain ⟨v', w', hr, h2, h3, h5⟩ := app_at (P := Tryd.prog) w base T ty e i z 1 8 ht hi hz hs hby hz1 (by decide) v L.length L hown ad M.length c M (by omega) hnews h1 (by unfold maxLen; omega) (by omega) hbase
    refine ⟨v', w', hr, ?_, h3, h5⟩
    unfold OwnV
    rw [List.length_append]
    exact h2
  | none =>
    obtain rfl : M = [] := by
      rcases hb with rfl | ⟨b, off, e, _⟩
      · rfl
      · cases e
    rcases hown.2 with ⟨rfl, hn⟩ | ⟨g, cap, cur, rfl, hbg, hg, hnc, rest⟩
    · refine ⟨.slice none 0 0, w, ?_, by rw [List.append_nil]; exact hown, ⟨rfl, rfl, rfl, Nat.le_refl _, fun _ _ _ => rfl⟩, .inl rfl⟩
      simp [Builtin.append_, run_underlying ht, sizeOf, typeInfo, hi, Builtin.lenOf, Builtin.firstCells, loadCells, loadCellsFrom]
    · refine ⟨.slice (some ⟨g, 0, none⟩) L.length cap, w, ?_, by rw [List.append_nil]; exact hown, ⟨rfl, rfl, rfl, Nat.le_refl _, fun _ _ _ => rfl⟩, .inl rfl⟩
      simp [Builtin.append_, run_underlying ht, sizeOf, typeInfo, hi, Builtin.lenOf, Builtin.firstCells, hnc, storeCells]
theorem wpList_appV {ops : Array Oper} {rest : List Oper} {o : Oper} {a : Act} {w : World} {Q : Exit → Act → World → Prop} (hgd : o.guard = none) (s x : Operand) (T e : TypeId) (z : Value) (ht : Tryd.prog.underlying T = some (.slice e)) (hi : (Tryd.prog.info? e).map (fun i => (i.zero, i.size, i.bytes)) = some (some z, 1, 8)) (hz1 : z.cells.size = 1)
    (ho : o.op = .call { callee := .builtin .append, args := #[s, x], argTypes := #[T, T] }) (base : Nat) (v : Value) (L : List Value) (hs : a.eval s = v) (hown : OwnV w base e v L)
    (aa : Option Addr) (m c : Nat) (M : List Value) (hx : a.eval x = .slice aa m c) (hm : M.length = m) (hb : Vals w aa M) (h1 : ∀ u ∈ M, u.oneCell' = true) (hlen : L.length + M.length ≤ 28000000000000) (hbase : base ≤ w.heap.size)
    (h : ∀ v' w', OwnV w' base e v' (L ++ M) → w.grownBy w' v.ownBlock → (v'.ownBlock = v.ownBlock ∨ v'.ownBlock = some w.heap.size) → wpList Tryd.prog ops Q rest (a.put o.dst v') w') : wpList Tryd.prog ops Q (o :: rest) a w :=
  wpList_plain hgd fun _ hK => by
    subst hm
    obtain ⟨v', w', hr, h2, h3, h4⟩ := run_appV T e z ht hi hz1 w base o.type v L aa M c hown hb h1 hlen hbase
    unfold Oper.wp execOp
    simp only [ho, resolve, invoke, builtin, Sem.run_bind, Sem.run_pure, Result.andThen_ok, List.map_toArray, List.map_cons, List.map_nil, hs, hx, hr]
    exact hK _ _ (h v' w' h2 h3 h4)
def uC (L : List Nat) : List Value := L.map (fun (x : Nat) => Value.int .u64 (x : Int))
def sC (D : List Int) : List Value := D.map (fun x => Value.int .i64 x)
theorem uC_len (L : List Nat) : (uC L).length = L.length := by simp [uC]
theorem sC_len (L : List Int) : (sC L).length = L.length := by simp [sC]
theorem uC_one (L : List Nat) : ∀ u ∈ uC L, u.oneCell' = true := by
  intro v hv
  simp [uC] at hv
  obtain ⟨b, _, rfl⟩ := hv
  rfl
theorem sC_one (L : List Int) : ∀ u ∈ sC L, u.oneCell' = true := by
  intro v hv
  simp [sC] at hv
  obtain ⟨b, _, rfl⟩ := hv
  rfl
theorem uC_get (L : List Nat) (j : Nat) (h : j < L.length) : (uC L)[j]? = some (.int .u64 ((L.getD j 0 : Nat) : Int)) := by simp [uC, h]
theorem sC_get (L : List Int) (j : Nat) (h : j < L.length) : (sC L)[j]? = some (.int .i64 (L.getD j 0)) := by simp [sC, h]
theorem vals_nums {w : World} {a : Option Addr} {L : List Nat} (h : Vals w a (uC L)) : Nums w a L := by
  rcases h with e | ⟨b, off, rfl, hc⟩
  · exact .inl (List.eq_nil_of_length_eq_zero (by rw [← uC_len, e]; rfl))
  · exact .inr ⟨b, off, rfl, fun j hj => hc j _ (uC_get L j hj)⟩
theorem nums_vals {w : World} {a : Option Addr} {L : List Nat} (h : Nums w a L) : Vals w a (uC L) := by
  rcases h with rfl | ⟨b, off, rfl, hc⟩
  · exact .inl rfl
  · refine .inr ⟨b, off, rfl, fun j u hj => ?_⟩
    have hl := (List.getElem?_eq_some_iff.1 hj).1
    rw [uC_len] at hl
    rw [uC_get L j hl] at hj
    cases hj
    exact hc j hl
theorem vals_sgn {w : World} {a : Option Addr} {L : List Int} (h : Vals w a (sC L)) : Sgn w a L := by
  rcases h with e | ⟨b, off, rfl, hc⟩
  · exact .inl (List.eq_nil_of_length_eq_zero (by rw [← sC_len, e]; rfl))
  · exact .inr ⟨b, off, rfl, fun j hj => hc j _ (sC_get L j hj)⟩
theorem sgn_vals {w : World} {a : Option Addr} {L : List Int} (h : Sgn w a L) : Vals w a (sC L) := by
  rcases h with rfl | ⟨b, off, rfl, hc⟩
  · exact .inl rfl
  · refine .inr ⟨b, off, rfl, fun j u hj => ?_⟩
    have hl := (List.getElem?_eq_some_iff.1 hj).1
    rw [sC_len] at hl
    rw [sC_get L j hl] at hj
    cases hj
    exact hc j hl
theorem vals_lit (w : World) (x : Value) (t : TypeId) : Vals (w.alloc (.cells #[x] t)) (some ⟨w.heap.size, 0, none⟩) [x] :=
  .inr ⟨w.heap.size, 0, rfl, fun j u hj => by
    have hl := (List.getElem?_eq_some_iff.1 hj).1
    obtain rfl : j = 0 := by simp at hl; omega
    rw [cell_of_row _ w.heap.size 0 _ _ _ (heap_alloc_new _ _)]
    simpa using hj⟩
theorem ownV_empty (w : World) (e : TypeId) : OwnV (w.alloc (.cells #[] e)) w.heap.size e (.slice (some ⟨w.heap.size, 0, none⟩) 0 0) [] :=
  ⟨rfl, .inr ⟨w.heap.size, 0, #[], rfl, Nat.le_refl _, heap_alloc_new _ _, by simp, by simp [maxLen], rfl, rfl⟩⟩
theorem ownV_nil (w : World) (base : Nat) (e : TypeId) : OwnV w base e (.slice none 0 0) [] := World.ownsRow_nil w base e 1
theorem below_ownV {w w1 w2 : World} {base : Nat} {e : TypeId} {v : Value} {L : List Value} (hb : Below base w w1) (ho : OwnV w1 base e v L) (gr : w1.grownBy w2 v.ownBlock) (hz : base ≤ w1.heap.size) : Below base w w2 :=
  hb.grown gr hz (fun k hk => (World.ownsRow.lt ho k hk).1)
theorem info2 : (Tryd.prog.info? 2).map (fun i => (i.zero, i.size, i.bytes)) = some (some (.int .i64 0), 1, 8) := by kernel_rfl
def tk (D : List Int) (k : Nat) : List Nat := (dls D).take k
theorem tk_succ (D : List Int) (k : Nat) (h : k < D.length) : tk D (k + 1) = tk D k ++ [dl D k] := by
  unfold tk
  rw [List.take_succ_eq_append_getElem (by rw [dls_len]; exact h)]
  congr 2
  simp [dls]
theorem tk_len (D : List Int) (k : Nat) (h : k ≤ D.length) : (tk D k).length = k := by
  unfold tk
  rw [List.length_take, dls_len]
  omega
end Go.Proofs.YtphpaaajfcbafaaDoor.K
