import Derived.Test.YtldlljobofnmmabDoorXe
import Derived.Great.BuildSlice
import Derived.Deep.DeepAppendWide
import Derived.Maps.AppendAt
import Derived.OwnWalk
import Derived.Deep.RegionLaw
namespace Go.Proofs.YtldlljobofnmmabDoor
open Go.RowKit
set_option linter.unusedVariables false
set_option linter.unusedSimpArgs false

def IdsAt (w : World) (a : Option Addr) (L : List IdK) : Prop := L = [] ∨ ∃ b off, a = some ⟨b, off, none⟩ ∧ b < w.heap.size ∧ ∀ i h, L[i]? = some h → w.rangeAt b (off + 33 * i) (IdK.c h)
theorem IdsAt.below {w w' : World} {a : Option Addr} {L : List IdK} (h : IdsAt w a L) (hb : Below w.heap.size w w') : IdsAt w' a L := by
  rcases h with h | ⟨b, off, e, hl, hr⟩
  · exact .inl h
  · exact .inr ⟨b, off, e, Nat.lt_of_lt_of_le hl hb.size, fun i x hx => rangeAt_keep (hr i x hx) (hb.block b hl)⟩
/-- Ids, cell by cell. -/
def flatI (L : List IdK) : List Value := L.flatMap IdK.c
theorem flatI_len : ∀ {L : List IdK}, (∀ h ∈ L, h.ok) → (flatI L).length = 33 * L.length
  | [], _ => rfl
  | x :: L, ok => by
    have := flatI_len (L := L) (fun h hh => ok h (by simp [hh]))
    simp only [flatI, List.flatMap_cons, List.length_append, IdK.len (ok x (by simp)), List.length_cons] at this ⊢
    omega
theorem flatI_get : ∀ {L : List IdK}, (∀ h ∈ L, h.ok) → ∀ {i : Nat} {h : IdK}, L[i]? = some h → ∀ {j : Nat} {v : Value}, (IdK.c h)[j]? = some v → (flatI L)[33 * i + j]? = some v
  | x :: L, ok, 0, h, hi, j, v, hj => by
    simp only [List.getElem?_cons_zero, Option.some.injEq] at hi
    subst hi
    have hl := (List.getElem?_eq_some_iff.1 hj).1
    rw [Nat.mul_zero, Nat.zero_add, flatI, List.flatMap_cons, List.getElem?_append_left hl]
    exact hj
  | x :: L, ok, i + 1, h, hi, j, v, hj => by
    simp only [List.getElem?_cons_succ] at hi
    have := flatI_get (L := L) (fun h hh => ok h (by simp [hh])) hi hj
    have l := IdK.len (ok x (by simp))
    rw [flatI, List.flatMap_cons, List.getElem?_append_right (by omega), l, show 33 * (i + 1) + j - 33 = 33 * i + j by omega]
    exact this
  | [], _, i, h, hi, _, _, _ => by simp at hi
theorem flatI_inv : ∀ {L : List IdK}, (∀ h ∈ L, h.ok) → ∀ {p : Nat} {u : Value}, (flatI L)[p]? = some u → ∃ i h j, p = 33 * i + j ∧ L[i]? = some h ∧ (IdK.c h)[j]? = some u
  | [], _, p, u, hp => by simp [flatI] at hp
  | x :: L, ok, p, u, hp => by
    have l := IdK.len (ok x (by simp))
    rw [flatI, List.flatMap_cons, List.getElem?_append] at hp
    by_cases h : p < (IdK.c x).length
    · rw [if_pos h] at hp
      exact ⟨0, x, p, by omega, rfl, hp⟩
    · rw [if_neg h] at hp
      obtain ⟨i, y, j, e, hi, hj⟩ := flatI_inv (L := L) (fun h hh => ok h (by simp [hh])) hp
      exact ⟨i + 1, y, j, by omega, hi, hj⟩
theorem flatI_one (L : List IdK) : ∀ u ∈ flatI L, u.oneCell' = true := by
  intro u hu
  simp only [flatI, List.mem_flatMap] at hu
  obtain ⟨h, _, hv⟩ := hu
  exact IdK.one h u hv
theorem flatI_app (L M : List IdK) : flatI (L ++ M) = flatI L ++ flatI M := by simp [flatI]
/-- A row of Ids of the call's own. -/
def OwnI (w : World) (base : Nat) (v : Value) (L : List IdK) : Prop := w.ownsRow base 32 33 v L.length (flatI L)
theorem OwnI.below {w w' : World} {base : Nat} {v : Value} {L : List IdK} (h : OwnI w base v L) (hb : Below w.heap.size w w') : OwnI w' base v L := by
  refine ⟨h.1, ?_⟩
  rcases h.2 with hn | ⟨g, cap, cur, rfl, hbg, hg, rest⟩
  · exact .inl hn
  · exact .inr ⟨g, cap, cur, rfl, hbg, by rw [hb.block g (Array.getElem?_eq_some_iff.1 hg).1]; exact hg, rest⟩
theorem OwnI.keep {w w' : World} {base : Nat} {v : Value} {L : List IdK} (h : OwnI w base v L) (hk : ∀ k, v.ownBlock = some k → w'.heap[k]? = w.heap[k]?) : OwnI w' base v L := by
  refine ⟨h.1, ?_⟩
  rcases h.2 with hn | ⟨g, cap, cur, rfl, hbg, hg, rest⟩
  · exact .inl hn
  · exact .inr ⟨g, cap, cur, rfl, hbg, by rw [hk g rfl]; exact hg, rest⟩
theorem OwnI.open {w : World} {base : Nat} {v : Value} {L : List IdK} (h : OwnI w base v L) (ok : ∀ h ∈ L, h.ok) : ∃ a c, v = .slice a L.length c ∧ IdsAt w a L ∧ L.length ≤ c := by
  rcases h.2 with ⟨rfl, hn⟩ | ⟨g, cap, cur, rfl, hbg, hg, hnc, hcm, hcs, htake⟩
  · obtain rfl : L = [] := List.eq_nil_of_length_eq_zero hn
    exact ⟨none, 0, rfl, .inl rfl, Nat.le_refl _⟩
  · refine ⟨some ⟨g, 0, none⟩, cap, rfl, .inr ⟨g, 0, rfl, (Array.getElem?_eq_some_iff.1 hg).1, fun i x hx j u hj => ?_⟩, hnc⟩
    have e := flatI_get ok hx hj
    rw [Nat.zero_add, cell_of_row w g _ cur 32 (0, 0) hg]
    rw [← htake, List.getElem?_take] at e
    split at e
    · simpa using e
    · cases e
theorem infoI : (Tryd.prog.info? 32).map (fun i => (i.zero, i.size, i.bytes)) = some (some (.agg (IdK.c zId).toArray), 33, 40) := by kernel_rfl
theorem zcellsI : (Value.agg (IdK.c zId).toArray).cells.size = 33 := by
  show (IdK.c zId).toArray.size = 33
  rw [List.size_toArray, IdK.len zId_ok]
theorem run_appI (w : World) (base : Nat) (v : Value) (L : List IdK) (a : Option Addr) (M : List IdK) (c : Nat) (hown : OwnI w base v L) (hb : IdsAt w a M) (ok : ∀ h ∈ M, h.ok) (h : L.length + M.length ≤ 5600000000000) (hbase : base ≤ w.heap.size) :
    ∃ v' w', (Builtin.append_ #[70, 70] 70 #[v, .slice a M.length c]).run Tryd.prog w = .ok v' w' ∧ OwnI w' base v' (L ++ M) ∧ w.grownBy w' v.ownBlock ∧ (v'.ownBlock = v.ownBlock ∨ v'.ownBlock = some w.heap.size) := by
  obtain ⟨i, hi, hz, hs, hby⟩ := info_parts infoI
  cases a with
  | some ad =>
    have hnews : ∀ j u, (flatI M)[j]? = some u → w.cell? (ad.add j) = some u := fun j u hj => by
      rcases hb with rfl | ⟨b, off, e, _, hc⟩
      · simp [flatI] at hj
      · cases e
        obtain ⟨k, x, r, rfl, hx, hr⟩ := flatI_inv ok hj
        rw [Addr.add_mid, ← Nat.add_assoc]
        exact hc k x hx r u hr
    obtain ⟨v', w', hr, h2, h3, h5⟩ := app_at (P := Tryd.prog) w base 70 70 32 i _ 33 40 Tryd.underlying70 hi hz hs hby zcellsI (by decide) v L.length (flatI L) hown ad M.length c (flatI M) (by rw [flatI_len ok, Nat.mul_comm]) hnews (flatI_one M) (by unfold maxLen; omega) (by omega) hbase
    refine ⟨v', w', hr, ?_, h3, h5⟩
    unfold OwnI
    rw [List.length_append, flatI_app]
    exact h2
  | none =>
    obtain rfl : M = [] := by
      rcases hb with rfl | ⟨b, off, e, _⟩
      · rfl
      · cases e
    rcases hown.2 with ⟨rfl, hn⟩ | ⟨g, cap, cur, rfl, hbg, hg, hnc, rest⟩
    · refine ⟨.slice none 0 0, w, ?_, by rw [List.append_nil]; exact hown, ⟨rfl, rfl, rfl, Nat.le_refl _, fun _ _ _ => rfl⟩, .inl rfl⟩
      simp [Builtin.append_, run_underlying Tryd.underlying70, sizeOf, typeInfo, hi, Builtin.lenOf, Builtin.firstCells, loadCells, loadCellsFrom]
    · refine ⟨.slice (some ⟨g, 0, none⟩) L.length cap, w, ?_, by rw [List.append_nil]; exact hown, ⟨rfl, rfl, rfl, Nat.le_refl _, fun _ _ _ => rfl⟩, .inl rfl⟩
      simp [Builtin.append_, run_underlying Tryd.underlying70, sizeOf, typeInfo, hi, Builtin.lenOf, Builtin.firstCells, hnc, storeCells]
theorem ids_lit (w : World) (h : IdK) (t : TypeId) : IdsAt (w.alloc (.cells (IdK.c h).toArray t)) (some ⟨w.heap.size, 0, none⟩) [h] :=
  .inr ⟨w.heap.size, 0, rfl, by simp, fun i x hx j v hj => by
    have hl := (List.getElem?_eq_some_iff.1 hx).1
    obtain rfl : i = 0 := by simp at hl; omega
    simp at hx
    subst hx
    rw [Nat.mul_zero, Nat.add_zero, Nat.zero_add]
    exact cell_new w (IdK.c h) t j v hj⟩
theorem run_bsI (h : IdK) (ok : h.ok) (w : World) : (Instr.buildSlice 70 1 #[(0, .agg (IdK.c h).toArray)]).run Tryd.prog w = .ok (.slice (some ⟨w.heap.size, 0, none⟩) 1 1) (w.alloc (.cells (IdK.c h).toArray 32)) := by
  obtain ⟨ie, hi, hz, hs, hby⟩ := info_parts infoI
  refine run_buildSlice w 70 32 1 _ (IdK.c h).toArray ie _ Tryd.underlying70 hi hz (by rw [hs]; decide) (by rw [hs]; decide) ?_
  rw [hs]
  have := Go.Great.fill_whole (s := 33) (by decide) [.agg (IdK.c h).toArray] ((Array.range (1 * 33)).map ((Value.agg (IdK.c zId).toArray).cells[· % (Value.agg (IdK.c zId).toArray).cells.size]!)) (by intro v hv; simp at hv; subst hv; show (IdK.c h).toArray.size = 33; rw [List.size_toArray, IdK.len ok]) (by simp)
  simpa [Value.cells] using this
section
variable {ops : Array Oper} {rest : List Oper} {o : Oper} {a : Act} {w : World} {Q : Exit → Act → World → Prop} {K : Act → World → Prop} {E : Prop}
theorem wpList_bsI (hg : o.guard = none) (x : Operand) (ho : o.op = .buildSlice 70 1 #[(0, x)]) (h : IdK) (ok : h.ok) (hx : a.eval x = .agg (IdK.c h).toArray)
    (hK : wpList Tryd.prog ops Q rest (a.put o.dst (.slice (some ⟨w.heap.size, 0, none⟩) 1 1)) (w.alloc (.cells (IdK.c h).toArray 32))) : wpList Tryd.prog ops Q (o :: rest) a w :=
  wpList_plain hg fun _ hK' => by
    unfold Oper.wp
    rw [exec_buildSlice ho hx (run_bsI h ok w)]
    exact hK' _ _ hK
theorem wpList_appI (hg : o.guard = none) (s x : Operand) (ho : o.op = .call { callee := .builtin .append, args := #[s, x], argTypes := #[70, 70] }) (ht : o.type = 70) (base : Nat) (v : Value) (L : List IdK) (hs : a.eval s = v) (hown : OwnI w base v L)
    (aa : Option Addr) (m c : Nat) (M : List IdK) (hx : a.eval x = .slice aa m c) (hm : M.length = m) (hb : IdsAt w aa M) (ok : ∀ h ∈ M, h.ok) (hlen : L.length + M.length ≤ 5600000000000) (hbase : base ≤ w.heap.size)
    (h : ∀ v' w', OwnI w' base v' (L ++ M) → w.grownBy w' v.ownBlock → (v'.ownBlock = v.ownBlock ∨ v'.ownBlock = some w.heap.size) → wpList Tryd.prog ops Q rest (a.put o.dst v') w') : wpList Tryd.prog ops Q (o :: rest) a w :=
  wpList_plain hg fun _ hK' => by
    subst hm
    obtain ⟨v', w', hr, h2, h3, h4⟩ := run_appI w base v L aa M c hown hb ok hlen hbase
    unfold Oper.wp
    rw [exec_append ho hs hx (by rw [ht]; exact hr)]
    exact hK' _ _ (h v' w' h2 h3 h4)
theorem step_appI (hg : o.guard = none) (s x : Operand) (ho : o.op = .call { callee := .builtin .append, args := #[s, x], argTypes := #[70, 70] }) (ht : o.type = 70) (base : Nat) (v : Value) (L : List IdK) (hs : a.eval s = v) (hown : OwnI w base v L)
    (aa : Option Addr) (m c : Nat) (M : List IdK) (hx : a.eval x = .slice aa m c) (hm : M.length = m) (hb : IdsAt w aa M) (ok : ∀ h ∈ M, h.ok) (hlen : L.length + M.length ≤ 5600000000000) (hbase : base ≤ w.heap.size)
    (h : ∀ v' w', OwnI w' base v' (L ++ M) → w.grownBy w' v.ownBlock → (v'.ownBlock = v.ownBlock ∨ v'.ownBlock = some w.heap.size) → K (a.put o.dst v') w') : if Region.wanted o (yielded ops a.tmps) = true then Oper.wp Tryd.prog o a w K Q else E := by
  subst hm
  obtain ⟨v', w', hr, h2, h3, h4⟩ := run_appI w base v L aa M c hown hb ok hlen hbase
  exact step_run hg (exec_append ho hs hx (by rw [ht]; exact hr)) (h v' w' h2 h3 h4)
end
end Go.Proofs.YtldlljobofnmmabDoor
