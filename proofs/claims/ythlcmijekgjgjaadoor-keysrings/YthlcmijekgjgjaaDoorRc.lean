import Derived.Test.YthlcmijekgjgjaaDoorRe
import Derived.Great.BuildSlice
import Derived.Deep.DeepAppendWide
import Derived.Maps.AppendAt
import Derived.OwnWalk
import Derived.Deep.RegionLaw
import Derived.Laws.ResultCell
namespace Go.Proofs.YthlcmijekgjgjaaDoor
open Go.RowKit
set_option linter.unusedVariables false
set_option linter.unusedSimpArgs false

theorem app_at {P : Program} (w : World) (base : Nat) (t ty e : TypeId) (i : TypeInfo) (z : Value) (size bytes : Nat) (ht : P.underlying t = some (.slice e)) (hi : P.info? e = some i) (hz : i.zero = some z)
    (hsize : i.size = size) (hby : i.bytes = bytes) (hzs : z.cells.size = size) (hsz : 0 < size) (v : Value) (n : Nat) (xs : List Value) (hown : w.ownsRow base e size v n xs)
    (a : Addr) (m c : Nat) (news : List Value) (hl : news.length = m * size) (hnews : ∀ j u, news[j]? = some u → w.cell? (a.add j) = some u) (h1 : ∀ u ∈ news, u.oneCell' = true)
    (h63 : n + m ≤ maxLen) (hbytes : ((n + m) + (n + m) / 4 + 192) * bytes ≤ 281474976710656) (hbase : base ≤ w.heap.size) :
    ∃ v' w', (Builtin.append_ #[t, t] ty #[v, .slice (some a) m c]).run P w = .ok v' w' ∧ w'.ownsRow base e size v' (n + m) (xs ++ news) ∧ w.grownBy w' v.ownBlock ∧ (v'.ownBlock = v.ownBlock ∨ v'.ownBlock = some w.heap.size) := by
  obtain ⟨v', w', hr, h2, h3, h4⟩ := run_append_own_wide (P := P) w base t ty e i z size bytes ht hi hz hsize hby hzs hsz v n xs hown a m c news hl hnews h1 h63 hbytes hbase
  refine ⟨v', w', hr, h2, h3, ?_⟩
  have hx := hown.1
  subst hsize
  subst hby
  have hbig : n + m ≤ 9223372036854775807 := by simp only [maxLen] at h63; omega
  rcases hown.2 with ⟨rfl, rfl⟩ | ⟨g, cap, cur, rfl, hbg, hg, hnc, hcm, hcs, htake⟩
  · by_cases hm : m = 0
    · left; rw [(h4.2 ⟨rfl, hm⟩)]
    · have hk := run_append_nil (P := P) w t ty e i z ht hi hz a m c news hl hnews (by omega) (by omega) (Nat.le_trans (Nat.mul_le_mul_right _ (by omega)) hbytes)
      rw [hr] at hk
      simp only [Result.ok.injEq] at hk
      rw [hk.1]
      exact .inr rfl
  · by_cases hroom : n + m ≤ cap
    · have hk := run_append_room (P := P) w t ty e i ht hi g n cap cur hg a m c news hl hnews h1 hroom (by rw [hl, hcs, ← Nat.add_mul]; exact Nat.mul_le_mul_right _ hroom)
      rw [hr] at hk
      simp only [Result.ok.injEq] at hk
      rw [hk.1]
      exact .inl rfl
    · have hk := run_append_grow (P := P) w t ty e i z ht hi hz ⟨g, 0, none⟩ n cap xs hx (hown.cells (g := g) rfl) a m c news hl hnews (by omega) (by omega) (growslice_fits_wide (by omega) hbytes)
      rw [hr] at hk
      simp only [Result.ok.injEq] at hk
      rw [hk.1]
      exact .inr rfl


/-- Holders, cell by cell. -/
def flatH (L : List Hd) : List Value := L.flatMap hdC
theorem flatH_len : ∀ {L : List Hd}, (∀ h ∈ L, HdOk h) → (flatH L).length = 33 * L.length
  | [], _ => rfl
  | x :: L, ok => by
    have := flatH_len (L := L) (fun h hh => ok h (by simp [hh]))
    simp only [flatH, List.flatMap_cons, List.length_append, hdC_len (ok x (by simp)), List.length_cons] at this ⊢
    omega
theorem flatH_get : ∀ {L : List Hd}, (∀ h ∈ L, HdOk h) → ∀ {i : Nat} {h : Hd}, L[i]? = some h → ∀ {j : Nat} {v : Value}, (hdC h)[j]? = some v → (flatH L)[33 * i + j]? = some v
  | x :: L, ok, 0, h, hi, j, v, hj => by
    simp only [List.getElem?_cons_zero, Option.some.injEq] at hi
    subst hi
    have hl := (List.getElem?_eq_some_iff.1 hj).1
    rw [Nat.mul_zero, Nat.zero_add, flatH, List.flatMap_cons, List.getElem?_append_left hl]
    exact hj
  | x :: L, ok, i + 1, h, hi, j, v, hj => by
    simp only [List.getElem?_cons_succ] at hi
    have := flatH_get (L := L) (fun h hh => ok h (by simp [hh])) hi hj
    have l := hdC_len (ok x (by simp))
    rw [flatH, List.flatMap_cons, List.getElem?_append_right (by omega), l, show 33 * (i + 1) + j - 33 = 33 * i + j by omega]
    exact this
  | [], _, i, h, hi, _, _, _ => by simp at hi
theorem flatH_inv : ∀ {L : List Hd}, (∀ h ∈ L, HdOk h) → ∀ {p : Nat} {u : Value}, (flatH L)[p]? = some u → ∃ i h j, p = 33 * i + j ∧ L[i]? = some h ∧ (hdC h)[j]? = some u
  | [], _, p, u, hp => by simp [flatH] at hp
  | x :: L, ok, p, u, hp => by
    have l := hdC_len (ok x (by simp))
    rw [flatH, List.flatMap_cons, List.getElem?_append] at hp
    by_cases h : p < (hdC x).length
    · rw [if_pos h] at hp
      exact ⟨0, x, p, by omega, rfl, hp⟩
    · rw [if_neg h] at hp
      obtain ⟨i, y, j, e, hi, hj⟩ := flatH_inv (L := L) (fun h hh => ok h (by simp [hh])) hp
      exact ⟨i + 1, y, j, by omega, hi, hj⟩
theorem flatH_one (L : List Hd) : ∀ u ∈ flatH L, u.oneCell' = true := by
  intro u hu
  simp only [flatH, List.mem_flatMap] at hu
  obtain ⟨h, _, hv⟩ := hu
  exact hdC_one h u hv
theorem flatH_app (L M : List Hd) : flatH (L ++ M) = flatH L ++ flatH M := by simp [flatH]
/-- A row of holders of the call's own. -/
def OwnHd (w : World) (base : Nat) (v : Value) (L : List Hd) : Prop := w.ownsRow base 26 33 v L.length (flatH L)
theorem OwnHd.below {w w' : World} {base : Nat} {v : Value} {L : List Hd} (h : OwnHd w base v L) (hb : Below w.heap.size w w') : OwnHd w' base v L := by
  refine ⟨h.1, ?_⟩
  rcases h.2 with hn | ⟨g, cap, cur, rfl, hbg, hg, rest⟩
  · exact .inl hn
  · exact .inr ⟨g, cap, cur, rfl, hbg, by rw [hb.block g (Array.getElem?_eq_some_iff.1 hg).1]; exact hg, rest⟩
theorem OwnHd.keep {w w' : World} {base : Nat} {v : Value} {L : List Hd} (h : OwnHd w base v L) (hk : ∀ k, v.ownBlock = some k → w'.heap[k]? = w.heap[k]?) : OwnHd w' base v L := by
  refine ⟨h.1, ?_⟩
  rcases h.2 with hn | ⟨g, cap, cur, rfl, hbg, hg, rest⟩
  · exact .inl hn
  · exact .inr ⟨g, cap, cur, rfl, hbg, by rw [hk g rfl]; exact hg, rest⟩
theorem OwnHd.open {w : World} {base : Nat} {v : Value} {L : List Hd} (h : OwnHd w base v L) (ok : ∀ h ∈ L, HdOk h) : ∃ a c, v = .slice a L.length c ∧ HdsAt w a L ∧ L.length ≤ c := by
  rcases h.2 with ⟨rfl, hn⟩ | ⟨g, cap, cur, rfl, hbg, hg, hnc, hcm, hcs, htake⟩
  · obtain rfl : L = [] := List.eq_nil_of_length_eq_zero hn
    exact ⟨none, 0, rfl, .inl rfl, Nat.le_refl _⟩
  · refine ⟨some ⟨g, 0, none⟩, cap, rfl, .inr ⟨g, 0, rfl, (Array.getElem?_eq_some_iff.1 hg).1, fun i x hx j u hj => ?_⟩, hnc⟩
    have e := flatH_get ok hx hj
    rw [Nat.zero_add, cell_of_row w g _ cur 26 (0, 0) hg]
    rw [← htake, List.getElem?_take] at e
    split at e
    · simpa using e
    · cases e
theorem info26 : (Tryd.prog.info? 26).map (fun i => (i.zero, i.size, i.bytes)) = some (some (.agg (hdC zHd).toArray), 33, 40) := by kernel_rfl
theorem zcells : (Value.agg (hdC zHd).toArray).cells.size = 33 := by
  show (hdC zHd).toArray.size = 33
  rw [List.size_toArray, hdC_len zHd_ok]
theorem run_appH (w : World) (base : Nat) (v : Value) (L : List Hd) (a : Option Addr) (M : List Hd) (c : Nat) (hown : OwnHd w base v L) (hb : HdsAt w a M) (ok : ∀ h ∈ M, HdOk h) (h : L.length + M.length ≤ 4000000000000) (hbase : base ≤ w.heap.size) :
    ∃ v' w', (Builtin.append_ #[22, 22] 22 #[v, .slice a M.length c]).run Tryd.prog w = .ok v' w' ∧ OwnHd w' base v' (L ++ M) ∧ w.grownBy w' v.ownBlock ∧ (v'.ownBlock = v.ownBlock ∨ v'.ownBlock = some w.heap.size) := by
  obtain ⟨i, hi, hz, hs, hby⟩ := info_parts info26
  cases a with
  | some ad =>
    have hnews : ∀ j u, (flatH M)[j]? = some u → w.cell? (ad.add j) = some u := fun j u hj => by
      rcases hb with rfl | ⟨b, off, e, _, hc⟩
      · simp [flatH] at hj
      · cases e
        obtain ⟨k, x, r, rfl, hx, hr⟩ := flatH_inv ok hj
        rw [Addr.add_mid, ← Nat.add_assoc]
        exact hc k x hx r u hr
    obtain ⟨v', w', hr, h2, h3, h5⟩ := app_at (P := Tryd.prog) w base 22 22 26 i _ 33 40 Tryd.underlying22 hi hz hs hby zcells (by decide) v L.length (flatH L) hown ad M.length c (flatH M) (by rw [flatH_len ok, Nat.mul_comm]) hnews (flatH_one M) (by unfold maxLen; omega) (by omega) hbase
    refine ⟨v', w', hr, ?_, h3, h5⟩
    unfold OwnHd
    rw [List.length_append, flatH_app]
    exact h2
  | none =>
    obtain rfl : M = [] := by
      rcases hb with rfl | ⟨b, off, e, _⟩
      · rfl
      · cases e
    rcases hown.2 with ⟨rfl, hn⟩ | ⟨g, cap, cur, rfl, hbg, hg, hnc, rest⟩
    · refine ⟨.slice none 0 0, w, ?_, by rw [List.append_nil]; exact hown, ⟨rfl, rfl, rfl, Nat.le_refl _, fun _ _ _ => rfl⟩, .inl rfl⟩
      simp [Builtin.append_, run_underlying Tryd.underlying22, sizeOf, typeInfo, hi, Builtin.lenOf, Builtin.firstCells, loadCells, loadCellsFrom]
    · refine ⟨.slice (some ⟨g, 0, none⟩) L.length cap, w, ?_, by rw [List.append_nil]; exact hown, ⟨rfl, rfl, rfl, Nat.le_refl _, fun _ _ _ => rfl⟩, .inl rfl⟩
      simp [Builtin.append_, run_underlying Tryd.underlying22, sizeOf, typeInfo, hi, Builtin.lenOf, Builtin.firstCells, hnc, storeCells]
theorem hds_lit (w : World) (h : Hd) (t : TypeId) : HdsAt (w.alloc (.cells (hdC h).toArray t)) (some ⟨w.heap.size, 0, none⟩) [h] :=
  .inr ⟨w.heap.size, 0, rfl, by simp, fun i x hx j v hj => by
    have hl := (List.getElem?_eq_some_iff.1 hx).1
    obtain rfl : i = 0 := by simp at hl; omega
    simp at hx
    subst hx
    rw [Nat.mul_zero, Nat.add_zero, Nat.zero_add]
    exact cell_new w (hdC h) t j v hj⟩
theorem run_bs26 (h : Hd) (ok : HdOk h) (w : World) : (Instr.buildSlice 22 1 #[(0, .agg (hdC h).toArray)]).run Tryd.prog w = .ok (.slice (some ⟨w.heap.size, 0, none⟩) 1 1) (w.alloc (.cells (hdC h).toArray 26)) := by
  obtain ⟨ie, hi, hz, hs, hby⟩ := info_parts info26
  refine run_buildSlice w 22 26 1 _ (hdC h).toArray ie _ Tryd.underlying22 hi hz (by rw [hs]; decide) (by rw [hs]; decide) ?_
  rw [hs]
  have := Go.Great.fill_whole (s := 33) (by decide) [.agg (hdC h).toArray] ((Array.range (1 * 33)).map ((Value.agg (hdC zHd).toArray).cells[· % (Value.agg (hdC zHd).toArray).cells.size]!)) (by intro v hv; simp at hv; subst hv; show (hdC h).toArray.size = 33; rw [List.size_toArray, hdC_len ok]) (by simp)
  simpa [Value.cells] using this
section
variable {ops : Array Oper} {rest : List Oper} {o : Oper} {a : Act} {w : World} {Q : Exit → Act → World → Prop} {K : Act → World → Prop} {E : Prop}
theorem wpList_bs26 (hg : o.guard = none) (x : Operand) (ho : o.op = .buildSlice 22 1 #[(0, x)]) (h : Hd) (ok : HdOk h) (hx : a.eval x = .agg (hdC h).toArray)
    (hK : wpList Tryd.prog ops Q rest (a.put o.dst (.slice (some ⟨w.heap.size, 0, none⟩) 1 1)) (w.alloc (.cells (hdC h).toArray 26))) : wpList Tryd.prog ops Q (o :: rest) a w :=
  wpList_plain hg fun _ hK' => by
    unfold Oper.wp
    rw [exec_buildSlice ho hx (run_bs26 h ok w)]
    exact hK' _ _ hK
theorem wpList_appH (hg : o.guard = none) (s x : Operand) (ho : o.op = .call { callee := .builtin .append, args := #[s, x], argTypes := #[22, 22] }) (ht : o.type = 22) (base : Nat) (v : Value) (L : List Hd) (hs : a.eval s = v) (hown : OwnHd w base v L)
    (aa : Option Addr) (m c : Nat) (M : List Hd) (hx : a.eval x = .slice aa m c) (hm : M.length = m) (hb : HdsAt w aa M) (ok : ∀ h ∈ M, HdOk h) (hlen : L.length + M.length ≤ 4000000000000) (hbase : base ≤ w.heap.size)
    (h : ∀ v' w', OwnHd w' base v' (L ++ M) → w.grownBy w' v.ownBlock → (v'.ownBlock = v.ownBlock ∨ v'.ownBlock = some w.heap.size) → wpList Tryd.prog ops Q rest (a.put o.dst v') w') : wpList Tryd.prog ops Q (o :: rest) a w :=
  wpList_plain hg fun _ hK' => by
    subst hm
    obtain ⟨v', w', hr, h2, h3, h4⟩ := run_appH w base v L aa M c hown hb ok hlen hbase
    unfold Oper.wp
    rw [exec_append ho hs hx (by rw [ht]; exact hr)]
    exact hK' _ _ (h v' w' h2 h3 h4)
theorem step_appH (hg : o.guard = none) (s x : Operand) (ho : o.op = .call { callee := .builtin .append, args := #[s, x], argTypes := #[22, 22] }) (ht : o.type = 22) (base : Nat) (v : Value) (L : List Hd) (hs : a.eval s = v) (hown : OwnHd w base v L)
    (aa : Option Addr) (m c : Nat) (M : List Hd) (hx : a.eval x = .slice aa m c) (hm : M.length = m) (hb : HdsAt w aa M) (ok : ∀ h ∈ M, HdOk h) (hlen : L.length + M.length ≤ 4000000000000) (hbase : base ≤ w.heap.size)
    (h : ∀ v' w', OwnHd w' base v' (L ++ M) → w.grownBy w' v.ownBlock → (v'.ownBlock = v.ownBlock ∨ v'.ownBlock = some w.heap.size) → K (a.put o.dst v') w') : if Region.wanted o (yielded ops a.tmps) = true then Oper.wp Tryd.prog o a w K Q else E := by
  subst hm
  obtain ⟨v', w', hr, h2, h3, h4⟩ := run_appH w base v L aa M c hown hb ok hlen hbase
  exact step_run hg (exec_append ho hs hx (by rw [ht]; exact hr)) (h v' w' h2 h3 h4)
end
end Go.Proofs.YthlcmijekgjgjaaDoor
