import Derived.Test.YtoofljkgdjjllaaTyh
import Derived.Great.BuildSlice
import Derived.Deep.DeepAppendWide
import Derived.Maps.AppendAt
import Derived.OwnWalk
import Derived.Deep.RegionLaw
namespace Go.Proofs.Ytoofljkgdjjllaa
open Go.RowKit
set_option linter.unusedVariables false
set_option linter.unusedSimpArgs false

def zKid : KidV := ⟨zId, ⟨#[]⟩⟩
section
variable {P : Program} {w w2 : World} {a : Act} {o : Oper}
theorem exec_buildSlice {t n : Nat} {x : Operand} {xv v : Value} (ho : o.op = .buildSlice t n #[(0, x)]) (hx : a.eval x = xv) (hl : (Instr.buildSlice t n #[(0, xv)]).run P w = .ok v w2) : (execOp a.eval o).run P w = .ok (.value v) w2 := by
  unfold execOp; simp only [ho, List.map_toArray, List.map_cons, List.map_nil, hx, Sem.run_bind, hl, Result.andThen_ok, Sem.run_pure]
theorem exec_append {x y : Operand} {ts : Array TypeId} {xv yv v : Value} (ho : o.op = .call { callee := .builtin .append, args := #[x, y], argTypes := ts }) (hx : a.eval x = xv) (hy : a.eval y = yv) (hl : (Builtin.append_ ts o.type #[xv, yv]).run P w = .ok v w2) : (execOp a.eval o).run P w = .ok (.value v) w2 := by
  unfold execOp
  simp only [ho, resolve, invoke, builtin, List.map_toArray, List.map_cons, List.map_nil, hx, hy, Sem.run_bind, Sem.run_pure, hl, Result.andThen_ok]
end
def KidsAt (w : World) (a : Option Addr) (L : List KidV) : Prop := L = [] ∨ ∃ b off, a = some ⟨b, off, none⟩ ∧ b < w.heap.size ∧ ∀ i h, L[i]? = some h → w.rangeAt b (off + 34 * i) (KidV.c h)
theorem rangeAt_keep {w w' : World} {b o : Nat} {cs : List Value} (h : w.rangeAt b o cs) (e : w'.heap[b]? = w.heap[b]?) : w'.rangeAt b o cs := fun j v hj => (World.cell?_of_block (a := ⟨b, o + j, none⟩) e).trans (h j v hj)
theorem KidsAt.below {w w' : World} {a : Option Addr} {L : List KidV} (h : KidsAt w a L) (hb : Below w.heap.size w w') : KidsAt w' a L := by
  rcases h with h | ⟨b, off, e, hl, hr⟩
  · exact .inl h
  · exact .inr ⟨b, off, e, Nat.lt_of_lt_of_le hl hb.size, fun i x hx => rangeAt_keep (hr i x hx) (hb.block b hl)⟩
theorem cell_new (w : World) (l : List Value) (t : TypeId) (j : Nat) (v : Value) (h : l[j]? = some v) : (w.alloc (.cells l.toArray t)).cell? ⟨w.heap.size, j, none⟩ = some v := by
  rw [cell_of_row _ w.heap.size j _ _ _ (heap_alloc_new w _)]
  simpa using h
theorem app_at {P : Program} (w : World) (base : Nat) (t ty e : TypeId) (i : TypeInfo) (z : Value) (size bytes : Nat) (ht : P.underlying t = some (.slice e)) (hi : P.info? e = some i) (hz : i.zero = some z)
    (hsize : i.size = size) (hby : i.bytes = bytes) (hzs : z.cells.size = size) (hsz : 0 < size) (v : Value) (n : Nat) (xs : List Value) (hown : w.ownsRow base e size v n xs)
    (a : Addr) (m c : Nat) (news : List Value) (hl : news.length = m * size) (hnews : ∀ j u, news[j]? = some u → w.cell? (a.add j) = some u) (h1 : ∀ u ∈ news, u.oneCell' = true)
    (h63 : n + m ≤ maxLen) (hbytes : ((n + m) + (n + m) / 4 + 192) * bytes ≤ 281474976710656) (hbase : base ≤ w.heap.size) :
    ∃ v' w', (Builtin.append_ #[t, t] ty #[v, .slice (some a) m c]).run P w = .ok v' w' ∧ w'.ownsRow base e size v' (n + m) (xs ++ news) ∧ w.grownBy w' v.ownBlock ∧ (v'.ownBlock = v.ownBlock ∨ v'.ownBlock = some w.heap.size) := by
  obtain ⟨v', w', hr, h2, h3, h4⟩ := run_append_own_wide (P := P) w base t ty e i z size bytes ht hi hz hsize hby hzs hsz v n xs hown a m c news hl hnews h1 h63 hbytes hbase
  refine ⟨v', w', hr, h2, h3, ?_⟩
  have hx := hown.1
  subst hsize
  subst hby
  have hbig : n + m ≤ 9223372036854775807 := by simp only [maxLen] at h63; omega
  rcases hown.2 with ⟨rfl, rfl⟩ | ⟨g, cap, cur, rfl, hbg, hg, hnc, hcm, hcs, htake⟩
  · by_cases hm : m = 0
    · left; rw [(h4.2 ⟨rfl, hm⟩)]
    · have hk := run_append_nil (P := P) w t ty e i z ht hi hz a m c news hl hnews (by omega) (by omega) (Nat.le_trans (Nat.mul_le_mul_right _ (by omega)) hbytes)
      rw [hr] at hk
      simp only [Result.ok.injEq] at hk
      rw [hk.1]
      exact .inr rfl
  · by_cases hroom : n + m ≤ cap
    · have hk := run_append_room (P := P) w t ty e i ht hi g n cap cur hg a m c news hl hnews h1 hroom (by rw [hl, hcs, ← Nat.add_mul]; exact Nat.mul_le_mul_right _ hroom)
      rw [hr] at hk
      simp only [Result.ok.injEq] at hk
      rw [hk.1]
      exact .inl rfl
    · have hk := run_append_grow (P := P) w t ty e i z ht hi hz ⟨g, 0, none⟩ n cap xs hx (hown.cells (g := g) rfl) a m c news hl hnews (by omega) (by omega) (growslice_fits_wide (by omega) hbytes)
      rw [hr] at hk
      simp only [Result.ok.injEq] at hk
      rw [hk.1]
      exact .inr rfl


/-- Holders, cell by cell. -/
def flatK (L : List KidV) : List Value := L.flatMap KidV.c
theorem flatK_len : ∀ {L : List KidV}, (∀ h ∈ L, h.id.ok) → (flatK L).length = 34 * L.length
  | [], _ => rfl
  | x :: L, ok => by
    have := flatK_len (L := L) (fun h hh => ok h (by simp [hh]))
    simp only [flatK, List.flatMap_cons, List.length_append, KidV.len (ok x (by simp)), List.length_cons] at this ⊢
    omega
theorem flatK_get : ∀ {L : List KidV}, (∀ h ∈ L, h.id.ok) → ∀ {i : Nat} {h : KidV}, L[i]? = some h → ∀ {j : Nat} {v : Value}, (KidV.c h)[j]? = some v → (flatK L)[34 * i + j]? = some v
  | x :: L, ok, 0, h, hi, j, v, hj => by
    simp only [List.getElem?_cons_zero, Option.some.injEq] at hi
    subst hi
    have hl := (List.getElem?_eq_some_iff.1 hj).1
    rw [Nat.mul_zero, Nat.zero_add, flatK, List.flatMap_cons, List.getElem?_append_left hl]
    exact hj
  | x :: L, ok, i + 1, h, hi, j, v, hj => by
    simp only [List.getElem?_cons_succ] at hi
    have := flatK_get (L := L) (fun h hh => ok h (by simp [hh])) hi hj
    have l := KidV.len (ok x (by simp))
    rw [flatK, List.flatMap_cons, List.getElem?_append_right (by omega), l, show 34 * (i + 1) + j - 34 = 34 * i + j by omega]
    exact this
  | [], _, i, h, hi, _, _, _ => by simp at hi
theorem flatK_inv : ∀ {L : List KidV}, (∀ h ∈ L, h.id.ok) → ∀ {p : Nat} {u : Value}, (flatK L)[p]? = some u → ∃ i h j, p = 34 * i + j ∧ L[i]? = some h ∧ (KidV.c h)[j]? = some u
  | [], _, p, u, hp => by simp [flatK] at hp
  | x :: L, ok, p, u, hp => by
    have l := KidV.len (ok x (by simp))
    rw [flatK, List.flatMap_cons, List.getElem?_append] at hp
    by_cases h : p < (KidV.c x).length
    · rw [if_pos h] at hp
      exact ⟨0, x, p, by omega, rfl, hp⟩
    · rw [if_neg h] at hp
      obtain ⟨i, y, j, e, hi, hj⟩ := flatK_inv (L := L) (fun h hh => ok h (by simp [hh])) hp
      exact ⟨i + 1, y, j, by omega, hi, hj⟩
theorem flatK_one (L : List KidV) : ∀ u ∈ flatK L, u.oneCell' = true := by
  intro u hu
  simp only [flatK, List.mem_flatMap] at hu
  obtain ⟨h, _, hv⟩ := hu
  exact KidV.one h u hv
theorem flatK_app (L M : List KidV) : flatK (L ++ M) = flatK L ++ flatK M := by simp [flatK]
/-- A row of holders of the call's own. -/
def OwnK (w : World) (base : Nat) (v : Value) (L : List KidV) : Prop := w.ownsRow base 109 34 v L.length (flatK L)
theorem OwnK.below {w w' : World} {base : Nat} {v : Value} {L : List KidV} (h : OwnK w base v L) (hb : Below w.heap.size w w') : OwnK w' base v L := by
  refine ⟨h.1, ?_⟩
  rcases h.2 with hn | ⟨g, cap, cur, rfl, hbg, hg, rest⟩
  · exact .inl hn
  · exact .inr ⟨g, cap, cur, rfl, hbg, by rw [hb.block g (Array.getElem?_eq_some_iff.1 hg).1]; exact hg, rest⟩
theorem OwnK.keep {w w' : World} {base : Nat} {v : Value} {L : List KidV} (h : OwnK w base v L) (hk : ∀ k, v.ownBlock = some k → w'.heap[k]? = w.heap[k]?) : OwnK w' base v L := by
  refine ⟨h.1, ?_⟩
  rcases h.2 with hn | ⟨g, cap, cur, rfl, hbg, hg, rest⟩
  · exact .inl hn
  · exact .inr ⟨g, cap, cur, rfl, hbg, by rw [hk g rfl]; exact hg, rest⟩
theorem OwnK.open {w : World} {base : Nat} {v : Value} {L : List KidV} (h : OwnK w base v L) (ok : ∀ h ∈ L, h.id.ok) : ∃ a c, v = .slice a L.length c ∧ KidsAt w a L ∧ L.length ≤ c := by
  rcases h.2 with ⟨rfl, hn⟩ | ⟨g, cap, cur, rfl, hbg, hg, hnc, hcm, hcs, htake⟩
  · obtain rfl : L = [] := List.eq_nil_of_length_eq_zero hn
    exact ⟨none, 0, rfl, .inl rfl, Nat.le_refl _⟩
  · refine ⟨some ⟨g, 0, none⟩, cap, rfl, .inr ⟨g, 0, rfl, (Array.getElem?_eq_some_iff.1 hg).1, fun i x hx j u hj => ?_⟩, hnc⟩
    have e := flatK_get ok hx hj
    rw [Nat.zero_add, cell_of_row w g _ cur 109 (0, 0) hg]
    rw [← htake, List.getElem?_take] at e
    split at e
    · simpa using e
    · cases e
theorem infoK : (Try.prog.info? 109).map (fun i => (i.zero, i.size, i.bytes)) = some (some (.agg (KidV.c zKid).toArray), 34, 56) := by kernel_rfl
theorem zcellsK : (Value.agg (KidV.c zKid).toArray).cells.size = 34 := by
  show (KidV.c zKid).toArray.size = 34
  rw [List.size_toArray, KidV.len zId_ok]
theorem run_appK (w : World) (base : Nat) (v : Value) (L : List KidV) (a : Option Addr) (M : List KidV) (c : Nat) (hown : OwnK w base v L) (hb : KidsAt w a M) (ok : ∀ h ∈ M, h.id.ok) (h : L.length + M.length ≤ 4000000000000) (hbase : base ≤ w.heap.size) :
    ∃ v' w', (Builtin.append_ #[106, 106] 106 #[v, .slice a M.length c]).run Try.prog w = .ok v' w' ∧ OwnK w' base v' (L ++ M) ∧ w.grownBy w' v.ownBlock ∧ (v'.ownBlock = v.ownBlock ∨ v'.ownBlock = some w.heap.size) := by
  obtain ⟨i, hi, hz, hs, hby⟩ := info_parts infoK
  cases a with
  | some ad =>
    have hnews : ∀ j u, (flatK M)[j]? = some u → w.cell? (ad.add j) = some u := fun j u hj => by
      rcases hb with rfl | ⟨b, off, e, _, hc⟩
      · simp [flatK] at hj
      · cases e
        obtain ⟨k, x, r, rfl, hx, hr⟩ := flatK_inv ok hj
        rw [Addr.add_mid, ← Nat.add_assoc]
        exact hc k x hx r u hr
    obtain ⟨v', w', hr, h2, h3, h5⟩ := app_at (P := Try.prog) w base 106 106 109 i _ 34 56 Try.underlying106 hi hz hs hby zcellsK (by decide) v L.length (flatK L) hown ad M.length c (flatK M) (by rw [flatK_len ok, Nat.mul_comm]) hnews (flatK_one M) (by unfold maxLen; omega) (by omega) hbase
    refine ⟨v', w', hr, ?_, h3, h5⟩
    unfold OwnK
    rw [List.length_append, flatK_app]
    exact h2
  | none =>
    obtain rfl : M = [] := by
      rcases hb with rfl | ⟨b, off, e, _⟩
      · rfl
      · cases e
    rcases hown.2 with ⟨rfl, hn⟩ | ⟨g, cap, cur, rfl, hbg, hg, hnc, rest⟩
    · refine ⟨.slice none 0 0, w, ?_, by rw [List.append_nil]; exact hown, ⟨rfl, rfl, rfl, Nat.le_refl _, fun _ _ _ => rfl⟩, .inl rfl⟩
      simp [Builtin.append_, run_underlying Try.underlying106, sizeOf, typeInfo, hi, Builtin.lenOf, Builtin.firstCells, loadCells, loadCellsFrom]
    · refine ⟨.slice (some ⟨g, 0, none⟩) L.length cap, w, ?_, by rw [List.append_nil]; exact hown, ⟨rfl, rfl, rfl, Nat.le_refl _, fun _ _ _ => rfl⟩, .inl rfl⟩
      simp [Builtin.append_, run_underlying Try.underlying106, sizeOf, typeInfo, hi, Builtin.lenOf, Builtin.firstCells, hnc, storeCells]
theorem kids_lit (w : World) (h : KidV) (t : TypeId) : KidsAt (w.alloc (.cells (KidV.c h).toArray t)) (some ⟨w.heap.size, 0, none⟩) [h] :=
  .inr ⟨w.heap.size, 0, rfl, by simp, fun i x hx j v hj => by
    have hl := (List.getElem?_eq_some_iff.1 hx).1
    obtain rfl : i = 0 := by simp at hl; omega
    simp at hx
    subst hx
    rw [Nat.mul_zero, Nat.add_zero, Nat.zero_add]
    exact cell_new w (KidV.c h) t j v hj⟩
theorem run_bsK (h : KidV) (ok : h.id.ok) (w : World) : (Instr.buildSlice 106 1 #[(0, .agg (KidV.c h).toArray)]).run Try.prog w = .ok (.slice (some ⟨w.heap.size, 0, none⟩) 1 1) (w.alloc (.cells (KidV.c h).toArray 109)) := by
  obtain ⟨ie, hi, hz, hs, hby⟩ := info_parts infoK
  refine run_buildSlice w 106 109 1 _ (KidV.c h).toArray ie _ Try.underlying106 hi hz (by rw [hs]; decide) (by rw [hs]; decide) ?_
  rw [hs]
  have := Go.Great.fill_whole (s := 34) (by decide) [.agg (KidV.c h).toArray] ((Array.range (1 * 34)).map ((Value.agg (KidV.c zKid).toArray).cells[· % (Value.agg (KidV.c zKid).toArray).cells.size]!)) (by intro v hv; simp at hv; subst hv; show (KidV.c h).toArray.size = 34; rw [List.size_toArray, KidV.len ok]) (by simp)
  simpa [Value.cells] using this
section
variable {ops : Array Oper} {rest : List Oper} {o : Oper} {a : Act} {w : World} {Q : Exit → Act → World → Prop} {K : Act → World → Prop} {E : Prop}
theorem wpList_bsK (hg : o.guard = none) (x : Operand) (ho : o.op = .buildSlice 106 1 #[(0, x)]) (h : KidV) (ok : h.id.ok) (hx : a.eval x = .agg (KidV.c h).toArray)
    (hK : wpList Try.prog ops Q rest (a.put o.dst (.slice (some ⟨w.heap.size, 0, none⟩) 1 1)) (w.alloc (.cells (KidV.c h).toArray 109))) : wpList Try.prog ops Q (o :: rest) a w :=
  wpList_plain hg fun _ hK' => by
    unfold Oper.wp
    rw [exec_buildSlice ho hx (run_bsK h ok w)]
    exact hK' _ _ hK
theorem wpList_appK (hg : o.guard = none) (s x : Operand) (ho : o.op = .call { callee := .builtin .append, args := #[s, x], argTypes := #[106, 106] }) (ht : o.type = 106) (base : Nat) (v : Value) (L : List KidV) (hs : a.eval s = v) (hown : OwnK w base v L)
    (aa : Option Addr) (m c : Nat) (M : List KidV) (hx : a.eval x = .slice aa m c) (hm : M.length = m) (hb : KidsAt w aa M) (ok : ∀ h ∈ M, h.id.ok) (hlen : L.length + M.length ≤ 4000000000000) (hbase : base ≤ w.heap.size)
    (h : ∀ v' w', OwnK w' base v' (L ++ M) → w.grownBy w' v.ownBlock → (v'.ownBlock = v.ownBlock ∨ v'.ownBlock = some w.heap.size) → wpList Try.prog ops Q rest (a.put o.dst v') w') : wpList Try.prog ops Q (o :: rest) a w :=
  wpList_plain hg fun _ hK' => by
    subst hm
    obtain ⟨v', w', hr, h2, h3, h4⟩ := run_appK w base v L aa M c hown hb ok hlen hbase
    unfold Oper.wp
    rw [exec_append ho hs hx (by rw [ht]; exact hr)]
    exact hK' _ _ (h v' w' h2 h3 h4)
theorem step_appK (hg : o.guard = none) (s x : Operand) (ho : o.op = .call { callee := .builtin .append, args := #[s, x], argTypes := #[106, 106] }) (ht : o.type = 106) (base : Nat) (v : Value) (L : List KidV) (hs : a.eval s = v) (hown : OwnK w base v L)
    (aa : Option Addr) (m c : Nat) (M : List KidV) (hx : a.eval x = .slice aa m c) (hm : M.length = m) (hb : KidsAt w aa M) (ok : ∀ h ∈ M, h.id.ok) (hlen : L.length + M.length ≤ 4000000000000) (hbase : base ≤ w.heap.size)
    (h : ∀ v' w', OwnK w' base v' (L ++ M) → w.grownBy w' v.ownBlock → (v'.ownBlock = v.ownBlock ∨ v'.ownBlock = some w.heap.size) → K (a.put o.dst v') w') : if Region.wanted o (yielded ops a.tmps) = true then Oper.wp Try.prog o a w K Q else E := by
  subst hm
  obtain ⟨v', w', hr, h2, h3, h4⟩ := run_appK w base v L aa M c hown hb ok hlen hbase
  exact step_run hg (exec_append ho hs hx (by rw [ht]; exact hr)) (h v' w' h2 h3 h4)
end
end Go.Proofs.Ytoofljkgdjjllaa
