import Derived.Test.YtldlljobofnmmabDoorRgh0
namespace Go.Proofs.YtldlljobofnmmabDoor
open Go.RowKit
set_option linter.unusedVariables false
set_option linter.unusedSimpArgs false

/-- A Regs as it lies in memory: its block, the blocks of its maps; what lies at its places (a list, and what stands there); of each object the block of its keys, and the keys; its last step. -/
structure Rs where
  r : Nat
  bp : Nat
  bk : Nat
  P : List (PlK × (Value × List EnV))
  K : List (IdK × (Nat × List ByteArray))
  last : Option Addr
def entP (P : List (PlK × (Value × List EnV))) : List (PlK × Value) := M.onV (fun q => q.1) P
def entK (K : List (IdK × (Nat × List ByteArray))) : List (IdK × Value) := M.onV (fun q => Value.map (some q.1)) K
def entS (l : List ByteArray) : List (ByteArray × Value) := M.onV (fun _ : Unit => Value.agg #[]) (l.map fun k => (k, ()))
def txOk (s : ByteArray) : Prop := s.size ≤ maxLen
def Rs.bl (s : Rs) : List Nat := s.r :: s.bp :: s.bk :: s.K.map (·.2.1)
structure RgM (w : World) (base : Nat) (s : Rs) : Prop where
  cell : w.heap[s.r]? = some (.cells #[.map (some s.bp), .map (some s.bk), .pointer s.last] 69 (0, 0))
  pl : M.MapAt w s.bp PlK.v PlK.ok (entP s.P)
  kl : M.MapAt w s.bk IdK.v IdK.ok (entK s.K)
  kr : ∀ q ∈ s.K, M.MapAt w q.2.1 tx txOk (entS q.2.2)
  en : ∀ q ∈ s.P, RN.Lo w base q.2.1 q.2.2 ∧ q.2.2 ≠ [] ∧ ∀ x ∈ q.2.2, x.ok
  dis : s.bl.Nodup
  ead : (s.P.map (·.2.1.ownBlock)).Nodup
  lo : ∀ j ∈ s.bl, base ≤ j
theorem RgM.lt {w : World} {base : Nat} {s : Rs} (h : RgM w base s) : ∀ k ∈ s.bl, k < w.heap.size := by
  intro k hk
  rcases List.mem_cons.1 hk with rfl | hk
  · exact (Array.getElem?_eq_some_iff.1 h.cell).1
  rcases List.mem_cons.1 hk with rfl | hk
  · exact h.pl.lt
  rcases List.mem_cons.1 hk with rfl | hk
  · exact h.kl.lt
  · obtain ⟨r, hr, rfl⟩ := List.mem_map.1 hk
    exact (h.kr r hr).lt
theorem RgM.keep {w w' : World} {base : Nat} {s : Rs} (h : RgM w base s) (hb : ∀ k ∈ s.bl, w'.heap[k]? = w.heap[k]?) (he : ∀ q ∈ s.P, ∀ k, q.2.1.ownBlock = some k → w'.heap[k]? = w.heap[k]?) : RgM w' base s :=
  ⟨(hb _ (by simp [Rs.bl])).trans h.cell, h.pl.below (hb _ (by simp [Rs.bl])), h.kl.below (hb _ (by simp [Rs.bl])), fun r hr => (h.kr r hr).below (hb _ (by
    unfold Rs.bl
    exact List.mem_cons_of_mem _ (List.mem_cons_of_mem _ (List.mem_cons_of_mem _ (List.mem_map.2 ⟨r, hr, rfl⟩))))), fun q hq => ⟨(h.en q hq).1.keep (he q hq), (h.en q hq).2⟩, h.dis, h.ead, h.lo⟩
theorem RgM.below {w w' : World} {base : Nat} {s : Rs} (h : RgM w base s) (b : Below w.heap.size w w') : RgM w' base s := h.keep (fun k hk => b.block k (h.lt k hk)) (fun q hq k hk => b.block k ((h.en q hq).1.lt hk))
theorem RgM.c0 {w : World} {base : Nat} {s : Rs} (h : RgM w base s) : w.cell? ⟨s.r, 0, none⟩ = some (.map (some s.bp)) := by rw [cell_of_row _ _ 0 _ _ _ h.cell]; rfl
theorem RgM.c1 {w : World} {base : Nat} {s : Rs} (h : RgM w base s) : w.cell? ⟨s.r, 1, none⟩ = some (.map (some s.bk)) := by rw [cell_of_row _ _ 1 _ _ _ h.cell]; rfl
theorem RgM.c2 {w : World} {base : Nat} {s : Rs} (h : RgM w base s) : w.cell? ⟨s.r, 2, none⟩ = some (.pointer s.last) := by rw [cell_of_row _ _ 2 _ _ _ h.cell]; rfl
theorem RgM.keys {w : World} {base : Nat} {s : Rs} (h : RgM w base s) : (s.K.map (·.1)).Nodup := by
  have := h.kl.2.1
  rwa [entK, M.onV_keys] at this
theorem RgM.places {w : World} {base : Nat} {s : Rs} (h : RgM w base s) : (s.P.map (·.1)).Nodup := by
  have := h.pl.2.1
  rwa [entP, M.onV_keys] at this
/-- A list's block is none of the others. -/
theorem RgM.apart {w : World} {base : Nat} {s : Rs} (h : RgM w base s) {q : PlK × (Value × List EnV)} (hq : q ∈ s.P) {k : Nat} (hk : q.2.1.ownBlock = some k) : k ∉ s.bl := fun hm => by
  obtain ⟨_, c, hc⟩ := (h.en q hq).1.cells hk
  rcases List.mem_cons.1 hm with rfl | hm
  · have := h.cell; rw [hc] at this; injection this with this; injection this with _ h2 _; revert h2; decide
  rcases List.mem_cons.1 hm with rfl | hm
  · obtain ⟨⟨es, cl, h1, _⟩, _⟩ := h.pl; rw [hc] at h1; cases h1
  rcases List.mem_cons.1 hm with rfl | hm
  · obtain ⟨⟨es, cl, h1, _⟩, _⟩ := h.kl; rw [hc] at h1; cases h1
  · obtain ⟨r, hr, rfl⟩ := List.mem_map.1 hm
    obtain ⟨⟨es, cl, h1, _⟩, _⟩ := h.kr r hr
    rw [hc] at h1; cases h1
section
variable {κ β : Type} [DecidableEq κ]
theorem put_idG {E : List (κ × β)} {k : κ} {v : β} (h : M.look E k = some v) : M.put E k v = E := by
  unfold M.look at h
  unfold M.put
  cases hf : M.fnd E k 0 with
  | none => rw [hf] at h; cases h
  | some q =>
    obtain ⟨i, u⟩ := q
    rw [hf] at h
    cases h
    have e := (M.fnd_some hf).1
    show E.set i (k, _) = E
    apply List.ext_getElem?
    intro j
    rw [List.getElem?_set]
    split
    · next ij =>
      subst ij
      rw [e, if_pos (M.fnd_some hf).2]
    · rfl
theorem put_memG {E : List (κ × β)} {k : κ} {v : β} (hn : (E.map (·.1)).Nodup) {p : κ × β} (hp : p ∈ M.put E k v) : p = (k, v) ∨ (p ∈ E ∧ p.1 ≠ k) := by
  have h := M.look_of_mem (M.put_keys _ _ _ hn) hp
  rw [M.put_look _ _ _ hn] at h
  by_cases e : p.1 = k
  · rw [if_pos e] at h
    obtain ⟨a, b⟩ := p
    simp only at e h
    subst e
    cases h
    exact Or.inl rfl
  · rw [if_neg e] at h
    exact Or.inr ⟨M.look_mem h, e⟩
theorem put_inG {E : List (κ × β)} (k : κ) (v : β) (hn : (E.map (·.1)).Nodup) : (k, v) ∈ M.put E k v := M.look_mem (by rw [M.put_look _ _ _ hn, if_pos rfl])
theorem put_oldG {E : List (κ × β)} {k : κ} (v : β) (hn : (E.map (·.1)).Nodup) {p : κ × β} (hp : p ∈ E) (hk : p.1 ≠ k) : p ∈ M.put E k v :=
  M.look_mem (by rw [M.put_look _ _ _ hn, if_neg hk]; exact M.look_of_mem hn hp)
theorem del_memG {E : List (κ × β)} {k : κ} (hn : (E.map (·.1)).Nodup) {p : κ × β} : p ∈ M.del E k ↔ p ∈ E ∧ p.1 ≠ k := by
  constructor
  · intro hp
    have h := M.look_of_mem (M.del_keys _ k hn) hp
    rw [M.del_look _ _ hn] at h
    by_cases e : p.1 = k
    · rw [if_pos e] at h; cases h
    · rw [if_neg e] at h; exact ⟨M.look_mem h, e⟩
  · rintro ⟨hp, e⟩
    exact M.look_mem (by rw [M.del_look _ _ hn, if_neg e]; exact M.look_of_mem hn hp)
theorem put_newG {E : List (κ × β)} {k : κ} {v : β} (hn : M.look E k = none) : M.put E k v = E ++ [(k, v)] := by
  unfold M.look at hn
  unfold M.put
  cases hf : M.fnd E k 0 with
  | none => rfl
  | some q => rw [hf] at hn; cases hn
theorem del_subG (E : List (κ × β)) (k : κ) : (M.del E k).Sublist E := by
  unfold M.del
  split
  · exact List.eraseIdx_sublist _ _
  · exact List.Sublist.refl _
theorem del_noneG {E : List (κ × β)} {k : κ} (hn : M.look E k = none) : M.del E k = E := by
  unfold M.look at hn
  unfold M.del
  cases hf : M.fnd E k 0 with
  | none => rfl
  | some q => rw [hf] at hn; cases hn
theorem nodup_injG {α γ : Type} (f : α → γ) : ∀ {l : List α}, (l.map f).Nodup → ∀ a ∈ l, ∀ b ∈ l, f a = f b → a = b
  | [], _, a, ha, _, _, _ => by cases ha
  | x :: l, hn, a, ha, b, hb, e => by
    rw [List.map_cons, List.nodup_cons] at hn
    rcases List.mem_cons.1 ha with h1 | h1
    · rcases List.mem_cons.1 hb with h2 | h2
      · rw [h1, h2]
      · exact absurd (List.mem_map.2 ⟨b, h2, by rw [← e, h1]⟩) hn.1
    · rcases List.mem_cons.1 hb with h2 | h2
      · exact absurd (List.mem_map.2 ⟨a, h1, by rw [e, h2]⟩) hn.1
      · exact nodup_injG f hn.2 a h1 b h2 e
theorem nodup_of_keys {α γ δ : Type} {f : α → γ} {g : α → δ} : ∀ {l : List α}, (l.map f).Nodup → (∀ a ∈ l, ∀ b ∈ l, g a = g b → f a = f b) → (l.map g).Nodup
  | [], _, _ => by simp
  | x :: l, hn, h => by
    rw [List.map_cons, List.nodup_cons] at hn ⊢
    refine ⟨fun hm => ?_, nodup_of_keys hn.2 (fun a ha b hb => h a (List.mem_cons_of_mem _ ha) b (List.mem_cons_of_mem _ hb))⟩
    obtain ⟨y, hy, e⟩ := List.mem_map.1 hm
    exact hn.1 (List.mem_map.2 ⟨y, hy, h y (List.mem_cons_of_mem _ hy) x (List.mem_cons_self ..) e⟩)
theorem look_memI {E : List (κ × β)} {k : κ} : k ∈ E.map (·.1) ↔ (M.look E k).isSome = true := by
  constructor
  · intro h
    obtain ⟨p, hp, rfl⟩ := List.mem_map.1 h
    cases hl : M.look E p.1 with
    | some v => rfl
    | none =>
      unfold M.look at hl
      cases hf : M.fnd E p.1 0 with
      | none => exact absurd rfl (M.fnd_none hf p hp)
      | some q => rw [hf] at hl; cases hl
  · intro h
    obtain ⟨v, hv⟩ := Option.isSome_iff_exists.1 h
    exact List.mem_map.2 ⟨_, M.look_mem hv, rfl⟩
end
theorem entS_keys (l : List ByteArray) : (entS l).map (·.1) = l := by
  unfold entS
  rw [M.onV_keys, List.map_map]
  exact List.map_id _
theorem entS_val (l : List ByteArray) : ∀ p ∈ entS l, p.2 = .agg #[] := by
  intro p hp
  unfold entS M.onV at hp
  rw [List.map_map] at hp
  obtain ⟨k, _, rfl⟩ := List.mem_map.1 hp
  rfl
theorem entS_of {E : List (ByteArray × Value)} (h : ∀ p ∈ E, p.2 = .agg #[]) : E = entS (E.map (·.1)) := by
  unfold entS M.onV
  rw [List.map_map, List.map_map]
  refine (List.map_id _).symm.trans (List.map_congr_left fun p hp => ?_)
  obtain ⟨k, v⟩ := p
  have := h _ hp
  simp only at this
  subst this
  rfl
theorem entS_len (l : List ByteArray) : (entS l).length = l.length := by
  have := congrArg List.length (entS_keys l)
  simpa using this
/-- Keys with one more. -/
theorem put_S (l : List ByteArray) (k : ByteArray) (hl : l.Nodup) : ∃ l', M.put (entS l) k (.agg #[]) = entS l' ∧ (∀ x, x ∈ l' ↔ x ∈ l ∨ x = k) := by
  have hk : ((entS l).map (·.1)).Nodup := by rw [entS_keys]; exact hl
  have hE : ∀ p ∈ M.put (entS l) k (.agg #[]), p.2 = .agg #[] := by
    intro p hp
    rcases put_memG hk hp with rfl | ⟨hp, _⟩
    · rfl
    · exact entS_val l p hp
  refine ⟨_, entS_of hE, fun x => ?_⟩
  rw [look_memI, M.put_look _ _ _ hk]
  have a2 : x ∈ l ↔ (M.look (entS l) x).isSome = true := by rw [← look_memI, entS_keys]
  rw [a2]
  by_cases e : x = k
  · simp [e]
  · simp [e]
/-- Keys with one less. -/
theorem del_S (l : List ByteArray) (k : ByteArray) (hl : l.Nodup) : ∃ l', M.del (entS l) k = entS l' ∧ ∀ x, x ∈ l' ↔ x ∈ l ∧ x ≠ k := by
  have hk : ((entS l).map (·.1)).Nodup := by rw [entS_keys]; exact hl
  have hE : ∀ p ∈ M.del (entS l) k, p.2 = .agg #[] := fun p hp => entS_val l p ((del_memG hk).1 hp).1
  refine ⟨_, entS_of hE, fun x => ?_⟩
  rw [look_memI, M.del_look _ _ hk]
  have a2 : x ∈ l ↔ (M.look (entS l) x).isSome = true := by rw [← look_memI, entS_keys]
  rw [a2]
  by_cases e : x = k
  · simp [e]
  · simp [e]
theorem Rs.row_bl {s : Rs} {r : IdK × (Nat × List ByteArray)} (hr : r ∈ s.K) : r.2.1 ∈ s.bl :=
  List.mem_cons_of_mem _ (List.mem_cons_of_mem _ (List.mem_cons_of_mem _ (List.mem_map.2 ⟨r, hr, rfl⟩)))
section
variable {w w' : World} {base : Nat} {s : Rs}
theorem RgM.bne (h : RgM w base s) {r : IdK × (Nat × List ByteArray)} (hr : r ∈ s.K) : r.2.1 ≠ s.r ∧ r.2.1 ≠ s.bp ∧ r.2.1 ≠ s.bk := by
  have hd := h.dis
  have hm : r.2.1 ∈ s.K.map (·.2.1) := List.mem_map.2 ⟨r, hr, rfl⟩
  unfold Rs.bl at hd
  simp only [List.nodup_cons, List.mem_cons, not_or] at hd
  exact ⟨fun e => hd.1.2.2 (e ▸ hm), fun e => hd.2.1.2 (e ▸ hm), fun e => hd.2.2.1 (e ▸ hm)⟩
theorem RgM.tbl (h : RgM w base s) : s.r ≠ s.bp ∧ s.r ≠ s.bk ∧ s.bp ≠ s.bk ∧ (s.K.map (·.2.1)).Nodup := by
  have hd := h.dis
  unfold Rs.bl at hd
  simp only [List.nodup_cons, List.mem_cons, not_or] at hd
  exact ⟨hd.1.1, hd.1.2.1, hd.2.1.1, hd.2.2.2⟩
theorem RgM.nodup (h : RgM w base s) {r : IdK × (Nat × List ByteArray)} (hr : r ∈ s.K) : r.2.2.Nodup := by
  have := (h.kr r hr).2.1
  rwa [entS_keys] at this
/-- Other keys of an object. -/
theorem RgM.setRow (h : RgM w base s) {u : IdK} {b : Nat} {l l' : List ByteArray} (hq : (u, (b, l)) ∈ s.K) (hw : ∀ j, j ≠ b → w'.heap[j]? = w.heap[j]?) (hm : M.MapAt w' b tx txOk (entS l')) : RgM w' base { s with K := M.put s.K u (b, l') } := by
  obtain ⟨n1, n2, n3⟩ := h.bne hq
  have hk := h.keys
  have e1 : entK (M.put s.K u (b, l')) = entK s.K := by
    unfold entK
    rw [← M.put_on]
    refine put_idG ?_
    rw [M.look_on, M.look_of_mem hk hq]
    rfl
  have e2 : (M.put s.K u (b, l')).map (·.2.1) = s.K.map (·.2.1) := by
    have : M.onV (·.1) (M.put s.K u (b, l')) = M.onV (·.1) s.K := by
      rw [← M.put_on]
      refine put_idG ?_
      rw [M.look_on, M.look_of_mem hk hq]
      rfl
    have := congrArg (fun E => E.map (·.2)) this
    simpa [M.onV, Function.comp_def] using this
  have ebl : ({ s with K := M.put s.K u (b, l') } : Rs).bl = s.bl := by unfold Rs.bl; simp only [e2]
  refine ⟨(hw _ (Ne.symm n1)).trans h.cell, h.pl.below (hw _ (Ne.symm n2)), ?_, ?_, fun q hq' => ⟨(h.en q hq').1.keep (fun k hk' => hw k (fun e => h.apart hq' hk' (by rw [e]; exact Rs.row_bl hq))), (h.en q hq').2⟩, by rw [ebl]; exact h.dis, h.ead, by rw [ebl]; exact h.lo⟩
  · show M.MapAt w' s.bk IdK.v IdK.ok (entK (M.put s.K u (b, l')))
    rw [e1]
    exact h.kl.below (hw _ (Ne.symm n3))
  · intro r hr
    rcases put_memG hk hr with rfl | ⟨hr, hn⟩
    · exact hm
    · refine (h.kr r hr).below (hw _ (fun e => hn ?_))
      rw [nodup_injG (·.2.1) h.tbl.2.2.2 r hr _ hq e]
/-- An object's keys taken out. -/
theorem RgM.delRow (h : RgM w base s) {u : IdK} (hw : ∀ j, j ≠ s.bk → w'.heap[j]? = w.heap[j]?) (hm : M.MapAt w' s.bk IdK.v IdK.ok (M.del (entK s.K) u)) : RgM w' base { s with K := M.del s.K u } := by
  have hk := h.keys
  have hsub : ({ s with K := M.del s.K u } : Rs).bl.Sublist s.bl := by
    show (s.r :: s.bp :: s.bk :: (M.del s.K u).map (·.2.1)).Sublist (s.r :: s.bp :: s.bk :: s.K.map (·.2.1))
    exact List.Sublist.cons_cons _ (List.Sublist.cons_cons _ (List.Sublist.cons_cons _ (List.Sublist.map _ (del_subG _ _))))
  refine ⟨(hw _ h.tbl.2.1).trans h.cell, h.pl.below (hw _ h.tbl.2.2.1), ?_, ?_, fun q hq' => ⟨(h.en q hq').1.keep (fun k hk' => hw k (fun e => h.apart hq' hk' (by rw [e]; simp [Rs.bl]))), (h.en q hq').2⟩, h.dis.sublist hsub, h.ead, fun j hj => h.lo j (hsub.subset hj)⟩
  · show M.MapAt w' s.bk IdK.v IdK.ok (entK (M.del s.K u))
    rw [entK, ← M.del_on]
    exact hm
  · intro r hr
    have hr' := ((del_memG hk).1 hr).1
    exact (h.kr r hr').below (hw _ (h.bne hr').2.2)
/-- An object's keys put in. -/
theorem RgM.newRow (h : RgM w base s) {u : IdK} {b : Nat} (hn : M.look s.K u = none) (hb : b ∉ s.bl) (hbb : base ≤ b) (hw : ∀ j, j < w.heap.size → j ≠ s.bk → w'.heap[j]? = w.heap[j]?) (hm : M.MapAt w' s.bk IdK.v IdK.ok (M.put (entK s.K) u (.map (some b)))) {l : List ByteArray} (hl : M.MapAt w' b tx txOk (entS l)) : RgM w' base { s with K := M.put s.K u (b, l) } := by
  have hk := h.keys
  have e2 : M.put s.K u (b, l) = s.K ++ [(u, (b, l))] := put_newG hn
  have ebl : ({ s with K := M.put s.K u (b, l) } : Rs).bl = s.bl ++ [b] := by
    show s.r :: s.bp :: s.bk :: (M.put s.K u (b, l)).map (·.2.1) = _
    rw [e2, List.map_append]; rfl
  have old : ∀ j ∈ s.bl, j ≠ s.bk → w'.heap[j]? = w.heap[j]? := fun j hj hne => hw j (h.lt j hj) hne
  refine ⟨(old _ (by simp [Rs.bl]) h.tbl.2.1).trans h.cell, h.pl.below (old _ (by simp [Rs.bl]) h.tbl.2.2.1), ?_, ?_, fun q hq' => ⟨(h.en q hq').1.keep (fun k hk' => hw k ((h.en q hq').1.lt hk') (fun e => h.apart hq' hk' (by rw [e]; simp [Rs.bl]))), (h.en q hq').2⟩, ?_, h.ead, ?_⟩
  · show M.MapAt w' s.bk IdK.v IdK.ok (entK (M.put s.K u (b, l)))
    rw [entK, ← M.put_on]
    exact hm
  · intro r hr
    rcases put_memG hk hr with rfl | ⟨hr, _⟩
    · exact hl
    · exact (h.kr r hr).below (old _ (Rs.row_bl hr) (h.bne hr).2.2)
  · rw [ebl]
    refine List.nodup_append.2 ⟨h.dis, by simp, ?_⟩
    intro a ha c hc e
    simp at hc
    subst hc
    subst e
    exact hb ha
  · rw [ebl]
    intro j hj
    rcases List.mem_append.1 hj with q | q
    · exact h.lo j q
    · simp at q; rw [q]; exact hbb
/-- Another list at a place. -/
theorem RgM.setP (h : RgM w base s) {p : PlK} {v : Value} {L : List EnV} (hw : ∀ j, j ≠ s.bp → w'.heap[j]? = w.heap[j]?) (hm : M.MapAt w' s.bp PlK.v PlK.ok (M.put (entP s.P) p v)) (hv : RN.Lo w' base v L) (hne : L ≠ []) (ok : ∀ x ∈ L, x.ok) (hap : ∀ q ∈ s.P, q.1 ≠ p → q.2.1.ownBlock ≠ v.ownBlock) : RgM w' base { s with P := M.put s.P p (v, L) } := by
  have hk := h.places
  refine ⟨(hw _ h.tbl.1).trans h.cell, ?_, h.kl.below (hw _ (Ne.symm h.tbl.2.2.1)), fun r hr => (h.kr r hr).below (hw _ (h.bne hr).2.1), ?_, h.dis, ?_, h.lo⟩
  · show M.MapAt w' s.bp PlK.v PlK.ok (entP (M.put s.P p (v, L)))
    rw [entP, ← M.put_on]
    exact hm
  · intro q hq
    rcases put_memG hk hq with rfl | ⟨hq, _⟩
    · exact ⟨hv, hne, ok⟩
    · exact ⟨(h.en q hq).1.keep (fun k hk' => hw k (fun e => h.apart hq hk' (by rw [e]; simp [Rs.bl]))), (h.en q hq).2⟩
  · show ((M.put s.P p (v, L)).map (·.2.1.ownBlock)).Nodup
    have hkeys := M.put_keys s.P p (v, L) hk
    have key : ∀ a ∈ M.put s.P p (v, L), ∀ b ∈ M.put s.P p (v, L), a.2.1.ownBlock = b.2.1.ownBlock → a.1 = b.1 := fun a ha b hb e => by
      rcases put_memG hk ha with rfl | ⟨ha, na⟩
      · rcases put_memG hk hb with rfl | ⟨hb, nb⟩
        · rfl
        · exact absurd e.symm (hap b hb nb)
      · rcases put_memG hk hb with rfl | ⟨hb, nb⟩
        · exact absurd e (hap a ha na)
        · rw [nodup_injG (·.2.1.ownBlock) h.ead a ha b hb e]
    exact nodup_of_keys (f := fun q : PlK × (Value × List EnV) => q.1) (g := fun q : PlK × (Value × List EnV) => q.2.1.ownBlock) hkeys key
/-- Nothing at a place. -/
theorem RgM.delP (h : RgM w base s) {p : PlK} (hw : ∀ j, j ≠ s.bp → w'.heap[j]? = w.heap[j]?) (hm : M.MapAt w' s.bp PlK.v PlK.ok (M.del (entP s.P) p)) : RgM w' base { s with P := M.del s.P p } := by
  have hk := h.places
  refine ⟨(hw _ h.tbl.1).trans h.cell, ?_, h.kl.below (hw _ (Ne.symm h.tbl.2.2.1)), fun r hr => (h.kr r hr).below (hw _ (h.bne hr).2.1), ?_, h.dis, h.ead.sublist (List.Sublist.map _ (del_subG _ _)), h.lo⟩
  · show M.MapAt w' s.bp PlK.v PlK.ok (entP (M.del s.P p))
    rw [entP, ← M.del_on]
    exact hm
  · intro q hq
    have hq' := ((del_memG hk).1 hq).1
    exact ⟨(h.en q hq').1.keep (fun k hk' => hw k (fun e => h.apart hq' hk' (by rw [e]; simp [Rs.bl]))), (h.en q hq').2⟩
end
end Go.Proofs.YtldlljobofnmmabDoor
