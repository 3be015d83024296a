import Derived.Test.YtoofljkgdjjllaaTd
namespace Go.Proofs.Ytoofljkgdjjllaa
open Go.RowKit
set_option linter.unusedVariables false
set_option linter.unusedSimpArgs false

theorem put_id {β : Type} {E : List (IdK × β)} {k : IdK} {v : β} (h : M.look E k = some v) : M.put E k v = E := by
  unfold M.look at h
  unfold M.put
  cases hf : M.fnd E k 0 with
  | none => rw [hf] at h; cases h
  | some q =>
    obtain ⟨i, u⟩ := q
    rw [hf] at h
    cases h
    have e := (M.fnd_some hf).1
    show E.set i (k, _) = E
    apply List.ext_getElem?
    intro j
    rw [List.getElem?_set]
    split
    · next ij =>
      subst ij
      rw [e, if_pos (M.fnd_some hf).2]
    · rfl
theorem put_mem {β : Type} {E : List (IdK × β)} {k : IdK} {v : β} (hn : (E.map (·.1)).Nodup) {p : IdK × β} (hp : p ∈ M.put E k v) : p = (k, v) ∨ (p ∈ E ∧ p.1 ≠ k) := by
  have h := M.look_of_mem (M.put_keys _ _ _ hn) hp
  rw [M.put_look _ _ _ hn] at h
  by_cases e : p.1 = k
  · rw [if_pos e] at h
    obtain ⟨a, b⟩ := p
    simp only at e h
    subst e
    cases h
    exact Or.inl rfl
  · rw [if_neg e] at h
    exact Or.inr ⟨M.look_mem h, e⟩
theorem put_in {β : Type} {E : List (IdK × β)} (k : IdK) (v : β) (hn : (E.map (·.1)).Nodup) : (k, v) ∈ M.put E k v := M.look_mem (by rw [M.put_look _ _ _ hn, if_pos rfl])
theorem put_old {β : Type} {E : List (IdK × β)} {k : IdK} (v : β) (hn : (E.map (·.1)).Nodup) {p : IdK × β} (hp : p ∈ E) (hk : p.1 ≠ k) : p ∈ M.put E k v :=
  M.look_mem (by rw [M.put_look _ _ _ hn, if_neg hk]; exact M.look_of_mem hn hp)
theorem del_mem {β : Type} {E : List (IdK × β)} {k : IdK} (hn : (E.map (·.1)).Nodup) {p : IdK × β} : p ∈ M.del E k ↔ p ∈ E ∧ p.1 ≠ k := by
  constructor
  · intro hp
    have h := M.look_of_mem (M.del_keys _ k hn) hp
    rw [M.del_look _ _ hn] at h
    by_cases e : p.1 = k
    · rw [if_pos e] at h; cases h
    · rw [if_neg e] at h; exact ⟨M.look_mem h, e⟩
  · rintro ⟨hp, e⟩
    exact M.look_mem (by rw [M.del_look _ _ hn, if_neg e]; exact M.look_of_mem hn hp)
theorem nodup_inj {α β : Type} (f : α → β) : ∀ {l : List α}, (l.map f).Nodup → ∀ a ∈ l, ∀ b ∈ l, f a = f b → a = b
  | [], _, a, ha, _, _, _ => by cases ha
  | x :: l, hn, a, ha, b, hb, e => by
    rw [List.map_cons, List.nodup_cons] at hn
    rcases List.mem_cons.1 ha with h1 | h1
    · rcases List.mem_cons.1 hb with h2 | h2
      · rw [h1, h2]
      · exact absurd (List.mem_map.2 ⟨b, h2, by rw [← e, h1]⟩) hn.1
    · rcases List.mem_cons.1 hb with h2 | h2
      · exact absurd (List.mem_map.2 ⟨a, h1, by rw [e, h2]⟩) hn.1
      · exact nodup_inj f hn.2 a h1 b h2 e
theorem Tr.row_bl {s : Tr} {r : IdK × (Nat × List IdK)} (hr : r ∈ s.R) : r.2.1 ∈ s.bl :=
  List.mem_cons_of_mem _ (List.mem_cons_of_mem _ (List.mem_cons_of_mem _ (List.mem_map.2 ⟨r, hr, rfl⟩)))
theorem TrAt.bne {w : World} {s : Tr} (h : TrAt w s) {r : IdK × (Nat × List IdK)} (hr : r ∈ s.R) : r.2.1 ≠ s.t ∧ r.2.1 ≠ s.bn ∧ r.2.1 ≠ s.br := by
  have hd := h.dis
  have hm : r.2.1 ∈ s.R.map (·.2.1) := List.mem_map.2 ⟨r, hr, rfl⟩
  unfold Tr.bl at hd
  simp only [List.nodup_cons, List.mem_cons, not_or] at hd
  exact ⟨fun e => hd.1.2.2 (e ▸ hm), fun e => hd.2.1.2 (e ▸ hm), fun e => hd.2.2.1 (e ▸ hm)⟩
theorem TrAt.tbl {w : World} {s : Tr} (h : TrAt w s) : s.t ≠ s.bn ∧ s.t ≠ s.br ∧ s.bn ≠ s.br ∧ (s.R.map (·.2.1)).Nodup := by
  have hd := h.dis
  unfold Tr.bl at hd
  simp only [List.nodup_cons, List.mem_cons, not_or] at hd
  exact ⟨hd.1.1, hd.1.2.1, hd.2.1.1, hd.2.2.2⟩
theorem TrAt.nodup {w : World} {s : Tr} (h : TrAt w s) {r : IdK × (Nat × List IdK)} (hr : r ∈ s.R) : r.2.2.Nodup := by
  have := (h.row r hr).2.1
  rwa [entU_keys] at this
theorem TrAt.ids {w : World} {s : Tr} (h : TrAt w s) {r : IdK × (Nat × List IdK)} (hr : r ∈ s.R) : ∀ k ∈ r.2.2, k.ok := by
  intro k hk
  rw [← entU_keys r.2.2] at hk
  obtain ⟨p, hp, rfl⟩ := List.mem_map.1 hk
  exact (h.row r hr).2.2 p hp
/-- Another list in a row. -/
theorem TrAt.setRow {w w' : World} {s : Tr} (h : TrAt w s) {u : IdK} {b : Nat} {l l' : List IdK} (hq : (u, (b, l)) ∈ s.R) (hw : ∀ j, j ≠ b → w'.heap[j]? = w.heap[j]?) (hm : M.MapAt w' b IdK.v IdK.ok (entU l')) : TrAt w' { s with R := M.put s.R u (b, l') } := by
  obtain ⟨n1, n2, n3⟩ := h.bne hq
  have hk := h.keys
  have e1 : entR (M.put s.R u (b, l')) = entR s.R := by
    unfold entR
    rw [← M.put_on]
    refine put_id ?_
    rw [M.look_on, M.look_of_mem hk hq]
    rfl
  have e2 : (M.put s.R u (b, l')).map (·.2.1) = s.R.map (·.2.1) := by
    have : M.onV (·.1) (M.put s.R u (b, l')) = M.onV (·.1) s.R := by
      rw [← M.put_on]
      refine put_id ?_
      rw [M.look_on, M.look_of_mem hk hq]
      rfl
    have := congrArg (fun E => E.map (·.2)) this
    simpa [M.onV, Function.comp_def] using this
  refine ⟨(hw _ (Ne.symm n1)).trans h.cell, h.nodes.below (hw _ (Ne.symm n2)), ?_, ?_, h.uok, ?_⟩
  · show M.MapAt w' s.br IdK.v IdK.ok (entR (M.put s.R u (b, l')))
    rw [e1]
    exact h.rows.below (hw _ (Ne.symm n3))
  · intro r hr
    rcases put_mem hk hr with rfl | ⟨hr, hn⟩
    · exact hm
    · refine (h.row r hr).below (hw _ (fun e => hn ?_))
      rw [nodup_inj (·.2.1) h.tbl.2.2.2 r hr _ hq e]
  · show (s.t :: s.bn :: s.br :: (M.put s.R u (b, l')).map (·.2.1)).Nodup
    rw [e2]
    exact h.dis
/-- A row taken out. -/
theorem TrAt.delRow {w w' : World} {s : Tr} (h : TrAt w s) {u : IdK} (hw : ∀ j, j ≠ s.br → w'.heap[j]? = w.heap[j]?) (hm : M.MapAt w' s.br IdK.v IdK.ok (M.del (entR s.R) u)) : TrAt w' { s with R := M.del s.R u } := by
  have hk := h.keys
  refine ⟨(hw _ h.tbl.2.1).trans h.cell, h.nodes.below (hw _ h.tbl.2.2.1), ?_, ?_, h.uok, ?_⟩
  · show M.MapAt w' s.br IdK.v IdK.ok (entR (M.del s.R u))
    rw [entR, ← M.del_on]
    exact hm
  · intro r hr
    have hr' := ((del_mem hk).1 hr).1
    exact (h.row r hr').below (hw _ (h.bne hr').2.2)
  · refine List.Nodup.sublist ?_ h.dis
    show (s.t :: s.bn :: s.br :: (M.del s.R u).map (·.2.1)).Sublist (s.t :: s.bn :: s.br :: s.R.map (·.2.1))
    refine List.Sublist.cons_cons _ (List.Sublist.cons_cons _ (List.Sublist.cons_cons _ (List.Sublist.map _ ?_)))
    unfold M.del
    split
    · exact List.eraseIdx_sublist _ _
    · exact List.Sublist.refl _
/-- A row put in. -/
theorem TrAt.newRow {w w' : World} {s : Tr} (h : TrAt w s) {u : IdK} {b : Nat} (hn : M.look s.R u = none) (hb : b ∉ s.bl) (hw : ∀ j, j ∈ s.bl → j ≠ s.br → w'.heap[j]? = w.heap[j]?) (hm : M.MapAt w' s.br IdK.v IdK.ok (M.put (entR s.R) u (.map (some b)))) {l : List IdK} (hl : M.MapAt w' b IdK.v IdK.ok (entU l)) : TrAt w' { s with R := M.put s.R u (b, l) } := by
  have hk := h.keys
  have e2 : M.put s.R u (b, l) = s.R ++ [(u, (b, l))] := by
    unfold M.look at hn
    unfold M.put
    cases hf : M.fnd s.R u 0 with
    | none => rfl
    | some q => rw [hf] at hn; cases hn
  refine ⟨(hw _ (by simp [Tr.bl]) h.tbl.2.1).trans h.cell, h.nodes.below (hw _ (by simp [Tr.bl]) h.tbl.2.2.1), ?_, ?_, h.uok, ?_⟩
  · show M.MapAt w' s.br IdK.v IdK.ok (entR (M.put s.R u (b, l)))
    rw [entR, ← M.put_on]
    exact hm
  · intro r hr
    rcases put_mem hk hr with rfl | ⟨hr, _⟩
    · exact hl
    · exact (h.row r hr).below (hw _ (Tr.row_bl hr) (h.bne hr).2.2)
  · show (s.t :: s.bn :: s.br :: (M.put s.R u (b, l)).map (·.2.1)).Nodup
    rw [e2, List.map_append, ← List.cons_append, ← List.cons_append, ← List.cons_append]
    refine List.nodup_append.2 ⟨h.dis, by simp, ?_⟩
    intro a ha c hc e
    simp at hc
    subst hc
    subst e
    exact hb ha
/-- Another node. -/
theorem TrAt.setNode {w w' : World} {s : Tr} (h : TrAt w s) {k : IdK} {n : NodeV} (hn : n.u.ok) (hw : ∀ j, j ≠ s.bn → w'.heap[j]? = w.heap[j]?) (hm : M.MapAt w' s.bn IdK.v IdK.ok (M.put (entN s.N) k n.v)) : TrAt w' { s with N := M.put s.N k n } := by
  have hk : (s.N.map (·.1)).Nodup := by have := h.nodes.2.1; rwa [entN, M.onV_keys] at this
  refine ⟨(hw _ h.tbl.1).trans h.cell, ?_, h.rows.below (hw _ (Ne.symm h.tbl.2.2.1)), fun r hr => (h.row r hr).below (hw _ (h.bne hr).2.1), ?_, h.dis⟩
  · show M.MapAt w' s.bn IdK.v IdK.ok (entN (M.put s.N k n))
    rw [entN, ← M.put_on]
    exact hm
  · intro p hp
    rcases put_mem hk hp with rfl | ⟨hp, _⟩
    · exact hn
    · exact h.uok p hp
/-- A node away. -/
theorem TrAt.delNode {w w' : World} {s : Tr} (h : TrAt w s) {k : IdK} (hw : ∀ j, j ≠ s.bn → w'.heap[j]? = w.heap[j]?) (hm : M.MapAt w' s.bn IdK.v IdK.ok (M.del (entN s.N) k)) : TrAt w' { s with N := M.del s.N k } := by
  have hk : (s.N.map (·.1)).Nodup := by have := h.nodes.2.1; rwa [entN, M.onV_keys] at this
  refine ⟨(hw _ h.tbl.1).trans h.cell, ?_, h.rows.below (hw _ (Ne.symm h.tbl.2.2.1)), fun r hr => (h.row r hr).below (hw _ (h.bne hr).2.1), ?_, h.dis⟩
  · show M.MapAt w' s.bn IdK.v IdK.ok (entN (M.del s.N k))
    rw [entN, ← M.del_on]
    exact hm
  · intro p hp
    exact h.uok p ((del_mem hk).1 hp).1
end Go.Proofs.Ytoofljkgdjjllaa
