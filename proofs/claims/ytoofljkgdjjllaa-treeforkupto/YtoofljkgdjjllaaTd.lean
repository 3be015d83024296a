import Derived.Test.YtoofljkgdjjllaaTc
namespace Go.Proofs.Ytoofljkgdjjllaa
open Go.RowKit
set_option linter.unusedVariables false
set_option linter.unusedSimpArgs false

/-- A tree as it lies in memory: its block, the blocks of its maps; its nodes; its rows (a row's map, and who is in it); its last step. -/
structure Tr where
  t : Nat
  bn : Nat
  br : Nat
  N : List (IdK × NodeV)
  R : List (IdK × (Nat × List IdK))
  last : Option Addr
def entR (R : List (IdK × (Nat × List IdK))) : List (IdK × Value) := M.onV (fun q => Value.map (some q.1)) R
def entU (l : List IdK) : List (IdK × Value) := M.onV (fun _ : Unit => Value.agg #[]) (l.map fun k => (k, ()))
def Tr.bl (s : Tr) : List Nat := s.t :: s.bn :: s.br :: s.R.map (·.2.1)
structure TrAt (w : World) (s : Tr) : Prop where
  cell : w.heap[s.t]? = some (.cells #[.map (some s.bn), .map (some s.br), .pointer s.last] 82 (0, 0))
  nodes : M.MapAt w s.bn IdK.v IdK.ok (entN s.N)
  rows : M.MapAt w s.br IdK.v IdK.ok (entR s.R)
  row : ∀ r ∈ s.R, M.MapAt w r.2.1 IdK.v IdK.ok (entU r.2.2)
  uok : ∀ p ∈ s.N, p.2.u.ok
  dis : s.bl.Nodup
/-- The rows show just this. -/
structure RowsOk (R : List (IdK × (Nat × List IdK))) (Sh : IdK → IdK → Prop) : Prop where
  full : ∀ r ∈ R, r.2.2 ≠ []
  mem : ∀ r ∈ R, ∀ k, k ∈ r.2.2 ↔ Sh r.1 k
  all : ∀ u k, Sh u k → ∃ q, (u, q) ∈ R
def shN (N : List (IdK × NodeV)) (u k : IdK) : Prop := ∃ n, lookN N k = some n ∧ n.pr = false ∧ n.u = u
theorem TrAt.lt {w : World} {s : Tr} (h : TrAt w s) : ∀ k ∈ s.bl, k < w.heap.size := by
  intro k hk
  rcases List.mem_cons.1 hk with rfl | hk
  · exact (Array.getElem?_eq_some_iff.1 h.cell).1
  rcases List.mem_cons.1 hk with rfl | hk
  · exact h.nodes.lt
  rcases List.mem_cons.1 hk with rfl | hk
  · exact h.rows.lt
  · obtain ⟨r, hr, rfl⟩ := List.mem_map.1 hk
    exact (h.row r hr).lt
theorem TrAt.same {w w' : World} {s : Tr} (h : TrAt w s) (hb : ∀ k ∈ s.bl, w'.heap[k]? = w.heap[k]?) : TrAt w' s :=
  ⟨(hb _ (by simp [Tr.bl])).trans h.cell, h.nodes.below (hb _ (by simp [Tr.bl])), h.rows.below (hb _ (by simp [Tr.bl])), fun r hr => (h.row r hr).below (hb _ (by
    unfold Tr.bl
    exact List.mem_cons_of_mem _ (List.mem_cons_of_mem _ (List.mem_cons_of_mem _ (List.mem_map.2 ⟨r, hr, rfl⟩))))), h.uok, h.dis⟩
theorem TrAt.below {w w' : World} {s : Tr} (h : TrAt w s) (hb : Below w.heap.size w w') : TrAt w' s := h.same fun k hk => hb.block k (h.lt k hk)
theorem TrAt.c0 {w : World} {s : Tr} (h : TrAt w s) : w.cell? ⟨s.t, 0, none⟩ = some (.map (some s.bn)) := by rw [cell_of_row _ _ 0 _ _ _ h.cell]; rfl
theorem TrAt.c1 {w : World} {s : Tr} (h : TrAt w s) : w.cell? ⟨s.t, 1, none⟩ = some (.map (some s.br)) := by rw [cell_of_row _ _ 1 _ _ _ h.cell]; rfl
theorem TrAt.c2 {w : World} {s : Tr} (h : TrAt w s) : w.cell? ⟨s.t, 2, none⟩ = some (.pointer s.last) := by rw [cell_of_row _ _ 2 _ _ _ h.cell]; rfl
theorem TrAt.keys {w : World} {s : Tr} (h : TrAt w s) : (s.R.map (·.1)).Nodup := by
  have := h.rows.2.1
  rwa [entR, M.onV_keys] at this
theorem zeroRow (w : World) : (zeroValue 95).run Try.prog w = .ok (.map none) w := by kernel_rfl
theorem zeroUnit (w : World) : (zeroValue 97).run Try.prog w = .ok (.agg #[]) w := by kernel_rfl
/-- What one finds among the rows. -/
theorem look_row {w : World} {s : Tr} (h : TrAt w s) (u : IdK) (hu : u.ok) :
    (Instr.lookup 80 (.map (some s.br)) u.v false).run Try.prog w = .ok (((M.look s.R u).map fun q => Value.map (some q.1)).getD (.map none)) w := by
  rw [M.run_look idKey Try.underlying80 h.rows u hu (zeroRow w) false, entR, M.look_on]
  rfl
theorem entU_keys (l : List IdK) : (entU l).map (·.1) = l := by
  unfold entU
  rw [M.onV_keys, List.map_map]
  exact List.map_id _
theorem entU_len (l : List IdK) : (entU l).length = l.length := by
  have := congrArg List.length (entU_keys l)
  simpa using this
theorem entU_of {E : List (IdK × Value)} (h : ∀ p ∈ E, p.2 = .agg #[]) : E = entU (E.map (·.1)) := by
  unfold entU M.onV
  rw [List.map_map, List.map_map]
  refine (List.map_id _).symm.trans (List.map_congr_left fun p hp => ?_)
  obtain ⟨k, v⟩ := p
  have := h _ hp
  simp only at this
  subst this
  rfl
theorem entU_val (l : List IdK) : ∀ p ∈ entU l, p.2 = .agg #[] := by
  intro p hp
  unfold entU M.onV at hp
  rw [List.map_map] at hp
  obtain ⟨k, _, rfl⟩ := List.mem_map.1 hp
  rfl
/-- A row with one more. -/
theorem put_U (l : List IdK) (k : IdK) (hl : l.Nodup) : ∃ l', M.put (entU l) k (.agg #[]) = entU l' ∧ (∀ x, x ∈ l' ↔ x ∈ l ∨ x = k) ∧ l' ≠ [] := by
  have hk : ((entU l).map (·.1)).Nodup := by rw [entU_keys]; exact hl
  have hE : ∀ p ∈ M.put (entU l) k (.agg #[]), p.2 = .agg #[] := by
    intro p hp
    have h1 := M.look_of_mem (M.put_keys _ k _ hk) hp
    rw [M.put_look _ _ _ hk] at h1
    split at h1
    · exact (Option.some.inj h1).symm
    · exact entU_val l _ (M.look_mem h1)
  have hm : ∀ x, x ∈ (M.put (entU l) k (.agg #[])).map (·.1) ↔ x ∈ l ∨ x = k := by
    intro x
    have a1 : x ∈ (M.put (entU l) k (.agg #[])).map (·.1) ↔ (M.look (M.put (entU l) k (.agg #[])) x).isSome = true := by
      constructor
      · intro h
        obtain ⟨p, hp, rfl⟩ := List.mem_map.1 h
        rw [M.look_of_mem (M.put_keys _ k _ hk) hp]; rfl
      · intro h
        obtain ⟨v, hv⟩ := Option.isSome_iff_exists.1 h
        exact List.mem_map.2 ⟨_, M.look_mem hv, rfl⟩
    have a2 : x ∈ l ↔ (M.look (entU l) x).isSome = true := by
      constructor
      · intro h
        rw [← entU_keys l] at h
        obtain ⟨p, hp, rfl⟩ := List.mem_map.1 h
        rw [M.look_of_mem hk hp]; rfl
      · intro h
        obtain ⟨v, hv⟩ := Option.isSome_iff_exists.1 h
        rw [← entU_keys l]
        exact List.mem_map.2 ⟨_, M.look_mem hv, rfl⟩
    rw [a1, a2, M.put_look _ _ _ hk]
    by_cases e : x = k
    · simp [e]
    · simp [e]
  refine ⟨_, entU_of hE, hm, fun e => ?_⟩
  have := (hm k).2 (Or.inr rfl)
  rw [e] at this
  cases this
/-- A row with one less. -/
theorem del_U (l : List IdK) (k : IdK) (hl : l.Nodup) : ∃ l', M.del (entU l) k = entU l' ∧ ∀ x, x ∈ l' ↔ x ∈ l ∧ x ≠ k := by
  have hk : ((entU l).map (·.1)).Nodup := by rw [entU_keys]; exact hl
  have hE : ∀ p ∈ M.del (entU l) k, p.2 = .agg #[] := by
    intro p hp
    have h1 := M.look_of_mem (M.del_keys _ k hk) hp
    rw [M.del_look _ _ hk] at h1
    split at h1
    · cases h1
    · exact entU_val l _ (M.look_mem h1)
  refine ⟨_, entU_of hE, fun x => ?_⟩
  have a1 : x ∈ (M.del (entU l) k).map (·.1) ↔ (M.look (M.del (entU l) k) x).isSome = true := by
    constructor
    · intro h
      obtain ⟨p, hp, rfl⟩ := List.mem_map.1 h
      rw [M.look_of_mem (M.del_keys _ k hk) hp]; rfl
    · intro h
      obtain ⟨v, hv⟩ := Option.isSome_iff_exists.1 h
      exact List.mem_map.2 ⟨_, M.look_mem hv, rfl⟩
  have a2 : x ∈ l ↔ (M.look (entU l) x).isSome = true := by
    constructor
    · intro h
      rw [← entU_keys l] at h
      obtain ⟨p, hp, rfl⟩ := List.mem_map.1 h
      rw [M.look_of_mem hk hp]; rfl
    · intro h
      obtain ⟨v, hv⟩ := Option.isSome_iff_exists.1 h
      rw [← entU_keys l]
      exact List.mem_map.2 ⟨_, M.look_mem hv, rfl⟩
  rw [a1, a2, M.del_look _ _ hk]
  by_cases e : x = k
  · simp [e]
  · simp [e]
end Go.Proofs.Ytoofljkgdjjllaa
