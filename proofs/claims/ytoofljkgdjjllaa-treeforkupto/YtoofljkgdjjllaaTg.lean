import Derived.Test.YtoofljkgdjjllaaTf
namespace Go.Proofs.Ytoofljkgdjjllaa
open Go.RowKit
set_option linter.unusedVariables false
set_option linter.unusedSimpArgs false

theorem build_unit (w : World) : (Instr.build 97 #[]).run Try.prog w = .ok (.agg #[]) w := by kernel_rfl
theorem sh_put (N : List (IdK × NodeV)) (k : IdK) (n : NodeV) (hn : (N.map (·.1)).Nodup) (u x : IdK) : shN (M.put N k n) u x ↔ (x = k ∧ n.pr = false ∧ n.u = u) ∨ (x ≠ k ∧ shN N u x) := by
  unfold shN lookN
  rw [M.put_look _ _ _ hn]
  by_cases e : x = k
  · simp [e]
  · simp [e]
theorem put_defers (a : Act) (d : Nat) (v : Value) : (a.put (some d) v).defers = a.defers := rfl
theorem eql_map (b : Nat) (w : World) : (binOp .eql 95 (.map (some b)) (.map none)).run Try.prog w = .ok (.bool false) w := by kernel_rfl
theorem eql_nil (w : World) : (binOp .eql 95 (.map none) (.map none)).run Try.prog w = .ok (.bool true) w := by kernel_rfl
theorem RowsOk.putput {R : List (IdK × (Nat × List IdK))} {A B : IdK → IdK → Prop} (h : RowsOk R A) (hn : (R.map (·.1)).Nodup) {u : IdK} {p : Nat × List IdK} {b : Nat} {l : List IdK} (hl : l ≠ []) (hu : ∀ k, k ∈ l ↔ B u k) (he : ∀ v k, v ≠ u → (A v k ↔ B v k)) : RowsOk (M.put (M.put R u p) u (b, l)) B := by
  have hn' := M.put_keys R u p hn
  have hm : ∀ r ∈ M.put (M.put R u p) u (b, l), r = (u, (b, l)) ∨ (r ∈ R ∧ r.1 ≠ u) := fun r hr => by
    rcases put_mem hn' hr with e | ⟨h1, h2⟩
    · exact Or.inl e
    · rcases put_mem hn h1 with rfl | h3
      · exact absurd rfl h2
      · exact Or.inr h3
  refine ⟨fun r hr => ?_, fun r hr k => ?_, fun v k hb => ?_⟩
  · rcases hm r hr with rfl | ⟨hr, _⟩
    · exact hl
    · exact h.full r hr
  · rcases hm r hr with rfl | ⟨hr, hne⟩
    · exact hu k
    · exact (h.mem r hr k).trans (he _ _ hne)
  · by_cases e : v = u
    · subst e
      exact ⟨_, put_in _ _ hn'⟩
    · obtain ⟨q, hq⟩ := h.all v k ((he v k e).2 hb)
      exact ⟨q, put_old _ hn' (put_old _ hn hq e) e⟩
/-- Rows whose maps are these, or newer than m. -/
def RowsFrom (R' R : List (IdK × (Nat × List IdK))) (m : Nat) : Prop := ∀ r ∈ R', r.2.1 ∈ R.map (·.2.1) ∨ m ≤ r.2.1
/-- The last step of lay: the node into its row. -/
theorem lay_row (s : Tr) (k : IdK) (n : NodeV) (bi nb b : Nat) (l : List IdK) (a : Act) (w : World) (Q : Exit → Act → World → Prop) (hsz : a.tmps.size = 41)
    (h0 : a.tmps.getD 0 undef = .pointer (some ⟨s.t, 0, none⟩)) (h4 : a.tmps.getD 4 undef = .pointer (some ⟨bi, 0, none⟩)) (h5 : a.tmps.getD 5 undef = .pointer (some ⟨nb, 0, none⟩))
    (h : TrAt w s) (hq : (n.u, (b, l)) ∈ s.R) (hk : k.ok) (hn : n.u.ok) (hi : IdAt w bi k) (hb : NodeAt w nb n) (n1 : bi ≠ b) (n2 : nb ≠ b)
    (hp : ∀ a' w' l', (∀ x, x ∈ l' ↔ x ∈ l ∨ x = k) → l' ≠ [] → TrAt w' { s with R := M.put s.R n.u (b, l') } → Tch (fun j => j = b) w w' → a'.defers = a.defers → Q .normal a' w') :
    (Code.region 6 lay6_ops true).wp Try.prog Q a w := by
  obtain ⟨d1, d2, d3⟩ := h.bne hq
  have hlk : M.look s.R n.u = some (b, l) := M.look_of_mem h.keys hq
  obtain ⟨l', hl', hml, hne⟩ := put_U l k (h.nodup hq)
  obtain ⟨o3, e3, m3⟩ := M.run_put (P := Try.prog) idKey Try.underlying95 (w := w.drew) (b := b) (E := entU l) ((h.row _ hq).below rfl) k hk (.agg #[])
  rw [hl'] at m3
  have s3 : ∀ j, j ≠ b → (M.setM w.drew b o3).heap[j]? = w.heap[j]? := fun j hj => M.setM_other (w := w.drew) o3 hj
  have h3 : TrAt (M.setM w.drew b o3) { s with R := M.put s.R n.u (b, l') } := h.setRow hq s3 m3
  have t3 : Tch (fun j => j = b) w (M.setM w.drew b o3) := Tch.setM (O := fun j => j = b) ((Tch.refl _ w).drew) (Or.inr rfl) o3
  refine lay6 s.t bi nb (.map (some s.br)) n.u.v (.map (some b)) k.v (.agg #[]) (M.setM w.drew b o3) (fun wx => ∀ j, j ≠ b → wx.heap[j]? = w.heap[j]?) a w Q hsz h0 h4 h5 ?_ ?_ ?_ ?_ ?_ ?_ e3 ?_ ?_
  · exact fun j _ => rfl
  · intro wx hw
    exact load_rows ((World.cell?_of_block (w := w) (a := ⟨s.t, 1, none⟩) (hw s.t (Ne.symm d1))).trans h.c1)
  · intro wx hw
    exact load_under hn ((hw _ n2).trans hb)
  · intro wx hw
    have hrw : M.MapAt wx s.br IdK.v IdK.ok (entR s.R) := h.rows.below (hw _ (Ne.symm d3))
    rw [M.run_look idKey Try.underlying80 hrw n.u hn (zeroRow wx) false, entR, M.look_on, hlk]
    rfl
  · intro wx hw
    exact load_id hk ((hw _ n1).trans hi)
  · exact build_unit
  · exact s3
  · intro a' ha
    refine hp a' _ l' hml hne h3 t3 ?_
    rw [ha]
    simp only [put_defers]
set_option maxRecDepth 100000 in
set_option maxHeartbeats 2000000 in
theorem lay_any (s : Tr) (k : IdK) (n : NodeV) (w : World) (hk : k.ok) (hn : n.u.ok) (h : TrAt w s) (hr : RowsOk s.R (shN s.N)) :
    Calls Try.prog 46 #[.pointer (some ⟨s.t, 0, none⟩), k.v, n.v] w fun e w' => e = .returned (.tuple #[]) ∧
      ∃ R', TrAt w' { s with N := M.put s.N k n, R := R' } ∧ RowsOk R' (shN (M.put s.N k n)) ∧ Tch (fun j => j ∈ s.bl) w w' ∧ RowsFrom R' s.R w.heap.size := by
  have lt : s.t < w.heap.size := h.lt _ (by simp [Tr.bl])
  have hnk : (s.N.map (·.1)).Nodup := by have := h.nodes.2.1; rwa [entN, M.onV_keys] at this
  unfold IdK.v NodeV.v
  go_enter Try.func46, Try.ntmps46
  go_upto_region 1 with fail
  have hx : IdAt ((w.alloc (.cells k.c.toArray 37)).alloc (.cells n.c.toArray 94)) w.heap.size k := heap_alloc2_old _ _ _
  have nx : NodeAt ((w.alloc (.cells k.c.toArray 37)).alloc (.cells n.c.toArray 94)) (w.heap.size + 1) n := by
    have := heap_alloc_new (w.alloc (.cells k.c.toArray 37)) (.cells n.c.toArray 94)
    unfold NodeAt
    rw [← this]
    simp
  have bx : Below w.heap.size w ((w.alloc (.cells k.c.toArray 37)).alloc (.cells n.c.toArray 94)) := ((Below.refl _ _).alloc (Nat.le_refl _) _).alloc (by simp) _
  have zx : Hid (((w.alloc (.cells k.c.toArray 37)).alloc (.cells n.c.toArray 94)).heap.size = w.heap.size + 2) := by show _ = _; simp
  generalize (w.alloc (.cells k.c.toArray 37)).alloc (.cells n.c.toArray 94) = W at *
  have h1 : TrAt W s := h.below bx
  have hlv := leave_any s k W hk h1 hr
  have HL : Hid (∀ j ∈ s.bl, j < w.heap.size) := h.lt
  go_wp2_with (first
    | (refine wpList_val rfl (exec_load rfl rfl (load_id hk hx)) ?_)
    | (go_at_call 49; refine hlv.mono ?_; rintro e w3 ⟨rfl, R1, h3, hr3, t3, hb3⟩)
    | fail)
  rename_i K2 aK2
  have hx3 : IdAt w3 w.heap.size k := (t3.block _ (by have := zx.out; omega) (fun q => by have := HL.out _ q; omega)).trans hx
  have nx3 : NodeAt w3 (w.heap.size + 1) n := (t3.block _ (by have := zx.out; omega) (fun q => by have := HL.out _ q; omega)).trans nx
  have T3 : Tch (fun j => j ∈ s.bl) w w3 := (Tch.of_below bx (fun j h1 h2 => by omega)).trans t3
  obtain ⟨o4, e4, m4⟩ := M.run_put (P := Try.prog) idKey Try.underlying79 (w := w3.drew) (b := s.bn) (h3.nodes.below rfl) k hk n.v
  have s4 : ∀ j, j ≠ s.bn → (M.setM w3.drew s.bn o4).heap[j]? = w3.heap[j]? := fun j hj => M.setM_other (w := w3.drew) o4 hj
  have h4 : TrAt (M.setM w3.drew s.bn o4) { s with N := M.put s.N k n, R := R1 } := h3.setNode hn s4 m4
  have T4 : Tch (fun j => j ∈ s.bl) w (M.setM w3.drew s.bn o4) := T3.drew.setM (Or.inr (by simp [Tr.bl])) o4
  refine lay2 s.t w.heap.size (w.heap.size + 1) (.map (some s.bn)) k.v n.v (M.setM w3.drew s.bn o4) (fun wx => ∀ j, j ≠ s.bn → wx.heap[j]? = w3.heap[j]?) _ w3 _ rfl rfl rfl rfl ?_ ?_ ?_ ?_ e4 ?_ ?_
  · exact fun j _ => rfl
  · intro wx hw
    exact load_nodes ((World.cell?_of_block (w := w3) (a := ⟨s.t, 0, none⟩) (hw s.t h.tbl.1)).trans h3.c0)
  · intro wx hw
    exact load_id hk ((hw _ (by have := h.nodes.lt; omega)).trans hx3)
  · intro wx hw
    exact load_node hn ((hw _ (by have := h.nodes.lt; omega)).trans nx3)
  · exact s4
  · intro a' ha
    subst ha
    refine aK2 _ _ ?_
    clear aK2
    have hx4 : IdAt (M.setM w3.drew s.bn o4) w.heap.size k := (s4 _ (by have := h.nodes.lt; omega)).trans hx3
    have nx4 : NodeAt (M.setM w3.drew s.bn o4) (w.heap.size + 1) n := (s4 _ (by have := h.nodes.lt; omega)).trans nx3
    generalize M.setM w3.drew s.bn o4 = w4 at *
    have pc := cell_pr hn nx4
    simp only [Act.put, List.setIfInBounds_toArray, List.set_cons_zero, List.set_cons_succ]
    cases hp : n.pr with
    | true =>
      rw [hp] at pc
      go_wp2
      refine bodyPost_ret (results_none rfl _ _ _) rfl ?_
      refine ⟨rfl, R1, h4, hr3.congr (fun u x => ?_), T4, fun r hr => Or.inl (hb3 r hr)⟩
      rw [sh_put _ _ _ hnk, hp]
      constructor
      · exact fun q => Or.inr ⟨q.2, q.1⟩
      · rintro (⟨_, q, _⟩ | q)
        · cases q
        · exact ⟨q.2, q.1⟩
    | false =>
      rw [hp] at pc
      have hSh : ∀ v x, v ≠ n.u → ((shN s.N v x ∧ x ≠ k) ↔ shN (M.put s.N k n) v x) := fun v x hv => by
        rw [sh_put _ _ _ hnk]
        constructor
        · exact fun q => Or.inr ⟨q.2, q.1⟩
        · rintro (⟨_, _, q⟩ | q)
          · exact absurd q.symm hv
          · exact ⟨q.2, q.1⟩
      have hSu : ∀ x, shN (M.put s.N k n) n.u x ↔ (shN s.N n.u x ∧ x ≠ k) ∨ x = k := fun x => by
        rw [sh_put _ _ _ hnk, hp]
        by_cases e : x = k
        · simp [e]
        · simp [e]
      have hm4 : ∀ r ∈ R1, r.2.1 < w.heap.size := fun r hr => by
        obtain ⟨r', q1, q2⟩ := List.mem_map.1 (hb3 r hr)
        rw [← q2]
        exact HL.out _ (Tr.row_bl q1)
      go_wp2
      rename_i K4 aK4
      cases hlk : M.look R1 n.u with
      | some q =>
        obtain ⟨b, l⟩ := q
        have hq : (n.u, (b, l)) ∈ R1 := M.look_mem hlk
        refine lay4 s.t (w.heap.size + 1) (.map (some s.br)) n.u.v (.map (some b)) false (fun wx => ∀ j : Nat, wx.heap[j]? = w4.heap[j]?) _ w4 _ rfl rfl rfl ?_ ?_ ?_ ?_ ?_ ?_ ?_
        · exact fun j => rfl
        · intro wx hw
          exact load_rows ((World.cell?_of_block (w := w4) (a := ⟨s.t, 1, none⟩) (hw s.t)).trans h4.c1)
        · intro wx hw
          exact load_under hn ((hw _).trans nx4)
        · intro wx hw
          have hrw : M.MapAt wx s.br IdK.v IdK.ok (entR R1) := h4.rows.below (hw _)
          rw [M.run_look idKey Try.underlying80 hrw n.u hn (zeroRow wx) false, entR, M.look_on, hlk]
          rfl
        · intro wx
          simp [eqGuard]
        · exact fun wx _ => eql_map b wx
        · intro a' ha
          subst ha
          refine aK4 _ _ ?_
          clear aK4
          simp only [Act.put, List.setIfInBounds_toArray, List.set_cons_zero, List.set_cons_succ]
          go_wp2
          refine lay_row { s with N := M.put s.N k n, R := R1 } k n w.heap.size (w.heap.size + 1) b l _ w4.drew _ rfl rfl rfl rfl (h4.same (fun _ _ => rfl)) hq hk hn hx4 nx4 (by have := hm4 _ hq; simp only at this; omega) (by have := hm4 _ hq; simp only at this; omega) ?_
          rintro a' w' l' hml hne h' t' hd
          refine bodyPost_end (results_none rfl _ _ _) hd ?_
          refine ⟨rfl, _, h', hr3.put h4.keys hne (fun x => ?_) hSh, T4.drew.trans' t' (fun j _ e => ?_), fun r hr' => ?_⟩
          · rw [hml, hSu, ← hr3.mem _ hq x]
          · subst e
            obtain ⟨r', q1, q2⟩ := List.mem_map.1 (hb3 _ hq)
            simp only at q2
            rw [← q2]
            exact Tr.row_bl q1
          · rcases put_mem h4.keys hr' with rfl | ⟨hr', _⟩
            · exact Or.inl (show b ∈ _ from hb3 (n.u, (b, l)) hq)
            · exact Or.inl (hb3 _ hr')
      | none =>
        refine lay4 s.t (w.heap.size + 1) (.map (some s.br)) n.u.v (.map none) true (fun wx => ∀ j : Nat, wx.heap[j]? = w4.heap[j]?) _ w4 _ rfl rfl rfl ?_ ?_ ?_ ?_ ?_ ?_ ?_
        · exact fun j => rfl
        · intro wx hw
          exact load_rows ((World.cell?_of_block (w := w4) (a := ⟨s.t, 1, none⟩) (hw s.t)).trans h4.c1)
        · intro wx hw
          exact load_under hn ((hw _).trans nx4)
        · intro wx hw
          have hrw : M.MapAt wx s.br IdK.v IdK.ok (entR R1) := h4.rows.below (hw _)
          rw [M.run_look idKey Try.underlying80 hrw n.u hn (zeroRow wx) false, entR, M.look_on, hlk]
          rfl
        · intro wx
          simp [eqGuard]
        · exact fun wx _ => eql_nil wx
        · intro a' ha
          subst ha
          refine aK4 _ _ ?_
          clear aK4
          simp only [Act.put, List.setIfInBounds_toArray, List.set_cons_zero, List.set_cons_succ]
          have h4' : TrAt w4.drew { s with N := M.put s.N k n, R := R1 } := h4.same (fun _ _ => rfl)
          have lt4 := h4'.lt
          have g5 : ∀ j, j < w4.heap.size → (w4.drew.drew.alloc (.map #[] 0)).heap[j]? = w4.heap[j]? := fun j hj => Below.heap_alloc w4.drew.drew _ j hj
          have h5 : TrAt (w4.drew.drew.alloc (.map #[] 0)) { s with N := M.put s.N k n, R := R1 } := h4.same (fun j hj => g5 j (h4.lt j hj))
          have m5 : M.MapAt (w4.drew.drew.alloc (.map #[] 0)) w4.heap.size IdK.v IdK.ok [] := M.MapAt.new w4.drew.drew _ _
          have T5 : Tch (fun j => j ∈ s.bl) w (w4.drew.drew.alloc (.map #[] 0)) := T4.drew.drew.alloc _
          have i4 : w.heap.size < w4.heap.size := (Array.getElem?_eq_some_iff.1 hx4).1
          have i5 : w.heap.size + 1 < w4.heap.size := (Array.getElem?_eq_some_iff.1 nx4).1
          have hx5 : IdAt (w4.drew.drew.alloc (.map #[] 0)) w.heap.size k := (g5 _ i4).trans hx4
          have nx5 : NodeAt (w4.drew.drew.alloc (.map #[] 0)) (w.heap.size + 1) n := (g5 _ i5).trans nx4
          have e5 : (Instr.makeMap 95 none).run Try.prog w4.drew.drew = .ok (.map (some w4.heap.size)) (w4.drew.drew.alloc (.map #[] 0)) := rfl
          have I4 : Hid (w.heap.size + 1 < w4.heap.size) := i5
          have NB : Hid (w4.heap.size ∉ s.bl) := fun q => by have := HL.out _ q; omega
          have BR : Hid (s.br < w.heap.size) := HL.out _ (by simp [Tr.bl])
          clear i4 i5 lt4
          generalize w4.drew.drew.alloc (.map #[] 0) = w5 at *
          obtain ⟨o6, e6, m6⟩ := M.run_put (P := Try.prog) idKey Try.underlying80 (w := w5) (b := s.br) h5.rows n.u hn (.map (some w4.heap.size))
          have s6 : ∀ j, j ≠ s.br → (M.setM w5 s.br o6).heap[j]? = w5.heap[j]? := fun j hj => M.setM_other (w := w5) o6 hj
          have h6 : TrAt (M.setM w5 s.br o6) { s with N := M.put s.N k n, R := M.put R1 n.u (w4.heap.size, []) } := h5.newRow hlk (fun q => by
            have := h4.lt _ q
            omega) (fun j _ hj => s6 j hj) m6 (m5.below (s6 _ (by have := I4.out; have := BR.out; omega)))
          have T6 : Tch (fun j => j ∈ s.bl) w (M.setM w5 s.br o6) := T5.setM (Or.inr (by simp [Tr.bl])) o6
          have hx6 : IdAt (M.setM w5 s.br o6) w.heap.size k := (s6 _ (by have := BR.out; omega)).trans hx5
          have nx6 : NodeAt (M.setM w5 s.br o6) (w.heap.size + 1) n := (s6 _ (by have := BR.out; omega)).trans nx5
          go_wp2
          rename_i K5 aK5
          refine lay5 s.t (w.heap.size + 1) (.map (some s.br)) n.u.v (.map (some w4.heap.size)) w5 (M.setM w5 s.br o6) (fun wx => ∀ j, j ≠ s.br → j < w4.heap.size → wx.heap[j]? = w4.heap[j]?) _ w4.drew _ rfl rfl rfl ?_ ?_ ?_ e5 ?_ e6 ?_ ?_
          · exact fun j _ _ => rfl
          · intro wx hw
            exact load_rows ((World.cell?_of_block (w := w4) (a := ⟨s.t, 1, none⟩) (hw s.t h.tbl.2.1 (h4.lt s.t (by simp [Tr.bl])))).trans h4.c1)
          · intro wx hw
            exact load_under hn ((hw _ (by have := BR.out; omega) I4.out).trans nx4)
          · exact fun j _ hj => g5 j hj
          · exact fun j h1 h2 => (s6 j h1).trans (g5 j h2)
          · intro a' ha
            subst ha
            refine aK5 _ _ ?_
            clear aK5
            simp only [Act.put, List.setIfInBounds_toArray, List.set_cons_zero, List.set_cons_succ]
            generalize M.setM w5 s.br o6 = w6 at *
            go_wp2
            refine lay_row { s with N := M.put s.N k n, R := M.put R1 n.u (w4.heap.size, []) } k n w.heap.size (w.heap.size + 1) w4.heap.size [] _ w6 _ rfl rfl rfl rfl h6 (put_in _ _ h4.keys) hk hn hx6 nx6 (by have := I4.out; omega) (by have := I4.out; omega) ?_
            rintro a' w' l' hml hne h' t' hd
            refine bodyPost_end (results_none rfl _ _ _) hd ?_
            refine ⟨rfl, _, h', hr3.putput h4.keys hne (fun x => ?_) hSh, T6.trans' t' (fun j hj e => ?_), fun r hr' => ?_⟩
            · rw [hml, hSu]
              constructor
              · rintro (q | q)
                · cases q
                · exact Or.inr q
              · rintro (q | q)
                · obtain ⟨y, hy⟩ := hr3.all n.u x q
                  rw [M.look_of_mem h4.keys hy] at hlk
                  cases hlk
                · exact Or.inr q
            · subst e
              have := I4.out
              omega
            · rcases put_mem (M.put_keys _ _ _ h4.keys) hr' with rfl | ⟨hr', hne'⟩
              · exact Or.inr (by show w.heap.size ≤ w4.heap.size; have := I4.out; omega)
              · rcases put_mem h4.keys hr' with rfl | ⟨hr', _⟩
                · exact absurd rfl hne'
                · exact Or.inl (hb3 _ hr')
end Go.Proofs.Ytoofljkgdjjllaa
