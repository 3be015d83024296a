import Derived.Test.YtoofljkgdjjllaaTe
namespace Go.Proofs.Ytoofljkgdjjllaa
open Go.RowKit
set_option linter.unusedVariables false
set_option linter.unusedSimpArgs false

theorem RowsOk.congr {R : List (IdK × (Nat × List IdK))} {A B : IdK → IdK → Prop} (h : RowsOk R A) (e : ∀ u k, A u k ↔ B u k) : RowsOk R B :=
  ⟨h.full, fun r hr k => (h.mem r hr k).trans (e _ _), fun u k hb => h.all u k ((e u k).2 hb)⟩
/-- A row with another list, not empty. -/
theorem RowsOk.put {R : List (IdK × (Nat × List IdK))} {A B : IdK → IdK → Prop} (h : RowsOk R A) (hn : (R.map (·.1)).Nodup) {u : IdK} {b : Nat} {l : List IdK} (hl : l ≠ []) (hu : ∀ k, k ∈ l ↔ B u k) (he : ∀ v k, v ≠ u → (A v k ↔ B v k)) : RowsOk (M.put R u (b, l)) B := by
  refine ⟨fun r hr => ?_, fun r hr k => ?_, fun v k hb => ?_⟩
  · rcases put_mem hn hr with rfl | ⟨hr, _⟩
    · exact hl
    · exact h.full r hr
  · rcases put_mem hn hr with rfl | ⟨hr, hne⟩
    · exact hu k
    · exact (h.mem r hr k).trans (he _ _ hne)
  · by_cases e : v = u
    · subst e
      exact ⟨_, put_in _ _ hn⟩
    · obtain ⟨q, hq⟩ := h.all v k ((he v k e).2 hb)
      exact ⟨q, put_old _ hn hq e⟩
/-- A row away. -/
theorem RowsOk.del {R : List (IdK × (Nat × List IdK))} {A B : IdK → IdK → Prop} (h : RowsOk R A) (hn : (R.map (·.1)).Nodup) {u : IdK} (hu : ∀ k, ¬ B u k) (he : ∀ v k, v ≠ u → (A v k ↔ B v k)) : RowsOk (M.del R u) B := by
  refine ⟨fun r hr => h.full r ((del_mem hn).1 hr).1, fun r hr k => ?_, fun v k hb => ?_⟩
  · obtain ⟨hr, hne⟩ := (del_mem hn).1 hr
    exact (h.mem r hr k).trans (he _ _ hne)
  · have e : v ≠ u := fun e => hu k (e ▸ hb)
    obtain ⟨q, hq⟩ := h.all v k ((he v k e).2 hb)
    exact ⟨q, (del_mem hn).2 ⟨hq, e⟩⟩
/-- A row's last one away, and the row. -/
theorem RowsOk.delput {R : List (IdK × (Nat × List IdK))} {A B : IdK → IdK → Prop} (h : RowsOk R A) (hn : (R.map (·.1)).Nodup) {u : IdK} {q : Nat × List IdK} (hu : ∀ k, ¬ B u k) (he : ∀ v k, v ≠ u → (A v k ↔ B v k)) : RowsOk (M.del (M.put R u q) u) B := by
  have hn' := M.put_keys R u q hn
  have hm : ∀ r ∈ M.del (M.put R u q) u, r ∈ R ∧ r.1 ≠ u := fun r hr => by
    obtain ⟨h1, h2⟩ := (del_mem hn').1 hr
    rcases put_mem hn h1 with rfl | h3
    · exact absurd rfl h2
    · exact h3
  refine ⟨fun r hr => h.full r (hm r hr).1, fun r hr k => (h.mem r (hm r hr).1 k).trans (he _ _ (hm r hr).2), fun v k hb => ?_⟩
  have e : v ≠ u := fun e => hu k (e ▸ hb)
  obtain ⟨x, hx⟩ := h.all v k ((he v k e).2 hb)
  exact ⟨x, (del_mem hn').2 ⟨put_old _ hn hx e, e⟩⟩
theorem put_bl {R : List (IdK × (Nat × List IdK))} (hn : (R.map (·.1)).Nodup) {u : IdK} {b : Nat} {l l' : List IdK} (hq : (u, (b, l)) ∈ R) : ∀ r ∈ M.put R u (b, l'), r.2.1 ∈ R.map (·.2.1) := by
  intro r hr
  rcases put_mem hn hr with rfl | ⟨hr, _⟩
  · exact List.mem_map.2 ⟨_, hq, rfl⟩
  · exact List.mem_map.2 ⟨r, hr, rfl⟩
theorem eql_len (l : List IdK) (w : World) : (binOp .eql 3 (.int .i64 (l.length : Int)) (.int .i64 0)).run Try.prog w = .ok (.bool (decide (l = []))) w := by
  cases l with
  | nil => rfl
  | cons a l =>
    have e : ((((a :: l).length : Nat) : Int) == 0) = false := by simp; omega
    simp only [binOp, Op.intCmp, ne_eq, not_true_eq_false, if_false, e, Sem.run_pure]
    rfl
theorem load_pr {w : World} {b : Nat} {n : NodeV} (hn : n.u.ok) (h : NodeAt w b n) : (Instr.loadAt 4 (.pointer (some ⟨b, 34, none⟩))).run Try.prog w = .ok (.bool n.pr) w := by
  have := cell_pr hn h
  go_simp
set_option maxRecDepth 100000 in
set_option maxHeartbeats 2000000 in
theorem leave_any (s : Tr) (k : IdK) (w : World) (hk : k.ok) (h : TrAt w s) (hr : RowsOk s.R (shN s.N)) :
    Calls Try.prog 49 #[.pointer (some ⟨s.t, 0, none⟩), k.v] w fun e w' => e = .returned (.tuple #[]) ∧
      ∃ R', TrAt w' { s with R := R' } ∧ RowsOk R' (fun u x => shN s.N u x ∧ x ≠ k) ∧ Tch (fun j => j ∈ s.bl) w w' ∧ ∀ r ∈ R', r.2.1 ∈ s.R.map (·.2.1) := by
  have lt : s.t < w.heap.size := h.lt _ (by simp [Tr.bl])
  unfold IdK.v
  go_enter Try.func49, Try.ntmps49
  go_wp2
  rename_i Q1 K1 aK
  have hx : IdAt (w.alloc (.cells k.c.toArray 37)) w.heap.size k := heap_alloc_new _ _
  have bx : Below w.heap.size w (w.alloc (.cells k.c.toArray 37)) := (Below.refl _ _).alloc (Nat.le_refl _) _
  have zx : (w.alloc (.cells k.c.toArray 37)).heap.size = w.heap.size + 1 := by simp
  generalize w.alloc (.cells k.c.toArray 37) = W at *
  have hn : ((lookN s.N k).getD zNode).u.ok := find_ok h.uok k
  obtain ⟨w1, w2, e1, e2, b1, b2, n2, z2⟩ := node_new W.drew _ hn
  replace b1 : Below W.heap.size W w1 := (Below.refl _ _).drew.trans b1
  replace b2 : Below W.heap.size W w2 := (Below.refl _ _).drew.trans b2
  refine leave1 s.t w.heap.size W.heap.size (.map (some s.bn)) k.v ((lookN s.N k).getD zNode).v (lookN s.N k).isSome w1 w2 (fun wx => Below W.heap.size W wx) _ W _ rfl rfl rfl ?_ ?_ ?_ ?_ e1 ?_ e2 ?_ ?_
  · exact (Below.refl _ _).drew
  · intro wx hw
    exact load_nodes ((hw.cell (by show s.t < _; omega)).trans ((bx.cell lt).trans h.c0))
  · intro wx hw
    exact load_id hk ((hw.block _ (by omega)).trans hx)
  · intro wx hw
    exact look_node s.bn s.N wx k hk (h.nodes.below ((hw.block _ (by have := h.nodes.lt; omega)).trans (bx.block _ h.nodes.lt)))
  · exact b1
  · exact b2
  · intro a' ha
    subst ha
    refine aK _ _ ?_
    clear aK e1 e2
    have b3 : Below w.heap.size w w2 := bx.trans (Below.mono b2 (by omega))
    have h2 : TrAt w2 s := h.below b3
    have hx2 : IdAt w2 w.heap.size k := (b2.block _ (by omega)).trans hx
    simp only [Act.put, List.setIfInBounds_toArray, List.set_cons_zero, List.set_cons_succ]
    replace n2 : NodeAt w2 W.heap.size ((lookN s.N k).getD zNode) := n2
    clear z2 b1
    generalize hnb : W.heap.size = nb at *
    have ZX : Hid (nb = w.heap.size + 1) := zx
    clear zx hnb
    cases hl : lookN s.N k with
    | none =>
      rw [hl] at n2
      go_wp2
      refine bodyPost_ret (results_none rfl _ _ _) rfl ?_
      refine ⟨rfl, s.R, h2, hr.congr (fun u x => ⟨fun q => ⟨q, ?_⟩, fun q => q.1⟩), Tch.of_below b3 (fun j h1 h2 => by omega), fun r hr => List.mem_map.2 ⟨r, hr, rfl⟩⟩
      rintro rfl
      obtain ⟨n, q, _⟩ := q
      rw [hl] at q
      cases q
    | some n =>
      rw [hl] at n2 hn
      have n2' : NodeAt w2 nb n := n2
      have hn' : n.u.ok := hn
      clear n2 hn
      have pc := cell_pr hn' n2'
      cases hp : n.pr with
      | true =>
        rw [hp] at pc
        go_wp2
        refine bodyPost_ret (results_none rfl _ _ _) rfl ?_
        refine ⟨rfl, s.R, h2, hr.congr (fun u x => ⟨fun q => ⟨q, ?_⟩, fun q => q.1⟩), Tch.of_below b3 (fun j h1 h2 => by omega), fun r hr => List.mem_map.2 ⟨r, hr, rfl⟩⟩
        rintro rfl
        obtain ⟨n', q, q2, _⟩ := q
        rw [hl] at q
        cases q
        rw [hp] at q2
        cases q2
      | false =>
        rw [hp] at pc
        obtain ⟨⟨b, l⟩, hq⟩ := hr.all n.u k ⟨n, hl, hp, rfl⟩
        obtain ⟨d1, d2, d3⟩ := h2.bne hq
        have db : b < w.heap.size := h.lt b (Tr.row_bl hq)
        have hlk : M.look s.R n.u = some (b, l) := M.look_of_mem h.keys hq
        obtain ⟨l', hl', hml⟩ := del_U l k (h.nodup hq)
        obtain ⟨o3, e3, m3⟩ := M.run_del (P := Try.prog) (ty := 0) idKey Try.underlying95 (w := w2.drew) (b := b) (E := entU l) ((h2.row _ hq).below rfl) k hk
        rw [hl'] at m3
        have s3 : ∀ j, j ≠ b → (M.setM w2.drew b o3).heap[j]? = w2.heap[j]? := fun j hj => M.setM_other (w := w2.drew) o3 hj
        have h3 : TrAt (M.setM w2.drew b o3) { s with R := M.put s.R n.u (b, l') } := h2.setRow hq s3 m3
        have t3 : Tch (fun j => j ∈ s.bl) w (M.setM w2.drew b o3) := ((Tch.of_below b3 (fun j h1 h2 => by omega)).drew).setM (Or.inr (Tr.row_bl hq)) o3
        go_wp2
        rename_i K3 aK3
        refine leave3 s.t w.heap.size nb (.map (some s.br)) n.u.v (.map (some b)) k.v (M.setM w2.drew b o3) (fun wx => ∀ j, j ≠ b → wx.heap[j]? = w2.heap[j]?) _ w2 _ rfl rfl rfl rfl ?_ ?_ ?_ ?_ ?_ e3 ?_ ?_
        · exact fun j _ => rfl
        · intro wx hw
          exact load_rows ((World.cell?_of_block (w := w2) (a := ⟨s.t, 1, none⟩) (hw s.t (Ne.symm d1))).trans h2.c1)
        · intro wx hw
          exact load_under hn' ((hw _ (by have := ZX.out; omega)).trans n2')
        · intro wx hw
          have := look_row (h2.same (w' := w2) (fun _ _ => rfl)) n.u hn'
          have hrw : M.MapAt wx s.br IdK.v IdK.ok (entR s.R) := h2.rows.below (hw _ (Ne.symm d3))
          rw [M.run_look idKey Try.underlying80 hrw n.u hn' (zeroRow wx) false, entR, M.look_on, hlk]
          rfl
        · intro wx hw
          exact load_id hk ((hw _ (by have := ZX.out; omega)).trans hx2)
        · exact s3
        · intro a' ha
          subst ha
          refine aK3 _ _ ?_
          clear aK3
          generalize M.setM w2.drew b o3 = w3 at *
          have n3 : NodeAt w3 nb n := (s3 _ (by have := ZX.out; omega)).trans n2'
          have lk3 : M.look (M.put s.R n.u (b, l')) n.u = some (b, l') := by rw [M.put_look _ _ _ h.keys, if_pos rfl]
          have rr3 := h3.row (n.u, (b, l')) (put_in _ _ h.keys)
          simp only [Act.put, List.setIfInBounds_toArray, List.set_cons_zero, List.set_cons_succ]
          go_wp2
          rename_i K4 aK4
          refine leave4 s.t nb (.map (some s.br)) n.u.v (.map (some b)) (l'.length : Int) (decide (l' = [])) (fun wx => ∀ j : Nat, wx.heap[j]? = w3.heap[j]?) _ w3 _ rfl rfl rfl ?_ ?_ ?_ ?_ ?_ ?_ ?_ ?_
          · exact fun j => rfl
          · intro wx hw
            exact load_rows ((World.cell?_of_block (w := w3) (a := ⟨s.t, 1, none⟩) (hw s.t)).trans h3.c1)
          · intro wx hw
            exact load_under hn' ((hw _).trans n3)
          · intro wx hw
            have hrw : M.MapAt wx s.br IdK.v IdK.ok (entR (M.put s.R n.u (b, l'))) := h3.rows.below (hw _)
            rw [M.run_look idKey Try.underlying80 hrw n.u hn' (zeroRow wx) false, entR, M.look_on, lk3]
            rfl
          · intro wx hw
            have := M.run_mlen (P := Try.prog) (ty := 3) Try.underlying95 (rr3.below (hw _))
            rw [entU_len] at this
            exact this
          · intro wx
            simp [eqGuard]
          · intro wx hw
            exact eql_len l' wx
          · intro a' ha
            subst ha
            refine aK4 _ _ ?_
            clear aK4
            simp only [Act.put, List.setIfInBounds_toArray, List.set_cons_zero, List.set_cons_succ]
            have hSh : ∀ v x, v ≠ n.u → (shN s.N v x ↔ (shN s.N v x ∧ x ≠ k)) := fun v x hv => ⟨fun q => ⟨q, fun e => by
              subst e
              obtain ⟨n', q1, _, q3⟩ := q
              rw [hl] at q1
              cases q1
              exact hv q3.symm⟩, fun q => q.1⟩
            have hSu : ∀ x, x ∈ l' ↔ (shN s.N n.u x ∧ x ≠ k) := fun x => by rw [hml, hr.mem _ hq x]
            by_cases hE : l' = []
            · rw [decide_eq_true hE]
              have h3' : TrAt w3.drew { s with R := M.put s.R n.u (b, l') } := h3.same (fun _ _ => rfl)
              obtain ⟨o5, e5, m5⟩ := M.run_del (P := Try.prog) (ty := 0) idKey Try.underlying80 (w := w3.drew.drew) (b := s.br) (h3'.rows.below rfl) n.u hn'
              have s5 : ∀ j, j ≠ s.br → (M.setM w3.drew.drew s.br o5).heap[j]? = w3.drew.heap[j]? := fun j hj => M.setM_other (w := w3.drew.drew) o5 hj
              have h5 := h3'.delRow (u := n.u) s5 m5
              have t5 : Tch (fun j => j ∈ s.bl) w (M.setM w3.drew.drew s.br o5) := t3.drew.drew.setM (Or.inr (by simp [Tr.bl])) o5
              have hR := hr.delput h.keys (u := n.u) (q := (b, l')) (B := fun u x => shN s.N u x ∧ x ≠ k) (fun x hx => by rw [← hSu, hE] at hx; cases hx) hSh
              go_wp2
              refine leave5 s.t nb (.map (some s.br)) n.u.v (M.setM w3.drew.drew s.br o5) (fun wx => ∀ j, j ≠ s.br → wx.heap[j]? = w3.drew.heap[j]?) _ w3.drew _ rfl rfl rfl ?_ ?_ ?_ e5 ?_ ?_
              · exact fun j _ => rfl
              · intro wx hw
                exact load_rows ((World.cell?_of_block (w := w3.drew) (a := ⟨s.t, 1, none⟩) (hw s.t h.tbl.2.1)).trans h3'.c1)
              · intro wx hw
                exact load_under hn' ((hw _ (by have := ZX.out; have := h.rows.lt; omega)).trans n3)
              · exact s5
              · intro a' ha
                subst ha
                try simp only [Exit.inBlock, Exit.then]
                refine bodyPost_end (results_none rfl _ _ _) rfl ?_
                exact ⟨rfl, _, h5, hR, t5, fun r hr' => put_bl h.keys hq r ((del_mem (M.put_keys _ _ _ h.keys)).1 hr').1⟩
            · rw [decide_eq_false hE]
              go_wp2
              refine bodyPost_end (results_none rfl _ _ _) rfl ?_
              exact ⟨rfl, _, h3.same (fun _ _ => rfl), hr.put h.keys hE hSu hSh, t3.drew, put_bl h.keys hq⟩
end Go.Proofs.Ytoofljkgdjjllaa
