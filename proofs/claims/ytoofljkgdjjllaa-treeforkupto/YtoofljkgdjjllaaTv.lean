import Derived.Test.YtoofljkgdjjllaaTu
import Derived.Laws.CopyOwn
namespace Go.Proofs.Ytoofljkgdjjllaa
open Go.RowKit
set_option linter.unusedVariables false
set_option linter.unusedSimpArgs false

theorem idv_inj {x y : IdK} (hx : x.ok) (hy : y.ok) (h : x.v = y.v) (w : World) : x = y := by
  have h1 := eql_id x y hx hy w
  have h2 := eql_id y y hy hy w
  rw [h, h2] at h1
  have := (Result.ok.inj h1).1
  have := Value.bool.inj this
  simpa using this.symm
theorem IdAt.inj {w : World} {b : Nat} {x y : IdK} (hx : x.ok) (hy : y.ok) (h : IdAt w b x) (h' : IdAt w b y) : x = y := by
  unfold IdAt at h h'
  rw [h] at h'
  have := (Obj.cells.inj (Option.some.inj h')).1
  exact idv_inj hx hy (by unfold IdK.v; rw [this]) w
theorem wpList_skip {P : Program} {ops : Array Oper} {rest : List Oper} {o : Oper} {a : Act} {w w2 : World} {Q : Exit → Act → World → Prop} (hw : Region.wanted o (yielded ops a.tmps) = true) (hd : o.dst = none) (hr : (execOp a.eval o).run P w = .ok .skip w2) (h : wpList P ops Q rest a w2) : wpList P ops Q (o :: rest) a w :=
  wpList_step fun K hK => by
    rw [if_pos hw]
    unfold Oper.wp
    rw [hr]
    show K (a.put o.dst undef) w2
    rw [hd]
    exact hK _ _ h
theorem store_id {w : World} {b : Nat} {x u : IdK} (hx : x.ok) (hu : u.ok) (h : IdAt w b x) : (Instr.storeAt 37 (.pointer (some ⟨b, 0, none⟩)) u.v).run Try.prog w = .ok () (w.setRow b u.c.toArray) := by
  have e2 := run_storeVar_row (P := Try.prog) w b 37 37 x.c.toArray u.c.toArray h (by rw [List.size_toArray, IdK.len hu]; exact szId)
    (by rw [List.size_toArray, List.size_toArray, IdK.len hu, IdK.len hx]) (by rw [List.all_toArray, List.all_eq_true]; exact u.one)
  simp only [Instr.storeAt, Instr.sureAddr, Sem.run_bind, Sem.run_pure, Result.andThen_ok, IdK.v, e2]
theorem IdAt.set {w : World} {b : Nat} {x : IdK} (u : IdK) (h : IdAt w b x) : IdAt (w.setRow b u.c.toArray) b u := setRow_heap w b _ _ _ _ h
/-- How far it is from the node that lies in a box to the end. -/
noncomputable def rk (f : Fn) (b : Nat) (w : World) : Nat := by
  classical
  exact if h : ∃ m x l p, IdAt w b x ∧ x.ok ∧ Climb f x l p ∧ m = l.length + (if x = zId then 0 else 1) then Classical.choose h else 0
theorem rk_eq {f : Fn} {b : Nat} {w : World} {x : IdK} {l : List IdK} {p : Bool} (hi : IdAt w b x) (hx : x.ok) (hc : Climb f x l p) : rk f b w = l.length + (if x = zId then 0 else 1) := by
  have h : ∃ m x l p, IdAt w b x ∧ x.ok ∧ Climb f x l p ∧ m = l.length + (if x = zId then 0 else 1) := ⟨_, x, l, p, hi, hx, hc, rfl⟩
  unfold rk
  rw [dif_pos h]
  obtain ⟨y, l', p', a, b', c, d⟩ := Classical.choose_spec h
  obtain rfl := IdAt.inj hx b' hi a
  obtain ⟨rfl, rfl⟩ := hc.same c
  exact d
theorem climb_step {f : Fn} (hf : Forest f) {x j : IdK} {lx : List IdK} {px : Bool} (hjz : j ≠ zId) (hxj : x ≠ j) (hp : (nd f x).pr = false) (hc : Climb f x lx px) :
    ∃ l' p', Climb f (nd f x).u l' p' ∧ decide ((nd f x).u = j ∨ j ∈ l') = decide (x = j ∨ j ∈ lx) ∧ l'.length + (if (nd f x).u = zId then 0 else 1) < lx.length + 1 := by
  cases hc with
  | top h =>
    have hz : (nd f x).u = zId := by
      rcases h with h | h
      · rw [h] at hp; cases hp
      · exact h
    have hn : nd f zId = zNode := by unfold nd; rw [hf.zero]; rfl
    rw [hz]
    exact ⟨[], _, .top (Or.inr (by rw [hn]; rfl)), by simp [hxj, Ne.symm hjz], by simp⟩
  | up a b c =>
    refine ⟨_, _, c, ?_, by simp [b]⟩
    simp [hxj, eq_comm]
theorem nd_ok {s : Tr} {w : World} (h : TrAt w s) (k : IdK) : (nd (lookN s.N) k).u.ok := find_ok h.uok k
set_option maxRecDepth 100000 in
set_option maxHeartbeats 2000000 in
theorem lies_any (s : Tr) (k j : IdK) (l : List IdK) (p : Bool) (w : World) (h : TrAt w s) (hf : Forest (lookN s.N)) (hk : k.ok) (hj : j.ok) (hjz : j ≠ zId) (hc : Climb (lookN s.N) k l p) :
    Calls Try.prog 50 #[.pointer (some ⟨s.t, 0, none⟩), k.v, j.v] w fun e w' => e = .returned (.bool (decide (k = j ∨ j ∈ l))) ∧ Below w.heap.size w w' := by
  have lt : s.t < w.heap.size := h.lt _ (by simp [Tr.bl])
  obtain ⟨ans, hans⟩ : ∃ ans, decide (k = j ∨ j ∈ l) = ans := ⟨_, rfl⟩
  rw [hans]
  unfold IdK.v
  go_enter Try.func50, Try.ntmps50
  go_upto_region 1 with fail
  obtain ⟨hx, hy, bx, zx⟩ := two_boxes w k j
  generalize (w.alloc (.cells k.c.toArray 37)).alloc (.cells j.c.toArray 37) = W at *
  have HX := hidMk (h.below bx)
  have HLT := hidMk h.lt
  clear h
  go_step3
  go_wp2
  go_step3
  go_wp2
  go_loopw [7] (fun v wr => v = .bool false ∧ ∃ x lx px, Climb (lookN s.N) x lx px ∧ x.ok ∧ IdAt wr w.heap.size x ∧ IdAt wr (w.heap.size + 1) j ∧ Below w.heap.size w wr ∧ TrAt wr s ∧ decide (x = j ∨ j ∈ lx) = ans) (fun _ wr => rk (lookN s.N) w.heap.size wr)
  case atStart => exact ⟨rfl, k, l, p, hc, hk, hx, hy, bx, HX.out, hans⟩
  case round =>
    clear hx hy bx zx hans hc
    obtain ⟨rfl, x, lx, px, hcx, hxo, hix, hiy, bel, hT, hax⟩ := hrel
    have hlt : w.heap.size + 1 < wr.heap.size := (Array.getElem?_eq_some_iff.1 hiy).1
    cases hb : decide (x = zId) with
    | true =>
      have hq : ∀ w : World, (binOp .neq 37 x.v zId.v).run Try.prog w = .ok (.bool false) w := fun w => by rw [neq_id x zId hxo zId_ok, hb]; rfl
      have hfa : ans = false := by
        have e := of_decide_eq_true hb
        subst e
        have : nd (lookN s.N) zId = zNode := by unfold nd; rw [hf.zero]; rfl
        have c2 : Climb (lookN s.N) zId [] (nd (lookN s.N) zId).pr := .top (Or.inr (by rw [this]; rfl))
        rw [(hcx.same c2).1] at hax
        rw [← hax]
        simp [Ne.symm hjz]
      have HF := hidMk hfa
      clear hb hfa hax
      go_wp2_with (first
        | (refine wpList_val rfl (exec_load (t := 37) (u := .pointer (some ⟨w.heap.size, 0, none⟩)) rfl rfl (load_id hxo hix)) ?_)
        | (refine wpList_val rfl (exec_build0 rfl (build_id _)) ?_)
        | (refine wpList_val rfl (exec_binOp rfl rfl rfl (guard_id _ _ x zId _ _) (hq _)) ?_)
        | fail)
      simp only [Exit.noGoto]
      go_ret
      exact ⟨by rw [HF.out]; rfl, bel⟩
    | false =>
      have hq : ∀ w : World, (binOp .neq 37 x.v zId.v).run Try.prog w = .ok (.bool true) w := fun w => by rw [neq_id x zId hxo zId_ok, hb]; rfl
      have HB := hidMk (of_decide_eq_false hb)
      clear hb
      go_wp2_with (first
        | (refine wpList_val rfl (exec_load (t := 37) (u := .pointer (some ⟨w.heap.size, 0, none⟩)) rfl rfl (load_id hxo hix)) ?_)
        | (refine wpList_val rfl (exec_build0 rfl (build_id _)) ?_)
        | (refine wpList_val rfl (exec_binOp rfl rfl rfl (guard_id _ _ x zId _ _) (hq _)) ?_)
        | fail)
      rename_i K1 aK
      have hno := nd_ok hT x
      obtain ⟨w1, w2, e1, e2, b1, b2, n2, z2⟩ := node_new wr.drew (nd (lookN s.N) x) hno
      replace b1 : Below wr.heap.size wr w1 := (Below.refl _ _).drew.trans b1
      replace b2 : Below wr.heap.size wr w2 := (Below.refl _ _).drew.trans b2
      have lts : s.t < wr.heap.size := Nat.lt_of_lt_of_le lt bel.size
      refine lies3 s.t w.heap.size wr.heap.size (.map (some s.bn)) x.v (nd (lookN s.N) x).v w1 w2 (fun wx => Below wr.heap.size wr wx) _ wr _ rfl rfl rfl ?_ ?_ ?_ ?_ e1 ?_ e2 ?_ ?_
      · exact (Below.refl _ _).drew
      · intro wx hw
        exact load_nodes ((hw.cell lts).trans hT.c0)
      · intro wx hw
        exact load_id hxo ((hw.block _ (by omega)).trans hix)
      · intro wx hw
        exact look_node1 s.bn s.N wx x hxo (hT.nodes.below (hw.block _ hT.nodes.lt))
      · exact b1
      · exact b2
      · intro a' ha
        subst ha
        refine aK _ _ ?_
        clear aK e1 e2
        have HR : Hid (rk (lookN s.N) w.heap.size wr = lx.length + 1) := by
          have := rk_eq hix hxo hcx
          rw [if_neg HB.out] at this
          exact this
        have T2 : TrAt w2 s := hT.below b2
        have bel2 : Below w.heap.size w w2 := bel.trans (b2.mono (by omega))
        replace hix : IdAt w2 w.heap.size x := (b2.block _ (by omega)).trans hix
        replace hiy : IdAt w2 (w.heap.size + 1) j := (b2.block _ (by omega)).trans hiy
        replace n2 : NodeAt w2 wr.heap.size (nd (lookN s.N) x) := n2
        simp only [Act.put, List.setIfInBounds_toArray, List.set_cons_zero, List.set_cons_succ]
        clear z2 b1 b2
        have hnb : w.heap.size + 1 < wr.heap.size := hlt
        have HNB := hidMk hnb
        generalize wr.heap.size = nb at *
        have hpr := cell_pr hno n2
        clear hT hnb hlt lts
        cases hb : decide (x = j) with
        | true =>
          have hq1 : ∀ w : World, (binOp .eql 37 x.v j.v).run Try.prog w = .ok (.bool true) w := fun w => by rw [eql_id x j hxo hj, hb]
          have HF := hidMk (show ans = true by rw [← hax, of_decide_eq_true hb]; simp)
          clear hb hax
          go_wp2_with (first
            | (refine wpList_val rfl (exec_load (t := 37) (u := .pointer (some ⟨w.heap.size, 0, none⟩)) rfl rfl (load_id hxo hix)) ?_)
            | (refine wpList_val rfl (exec_load (t := 37) (u := .pointer (some ⟨w.heap.size + 1, 0, none⟩)) rfl rfl (load_id hj hiy)) ?_)
            | (refine wpList_val rfl (exec_binOp rfl rfl rfl (guard_id _ _ x j _ _) (hq1 _)) ?_)
            | fail)
          simp only [Exit.noGoto]
          go_ret
          exact ⟨by rw [HF.out]; rfl, bel2⟩
        | false =>
          have hq1 : ∀ w : World, (binOp .eql 37 x.v j.v).run Try.prog w = .ok (.bool false) w := fun w => by rw [eql_id x j hxo hj, hb]
          have HJ := hidMk (of_decide_eq_false hb)
          have HA := hidMk hax
          clear hb hax
          cases hp : (nd (lookN s.N) x).pr with
          | true =>
            rw [hp] at hpr
            have HF := hidMk (show ans = false by
              have c2 : Climb (lookN s.N) x [] (nd (lookN s.N) x).pr := .top (Or.inl hp)
              have := HA.out
              rw [(hcx.same c2).1] at this
              rw [← this]
              simp [HJ.out])
            clear hp
            go_wp2_with (first
              | (refine wpList_val rfl (exec_load (t := 37) (u := .pointer (some ⟨w.heap.size, 0, none⟩)) rfl rfl (load_id hxo hix)) ?_)
              | (refine wpList_val rfl (exec_load (t := 37) (u := .pointer (some ⟨w.heap.size + 1, 0, none⟩)) rfl rfl (load_id hj hiy)) ?_)
              | (refine wpList_val rfl (exec_binOp rfl rfl rfl (guard_id _ _ x j _ _) (hq1 _)) ?_)
              | fail)
            simp only [Exit.noGoto]
            go_ret
            exact ⟨by rw [HF.out]; rfl, bel2⟩
          | false =>
            rw [hp] at hpr
            have HP := hidMk hp
            clear hp
            go_wp2_with (first
              | (refine wpList_val rfl (exec_load (t := 37) (u := .pointer (some ⟨w.heap.size, 0, none⟩)) rfl rfl (load_id hxo hix)) ?_)
              | (refine wpList_val rfl (exec_load (t := 37) (u := .pointer (some ⟨w.heap.size + 1, 0, none⟩)) rfl rfl (load_id hj hiy)) ?_)
              | (refine wpList_val rfl (exec_load (t := 37) (u := .pointer (some ⟨nb, 0, none⟩)) rfl rfl (load_under hno n2)) ?_)
              | (refine wpList_val rfl (exec_binOp rfl rfl rfl (guard_id _ _ x j _ _) (hq1 _)) ?_)
              | (refine wpList_skip rfl rfl (exec_store (t := 37) (xv := .pointer (some ⟨w.heap.size, 0, none⟩)) (yv := (nd (lookN s.N) x).u.v) rfl rfl rfl (store_id hxo hno hix)) ?_)
              | fail)
            simp only [Act.put, List.setIfInBounds_toArray, List.set_cons_zero, List.set_cons_succ]
            obtain ⟨l', p', hcu, hau, hmu⟩ := climb_step hf hjz HJ.out HP.out hcx
            have hnb := HNB.out
            have hi3 := IdAt.set (nd (lookN s.N) x).u hix
            go_roundw
            case rel =>
              refine ⟨rfl, (nd (lookN s.N) x).u, l', p', hcu, hno, hi3, (setRow_other _ _ _ _ (by omega)).trans hiy, below_setRow bel2 (Nat.le_refl _) _, T2.same (fun b hb => setRow_other _ _ _ _ (by have := HLT.out b hb; omega)), hau.trans HA.out⟩
            case measure =>
              rw [rk_eq hi3 hno hcu, HR.out]
              exact hmu
end Go.Proofs.Ytoofljkgdjjllaa
