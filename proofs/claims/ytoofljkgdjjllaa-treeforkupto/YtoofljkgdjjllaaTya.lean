import Derived.Test.YtoofljkgdjjllaaTz
import Derived.StillTailTactics
namespace Go.Proofs.Ytoofljkgdjjllaa
open Go.RowKit
set_option linter.unusedVariables false
set_option linter.unusedSimpArgs false

theorem still_val {P : Program} {ops : Array Oper} {w : World} {Q : Act → Prop} {rest : List Oper} {o : Oper} {a : Act} {v : Value} (hw : Region.wanted o (yielded ops a.tmps) = true) (hr : (execOp a.eval o).run P w = .ok (.value v) w) (h : wpStill P ops w Q rest (a.put o.dst v)) : wpStill P ops w Q (o :: rest) a :=
  wpStill_step fun K hK => by
    rw [if_pos hw]
    unfold Oper.still
    rw [hr]
    exact ⟨rfl, hK _ h⟩
theorem store_node {w : World} {b : Nat} {x u : NodeV} (hx : x.u.ok) (hu : u.u.ok) (h : NodeAt w b x) : (Instr.storeAt 94 (.pointer (some ⟨b, 0, none⟩)) u.v).run Try.prog w = .ok () (w.setRow b u.c.toArray) := by
  have e2 := run_storeVar_row (P := Try.prog) w b 94 94 x.c.toArray u.c.toArray h (by rw [List.size_toArray, NodeV.len hu]; exact szNode)
    (by rw [List.size_toArray, List.size_toArray, NodeV.len hu, NodeV.len hx]) (by rw [List.all_toArray, List.all_eq_true]; exact u.one)
  simp only [Instr.storeAt, Instr.sureAddr, Sem.run_bind, Sem.run_pure, Result.andThen_ok, NodeV.v, e2]
theorem NodeAt.set {w : World} {b : Nat} {x : NodeV} (u : NodeV) (h : NodeAt w b x) : NodeAt (w.setRow b u.c.toArray) b u := setRow_heap w b _ _ _ _ h
theorem load_bool {w : World} {b o : Nat} {v : Value} (h : w.cell? ⟨b, o, none⟩ = some v) : (Instr.loadAt 4 (.pointer (some ⟨b, o, none⟩))).run Try.prog w = .ok v w := by go_simp
set_option maxRecDepth 100000 in
set_option maxHeartbeats 2000000 in
theorem climb_any (s : Tr) (k : IdK) (l : List IdK) (p : Bool) (w : World) (h : TrAt w s) (hk : k.ok) (hl : l.length ≤ 4398046510976) (hc : Climb (lookN s.N) k l p) :
    Calls Try.prog 73 #[.pointer (some ⟨s.t, 0, none⟩), k.v] w fun e w' => e = .returned (.tuple #[.int .i64 (l.length : Int), .bool p]) ∧ Below w.heap.size w w' := by
  have lt : s.t < w.heap.size := h.lt _ (by simp [Tr.bl])
  have HLT := hidMk h.lt
  unfold IdK.v
  go_enter Try.func73, Try.ntmps73
  go_wp2
  rename_i K1 aK
  have hx : IdAt (w.alloc (.cells k.c.toArray 37)) w.heap.size k := heap_alloc_new _ _
  have bx : Below w.heap.size w (w.alloc (.cells k.c.toArray 37)) := (Below.refl _ _).alloc (Nat.le_refl _) _
  have zx : (w.alloc (.cells k.c.toArray 37)).heap.size = w.heap.size + 1 := by simp
  generalize w.alloc (.cells k.c.toArray 37) = W at *
  have hno := nd_ok h k
  obtain ⟨w1, w2, e1, e2, b1, b2, n2, z2⟩ := node_new W.drew (nd (lookN s.N) k) hno
  replace b1 : Below W.heap.size W w1 := (Below.refl _ _).drew.trans b1
  replace b2 : Below W.heap.size W w2 := (Below.refl _ _).drew.trans b2
  refine climb1 s.t w.heap.size W.heap.size (.map (some s.bn)) k.v (nd (lookN s.N) k).v w1 w2 (fun wx => Below W.heap.size W wx) _ W _ rfl rfl rfl ?_ ?_ ?_ ?_ e1 ?_ e2 ?_ ?_
  · exact (Below.refl _ _).drew
  · intro wx hw
    exact load_nodes ((hw.cell (by show s.t < _; omega)).trans ((bx.cell lt).trans h.c0))
  · intro wx hw
    exact load_id hk ((hw.block _ (by omega)).trans hx)
  · intro wx hw
    exact look_node1 s.bn s.N wx k hk (h.nodes.below ((hw.block _ (by have := h.nodes.lt; omega)).trans (bx.block _ h.nodes.lt)))
  · exact b1
  · exact b2
  · intro a' ha
    subst ha
    refine aK _ _ ?_
    clear aK e1 e2
    have b3 : Below w.heap.size w w2 := bx.trans (Below.mono b2 (by omega))
    have HT := hidMk (h.below b3)
    simp only [Act.put, List.setIfInBounds_toArray, List.set_cons_zero, List.set_cons_succ]
    replace n2 : NodeAt w2 W.heap.size (nd (lookN s.N) k) := n2
    have hnb : w.heap.size < W.heap.size := by omega
    clear z2 b1 b2 zx h hx bx hno
    generalize W.heap.size = nb at *
    have HNB := hidMk hnb
    clear hnb
    go_wp2
    go_loopw [6] (fun v wr => ∃ (d : Nat) (x : IdK) (lx : List IdK), v = .int .i64 (d : Int) ∧ d + lx.length = l.length ∧ Climb (lookN s.N) x lx p ∧ NodeAt wr nb (nd (lookN s.N) x) ∧ Below w.heap.size w wr ∧ TrAt wr s) (fun v _ => l.length - (intOf v).toNat)
    case atStart => exact ⟨0, k, l, rfl, by simp, hc, n2, b3, HT.out⟩
    case round =>
      clear n2 b3 hc HT
      obtain ⟨d, x, lx, rfl, hd, hcx, hn, bel, hT⟩ := hrel
      have HD := hidMk hd
      have hno := nd_ok hT x
      have hpr := cell_pr hno hn
      clear hd
      cases hp : (nd (lookN s.N) x).pr with
      | true =>
        rw [hp] at hpr
        obtain ⟨e1, e2⟩ := hcx.same (.top (Or.inl hp))
        have HE := hidMk e1
        have HQ := hidMk (e2.trans hp)
        clear hp e1 e2
        go_wp2
        rename_i K2 aK2
        refine climb5 nb (.int .i64 (d : Int)) (.bool true) (fun wx => ∀ j : Nat, wx.heap[j]? = wr.heap[j]?) _ wr _ rfl rfl rfl ?_ ?_ ?_
        · exact fun j => rfl
        · intro wx hw
          exact load_bool ((World.cell?_of_block (w := wr) (a := ⟨nb, 34, none⟩) (hw nb)).trans hpr)
        · intro a' ha
          subst ha
          refine aK2 _ _ ?_
          clear aK2
          simp only [Act.put, List.setIfInBounds_toArray, List.set_cons_zero, List.set_cons_succ]
          go_wp2
          go_ret2
          refine ⟨?_, bel.drew⟩
          have h1 := HD.out
          rw [HE.out] at h1
          rw [HQ.out, ← h1]
          rfl
      | false =>
        rw [hp] at hpr
        cases hb : decide ((nd (lookN s.N) x).u = zId) with
        | true =>
          have hq : ∀ w : World, (binOp .neq 37 (nd (lookN s.N) x).u.v zId.v).run Try.prog w = .ok (.bool false) w := fun w => by rw [neq_id _ zId hno zId_ok, hb]; rfl
          obtain ⟨e1, e2⟩ := hcx.same (.top (Or.inr (of_decide_eq_true hb)))
          have HE := hidMk e1
          have HQ := hidMk (e2.trans hp)
          clear hp e1 e2 hb
          go_wp2_with (first
            | (refine wpList_val rfl (exec_load (t := 37) (u := .pointer (some ⟨nb, 0, none⟩)) rfl rfl (load_under hno hn)) ?_)
            | (refine wpList_val rfl (exec_build0 rfl (build_id _)) ?_)
            | (refine wpList_val rfl (exec_binOp rfl rfl rfl (guard_id _ _ (nd (lookN s.N) x).u zId _ _) (hq _)) ?_)
            | fail)
          rename_i K2 aK2
          refine climb5 nb (.int .i64 (d : Int)) (.bool false) (fun wx => ∀ j : Nat, wx.heap[j]? = wr.heap[j]?) _ wr _ rfl rfl rfl ?_ ?_ ?_
          · exact fun j => rfl
          · intro wx hw
            exact load_bool ((World.cell?_of_block (w := wr) (a := ⟨nb, 34, none⟩) (hw nb)).trans hpr)
          · intro a' ha
            subst ha
            refine aK2 _ _ ?_
            clear aK2
            simp only [Act.put, List.setIfInBounds_toArray, List.set_cons_zero, List.set_cons_succ]
            go_wp2
            go_ret2
            refine ⟨?_, bel.drew⟩
            have h1 := HD.out
            rw [HE.out] at h1
            rw [HQ.out, ← h1]
            rfl
        | false =>
          have hq : ∀ w : World, (binOp .neq 37 (nd (lookN s.N) x).u.v zId.v).run Try.prog w = .ok (.bool true) w := fun w => by rw [neq_id _ zId hno zId_ok, hb]; rfl
          have HZ := hidMk (of_decide_eq_false hb)
          have HP := hidMk hp
          clear hp hb
          go_wp2_with (first
            | (refine wpList_val rfl (exec_load (t := 37) (u := .pointer (some ⟨nb, 0, none⟩)) rfl rfl (load_under hno hn)) ?_)
            | (refine wpList_val rfl (exec_build0 rfl (build_id _)) ?_)
            | (refine wpList_val rfl (exec_binOp rfl rfl rfl (guard_id _ _ (nd (lookN s.N) x).u zId _ _) (hq _)) ?_)
            | fail)
          rename_i K2 aK2
          have hnb := HNB.out
          have hno2 := nd_ok hT (nd (lookN s.N) x).u
          have lts : s.t ≠ nb := by omega
          have lbn : s.bn ≠ nb := by have := HLT.out s.bn (by simp [Tr.bl]); omega
          have hn' : NodeAt wr.drew nb (nd (lookN s.N) x) := hn
          have hT' : TrAt wr.drew s := hT.same (fun _ _ => rfl)
          have bel' : Below w.heap.size w wr.drew := bel.drew
          refine wp_region_still_tail 7 (by kernel_rfl) (by kernel_rfl) ?_
          simp only [List.take_succ_cons, List.take_zero, List.drop_succ_cons, List.drop_zero]
          change wpStill _ _ wr.drew (fun a' => wpList _ _ _ _ a' wr.drew) _ _
          have c0 := hT'.c0
          generalize wr.drew = wd at *
          iterate 5 still_step
          refine still_val rfl (exec_load (t := 37) (u := .pointer (some ⟨nb, 0, none⟩)) rfl rfl (load_under hno hn')) ?_
          simp only [Act.put, List.setIfInBounds_toArray, List.set_cons_zero, List.set_cons_succ]
          refine still_val rfl (exec_lookup (t := 79) (mv := .map (some s.bn)) (xv := (nd (lookN s.N) x).u.v) rfl rfl rfl (look_node1 s.bn s.N wd _ hno hT'.nodes)) ?_
          simp only [Act.put, List.setIfInBounds_toArray, List.set_cons_zero, List.set_cons_succ]
          refine wpStill_nil ?_
          refine wpList_skip rfl rfl (exec_store (t := 94) (xv := .pointer (some ⟨nb, 0, none⟩)) (yv := (nd (lookN s.N) (nd (lookN s.N) x).u).v) rfl rfl rfl (store_node hno hno2 hn')) ?_
          obtain ⟨l', hlx, hcu⟩ : ∃ l', lx.length = l'.length + 1 ∧ Climb (lookN s.N) (nd (lookN s.N) x).u l' p := by
            cases hcx with
            | top h => exact absurd (h.resolve_left (by rw [HP.out]; simp)) HZ.out
            | up a b c => exact ⟨_, rfl, c⟩
          have n3 := NodeAt.set (nd (lookN s.N) (nd (lookN s.N) x).u) hn'
          have b3 : Below w.heap.size w (wd.setRow nb (nd (lookN s.N) (nd (lookN s.N) x).u).c.toArray) := below_setRow bel' (by omega) _
          have T3 : TrAt (wd.setRow nb (nd (lookN s.N) (nd (lookN s.N) x).u).c.toArray) s := hT'.same (fun b hb => setRow_other _ _ _ _ (by have := HLT.out b hb; omega))
          have hd := HD.out
          clear hpr c0
          generalize wd.setRow nb (nd (lookN s.N) (nd (lookN s.N) x).u).c.toArray = w5 at *
          have HHD := hidMk hd
          have HLX := hidMk hlx
          clear hd hlx hnb lts lbn
          have hdl : (d : Int) + 1 ≤ 4398046510977 := by have := HHD.out; have := HLX.out; omega
          go_wp2
          have hd := HHD.out
          have hlx := HLX.out
          go_roundw
          case rel => exact ⟨d + 1, _, l', by go_num, by omega, hcu, n3, b3, T3⟩
          case measure => simp [intOf]; omega
end Go.Proofs.Ytoofljkgdjjllaa
