import Derived.Test.YtldlljobofnmmabDoorRnn0
namespace Go.Proofs.YtldlljobofnmmabDoor
open Go.RowKit
set_option linter.unusedVariables false
set_option linter.unusedSimpArgs false

def RP : RowT PlK := ⟨PlK.c, PlK.ok, 67, 96, 34, 22, zPl⟩
theorem RP_is : RP.Is := ⟨zPl_ok, fun _ h => PlK.len h, PlK.one, Tryd.underlying22, by kernel_rfl, ⟨_, Tryd.underlying34, rfl⟩, by decide, by decide⟩
theorem szP {u : PlK} (h : u.ok) : (Tryd.prog.info? 34).map (·.size) = some (RP.c u).toArray.size := by
  rw [List.size_toArray]
  show _ = some u.c.length
  rw [PlK.len h]
  exact szPl
theorem pl_box (w : World) : ∃ w2, (Instr.alloc 34 true (.tuple #[])).run Tryd.prog w = .ok (.pointer (some ⟨w.heap.size, 0, none⟩)) w2 ∧ RP.Bx w2 w.heap.size zPl ∧ Below w.heap.size w w2 := ⟨_, RowT.bx_zero RP_is w, heap_alloc_new _ _, (Below.refl _ _).alloc (Nat.le_refl _) _⟩
theorem pl_put {w : World} {b : Nat} {x u : PlK} (hx : x.ok) (hu : u.ok) (h : RP.Bx w b x) : ∃ w', (Instr.storeAt 34 (.pointer (some ⟨b, 0, none⟩)) u.v).run Tryd.prog w = .ok () w' ∧ RP.Bx w' b u ∧ Tch (fun j => j = b) w w' := by
  have t := setRow_tch w b u.c.toArray
  refine ⟨_, RowT.bx_store RP_is hx hu h, setRow_heap w b _ _ _ _ h, t.mono (fun j _ e => ?_)⟩
  simp at e
  exact e.symm
/-- A place's box, written at once. -/
theorem pl_new (w : World) {u : PlK} (hu : u.ok) : ∃ w1 w2, (Instr.alloc 34 true (.tuple #[])).run Tryd.prog w = .ok (.pointer (some ⟨w.heap.size, 0, none⟩)) w1 ∧ (Instr.storeAt 34 (.pointer (some ⟨w.heap.size, 0, none⟩)) u.v).run Tryd.prog w1 = .ok () w2 ∧ RP.Bx w2 w.heap.size u ∧ Below w.heap.size w w2 := by
  obtain ⟨w1, e1, n1, b1⟩ := pl_box w
  obtain ⟨w2, e2, n2, t2⟩ := pl_put zPl_ok hu n1
  exact ⟨w1, w2, e1, e2, n2, b1.trans (t2.below b1.size (fun j e => by rw [e]; exact Nat.le_refl _))⟩
def RI : RowT IdK := ⟨IdK.c, IdK.ok, 33, 40, 32, 70, zId⟩
theorem RI_is : RI.Is := ⟨zId_ok, fun _ h => IdK.len h, IdK.one, Tryd.underlying70, by kernel_rfl, ⟨_, Tryd.underlying32, rfl⟩, by decide, by decide⟩
theorem id_newR (w : World) {u : IdK} (hu : u.ok) : ∃ w1 w2, (Instr.alloc 32 true (.tuple #[])).run Tryd.prog w = .ok (.pointer (some ⟨w.heap.size, 0, none⟩)) w1 ∧ (Instr.storeAt 32 (.pointer (some ⟨w.heap.size, 0, none⟩)) u.v).run Tryd.prog w1 = .ok () w2 ∧ w2.heap[w.heap.size]? = some (.cells u.c.toArray 32 (0, 0)) ∧ Below w.heap.size w w2 :=
  ⟨_, _, RowT.bx_zero RI_is w, RowT.bx_new RI_is w hu, heap_alloc_new _ _, (Below.refl _ _).alloc (Nat.le_refl _) _⟩
/-- The place of a number. -/
def atP (Ps : List PlK) (m : Int) : PlK := if m < 0 then zPl else (Ps[m.toNat]?).getD zPl
theorem atP_ok {Ps : List PlK} (h : ∀ x ∈ Ps, x.ok) (m : Int) : (atP Ps m).ok := by
  unfold atP
  split
  · exact zPl_ok
  · cases e : Ps[m.toNat]? with
    | none => exact zPl_ok
    | some x => exact h x (List.mem_of_getElem? e)
theorem build_pl (w : World) : (Instr.build 34 #[]).run Tryd.prog w = .ok zPl.v w := by kernel_rfl
theorem ix_pl {b o m c i : Nat} (hi : i < m) (hm : m ≤ 9223372036854775807) (W : World) : (Instr.indexAt 22 (.slice (some ⟨b, o, none⟩) m c) (.int .i64 (i : Int))).run Tryd.prog W = .ok (.pointer (some ⟨b, o + i * 67, none⟩)) W := by
  go_simp
set_option maxRecDepth 100000 in
set_option maxHeartbeats 2000000 in
theorem at_any {w : World} {a : Option Addr} {c : Nat} {Ps : List PlK} (hP : RowAt 67 PlK.c w a Ps) (ok : ∀ x ∈ Ps, x.ok) (hn : Ps.length ≤ 2000000000000) {m : Int} (hm : -9223372036854775808 ≤ m ∧ m ≤ 9223372036854775807) :
    Calls Tryd.prog 8 #[.slice a Ps.length c, .int .i64 m] w fun e w' => e = .returned (atP Ps m).v ∧ Below w.heap.size w w' := by
  obtain ⟨w1, e1, n1, b1⟩ := pl_box w
  have H1 := hidMk e1
  obtain ⟨u, hu⟩ : ∃ u, atP Ps m = u := ⟨_, rfl⟩
  have hok : u.ok := by rw [← hu]; exact atP_ok ok m
  obtain ⟨w2, e2, n2, t2⟩ := pl_put zPl_ok hok n1
  have b2 : Below w.heap.size w w2 := b1.trans (t2.below b1.size (fun j e => by rw [e]; exact Nat.le_refl _))
  have H2 := hidMk e2
  have HF := hidMk (And.intro n2 b2)
  rw [hu]
  obtain ⟨n, hnn⟩ : ∃ n, Ps.length = n := ⟨_, rfl⟩
  by_cases h0 : m < 0
  · have hz : u = zPl := by rw [← hu, atP, if_pos h0]
    subst hz
    rw [hnn]
    clear e1 n1 b1 e2 n2 t2 b2 hu hP hnn
    go_enter Tryd.func8, Tryd.ntmps8
    go_wp2_with (first
      | (refine wpList_run rfl (exec_alloc (w2 := w1) rfl H1.out) ?_)
      | (refine wpList_val rfl (exec_build0 rfl (build_pl _)) ?_)
      | (refine wpList_skip rfl rfl (exec_store (w2 := w2) rfl rfl rfl H2.out) ?_)
      | fail)
    refine bodyPost_ret (results_cell_row Tryd.results8 _ _ w.heap.size _ _ _ _ rfl HF.out.1 Tryd.underlying34 rfl (szP hok)) rfl ?_
    exact ⟨rfl, HF.out.2⟩
  · obtain ⟨k, rfl⟩ : ∃ k : Nat, m = (k : Int) := ⟨m.toNat, by omega⟩
    by_cases hk : k < n
    · obtain ⟨x, hx⟩ : ∃ x, Ps[k]? = some x := ⟨_, List.getElem?_eq_getElem (by omega)⟩
      have hz : u = x := by rw [← hu, atP, if_neg h0, Int.toNat_natCast, hx]; rfl
      subst hz
      obtain ⟨g, o, rfl, lg, hr⟩ : ∃ g o, a = some ⟨g, o, none⟩ ∧ g < w.heap.size ∧ w.rangeAt g (o + k * 67) u.c := by
        rcases hP with h | ⟨g, o, e, h1, h2⟩
        · rw [h] at hx; cases hx
        · exact ⟨g, o, e, h1, h2 k u hx⟩
      have HX := hidMk (ld_pl hok (rangeAt_keep hr (b1.block g lg)))
      have HI := hidMk (ix_pl (b := g) (o := o) (c := c) hk (by omega) w1)
      rw [hnn] at hn ⊢
      clear e1 n1 b1 e2 n2 t2 b2 hu hP hnn hr hx lg
      go_enter Tryd.func8, Tryd.ntmps8
      go_wp2_with (first
        | (refine wpList_run rfl (exec_alloc (w2 := w1) rfl H1.out) ?_)
        | (refine wpList_val rfl (exec_indexAt rfl rfl rfl HI.out) ?_)
        | (refine wpList_val rfl (exec_load rfl rfl HX.out) ?_)
        | (refine wpList_skip rfl rfl (exec_store (w2 := w2) rfl rfl rfl H2.out) ?_)
        | fail)
      refine bodyPost_ret (results_cell_row Tryd.results8 _ _ w.heap.size _ _ _ _ rfl HF.out.1 Tryd.underlying34 rfl (szP hok)) rfl ?_
      exact ⟨rfl, HF.out.2⟩
    · have hz : u = zPl := by rw [← hu, atP, if_neg h0, Int.toNat_natCast, List.getElem?_eq_none (by omega)]; rfl
      subst hz
      rw [hnn]
      clear e1 n1 b1 e2 n2 t2 b2 hu hP hnn
      go_enter Tryd.func8, Tryd.ntmps8
      go_wp2_with (first
        | (refine wpList_run rfl (exec_alloc (w2 := w1) rfl H1.out) ?_)
        | (refine wpList_val rfl (exec_build0 rfl (build_pl _)) ?_)
        | (refine wpList_skip rfl rfl (exec_store (w2 := w2) rfl rfl rfl H2.out) ?_)
        | fail)
      refine bodyPost_ret (results_cell_row Tryd.results8 _ _ w.heap.size _ _ _ _ rfl HF.out.1 Tryd.underlying34 rfl (szP hok)) rfl ?_
      exact ⟨rfl, HF.out.2⟩
set_option maxRecDepth 100000 in
set_option maxHeartbeats 2000000 in
/-- live's closure. -/
theorem tells_live {w : World} {xb : Nat} {x : IdK} (hx : x.ok) (hb : w.heap[xb]? = some (.cells x.c.toArray 32 (0, 0))) : Tells w 17 #[.pointer (some ⟨xb, 0, none⟩)] (fun k => decide (k = x)) := by
  refine ⟨enters_of Tryd.func17 (by kernel_rfl) rfl, fun W bW k hk => ?_⟩
  obtain ⟨w1, E1, n1, b1⟩ := box_id W k
  have hW := (bW.block xb (Array.getElem?_eq_some_iff.1 hb).1).trans hb
  have h1 := (b1.block xb (Array.getElem?_eq_some_iff.1 hW).1).trans hW
  have H1 := hidMk E1
  have L1 := hidMk (load_id hk n1)
  have L2 := hidMk (load_id hx h1)
  have HB := hidMk b1
  have EQ := hidMk (eql_idR k x hk hx w1)
  clear E1 n1 b1 hW h1 bW hb
  show Calls Tryd.prog 17 #[k.v, .pointer (some ⟨xb, 0, none⟩)] W _
  go_enter Tryd.func17, Tryd.ntmps17
  go_wp2_with (first
    | (refine wpList_run rfl (exec_boxE (t := 32) (v := k.v) (u := .pointer (some ⟨W.heap.size, 0, none⟩)) (w2 := w1) rfl rfl H1.out) ?_)
    | (refine wpList_val rfl (exec_load (v := k.v) rfl rfl L1.out) ?_)
    | (refine wpList_val rfl (exec_load (v := x.v) rfl rfl L2.out) ?_)
    | (refine wpList_val rfl (exec_binOp rfl rfl rfl (guard_idR _ _ _ _ _ _) EQ.out) ?_)
    | fail)
  go_ret
  exact ⟨rfl, HB.out⟩
end Go.Proofs.YtldlljobofnmmabDoor
