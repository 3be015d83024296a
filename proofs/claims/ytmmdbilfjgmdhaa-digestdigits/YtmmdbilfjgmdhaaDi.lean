import Derived.Test.YtmmdbilfjgmdhaaUr
import Derived.Test.YtmmdbilfjgmdhaaCm
import Derived.Test.YtmmdbilfjgmdhaaSh
import Derived.Deep.MidRow
namespace Go.Proofs.Ytmmdbilfjgmdhaa
open Go.RowKit
set_option linter.unusedVariables false
set_option linter.unusedSimpArgs false

theorem unhex_any (s : ByteArray) (w : World) (hs : s.size ≤ maxLen) :
    Calls Try.prog 5 #[.string s] w fun e w' => e = .returned (unAns s) ∧ Below w.heap.size w w' := by
  by_cases h : good s.data.toList = 64 ∧ s.size = 64
  · rw [unAns_yes h]
    exact unhex_yes s w h.1 h.2
  · rw [unAns_no h rfl]
    exact unhex_no s w hs (by omega)
theorem unAns_form (s : ByteArray) : ∃ u k e, u.length = 32 ∧ unAns s = .tuple #[.agg (bs u), .int .i64 e, .int .i64 k] := by
  by_cases h : good s.data.toList = 64 ∧ s.size = 64
  · exact ⟨_, _, _, unTo_len _ _, unAns_yes h⟩
  · exact ⟨_, _, _, rfl, unAns_no h rfl⟩
/-- 'alloc' of a hash, as one step of a region that draws. -/
theorem step_alloc {ops : Array Oper} {o : Oper} {a : Act} {w : World} {K : Act → World → Prop} {Q : Exit → Act → World → Prop} {E : Prop} (hgd : o.guard = none) (ho : o.op = .alloc 23)
    (h : K (a.put o.dst (.pointer (some ⟨w.heap.size, 0, none⟩))) (w.alloc (.cells (bs z32) 23))) : if Region.wanted o (yielded ops a.tmps) = true then Oper.wp Try.prog o a w K Q else E := by
  have hw : Region.wanted o (yielded ops a.tmps) = true := by simp [Region.wanted, hgd]
  rw [if_pos hw]
  unfold Oper.wp execOp
  simp only [ho, Instr.alloc, newVar, newRow, newObj, Sem.run_bind, hz23, Result.andThen_ok, Value.cells]
  exact h
/-- A hash stored whole, as one step of a region that draws. -/
theorem step_store {ops : Array Oper} {o : Oper} {a : Act} {w : World} {K : Act → World → Prop} {Q : Exit → Act → World → Prop} {E : Prop} (hgd : o.guard = none) (x y : Operand) (ho : o.op = .store 23 x y) (hd : o.dst = none)
    (g : Nat) (l old : List UInt8) (hl : l.length = 32) (hold : old.length = 32) (hx : a.eval x = .pointer (some ⟨g, 0, none⟩)) (hy : a.eval y = .agg (bs l)) (hg : w.heap[g]? = some (.cells (bs old) 23 (0, 0)))
    (h : K a (w.setRow g (bs l))) : if Region.wanted o (yielded ops a.tmps) = true then Oper.wp Try.prog o a w K Q else E := by
  have hw : Region.wanted o (yielded ops a.tmps) = true := by simp [Region.wanted, hgd]
  rw [if_pos hw]
  refine wp_store_row 23 x y ho g (bs l) hx hy 23 (bs old) hg (by rw [bs_size, hl]; exact hs23) (by rw [bs_size, bs_size, hl, hold]) (bs_one _) ?_
  rw [hd]
  exact h
theorem yields_row {ops : Array Oper} {S : World → Prop} {op : Oper} {a : Act} (hw : Region.wanted op (yielded ops a.tmps) = true) (x : Operand) (ho : op.op = .load 23 x)
    (g : Nat) (hx : a.eval x = .pointer (some ⟨g, 0, none⟩)) (l : List UInt8) (hl : l.length = 32) (t : TypeId) (fr : Nat × Nat) (hS : ∀ w, S w → w.heap[g]? = some (.cells (bs l) t fr)) : YieldsIf Try.prog ops S op (.agg (bs l)) a := by
  have h := yieldsIf_load_mid (P := Try.prog) (S := S) hw 23 x ho g 0 hx (bs l).toList _ (fun w h1 j v hv => by
    rw [Nat.zero_add, cell_of_row w g j _ _ _ (hS w h1)]
    simpa using hv) Try.underlying23 rfl (by rw [Array.length_toList, bs_size, hl]; exact hs23)
  simpa using h
theorem yields_a {ops : Array Oper} {S : World → Prop} {op : Oper} {A : Act} (hw : Region.wanted op (yielded ops A.tmps) = true) (x : Operand) (ho : op.op = .load 23 x)
    (g : Nat) (hx : A.eval x = .pointer (some ⟨g, 0, none⟩)) (a b : List UInt8) (ha : a.length = 32) (t : TypeId) (fr : Nat × Nat) (hS : ∀ w, S w → w.heap[g]? = some (.cells (bs a ++ bs b) t fr)) : YieldsIf Try.prog ops S op (.agg (bs a)) A := by
  have h := yieldsIf_load_mid (P := Try.prog) (S := S) hw 23 x ho g 0 hx (bs a).toList _ (fun w h1 j v hv => by
    have hj : j < (bs a).size := by have := (List.getElem?_eq_some_iff.1 hv).1; simpa using this
    rw [Nat.zero_add, cell_of_row w g j _ _ _ (hS w h1), Array.getElem?_append_left hj]
    simpa using hv) Try.underlying23 rfl (by rw [Array.length_toList, bs_size, ha]; exact hs23)
  simpa using h
theorem yields_b {ops : Array Oper} {S : World → Prop} {op : Oper} {A : Act} (hw : Region.wanted op (yielded ops A.tmps) = true) (x : Operand) (ho : op.op = .load 23 x)
    (g : Nat) (hx : A.eval x = .pointer (some ⟨g, 32, none⟩)) (a b : List UInt8) (ha : a.length = 32) (hb : b.length = 32) (t : TypeId) (fr : Nat × Nat) (hS : ∀ w, S w → w.heap[g]? = some (.cells (bs a ++ bs b) t fr)) : YieldsIf Try.prog ops S op (.agg (bs b)) A := by
  have h := yieldsIf_load_mid (P := Try.prog) (S := S) hw 23 x ho g 32 hx (bs b).toList _ (fun w h1 j v hv => by
    rw [cell_of_row w g (32 + j) _ _ _ (hS w h1), Array.getElem?_append_right (by rw [bs_size, ha]; omega), bs_size, ha, show 32 + j - 32 = j by omega]
    simpa using hv) Try.underlying23 rfl (by rw [Array.length_toList, bs_size, hb]; exact hs23)
  simpa using h
/-- Four hashes in blocks of their own. -/
def S4 (a b u : List UInt8) (p q r t : Nat) (w : World) : Prop :=
  w.heap[p]? = some (.cells (bs a) 23 (0, 0)) ∧ w.heap[q]? = some (.cells (bs b) 23 (0, 0)) ∧ w.heap[r]? = some (.cells (bs u) 23 (0, 0)) ∧ w.heap[t]? = some (.cells (bs u) 23 (0, 0))
theorem S4.below {a b u : List UInt8} {p q r t : Nat} {w w' : World} (h : S4 a b u p q r t w) (hb : Below w.heap.size w w') : S4 a b u p q r t w' := by
  obtain ⟨h1, h2, h3, h4⟩ := h
  have lt : ∀ {g : Nat} {o : Obj}, w.heap[g]? = some o → g < w.heap.size := fun h => (Array.getElem?_eq_some_iff.1 h).1
  exact ⟨by rw [hb.block _ (lt h1)]; exact h1, by rw [hb.block _ (lt h2)]; exact h2, by rw [hb.block _ (lt h3)]; exact h3, by rw [hb.block _ (lt h4)]; exact h4⟩
set_option maxRecDepth 100000 in
set_option maxHeartbeats 2000000 in
theorem digits_any (a b : List UInt8) (ha : a.length = 32) (hb : b.length = 32) (s : ByteArray) (n : Int) (hs : s.size ≤ maxLen) (w : World) :
    Calls Try.prog 3 #[.agg (bs a ++ bs b), .string s, .int .i64 n] w fun e w' => e = .returned (.bool true) ∧ Below w.heap.size w w' := by
  have be0 : Below w.heap.size w (w.alloc (.cells (bs a ++ bs b) 25)) := (Below.refl _ _).alloc (Nat.le_refl _) _
  have g0 : (w.alloc (.cells (bs a ++ bs b) 25)).heap[w.heap.size]? = some (.cells (bs a ++ bs b) 25 (0, 0)) := heap_alloc_new _ _
  have zz : (w.alloc (.cells (bs a ++ bs b) 25)).drew.heap.size = w.heap.size + 1 := by simp
  have zz1 : (w.alloc (.cells (bs a ++ bs b) 25)).heap.size = w.heap.size + 1 := by simp
  have HU1 : Hid (∀ wx, Calls Try.prog 5 #[.string s] wx fun e w' => e = .returned (unAns s) ∧ Below wx.heap.size wx w') := fun wx => unhex_any s wx hs
  have HU2 : Hid (∀ wx, Calls Try.prog 6 #[.string s] wx fun e w' => e = .returned (unAns s) ∧ Below wx.heap.size wx w') := fun wx => runhex_any s wx hs
  obtain ⟨u, k, er, hul, hua⟩ := unAns_form s
  rw [hua] at HU1 HU2
  clear hua hs
  have eqh : ∀ wx, (Op.equalIn 10000 23 (.agg (bs u)) (.agg (bs u))).run Try.prog wx = .ok true wx := fun wx => (by have := eq23 u u hul hul wx; simpa using this)
  go_enter Try.func3, Try.ntmps3
  go_wp2_with fail
  generalize (w.alloc (.cells (bs a ++ bs b) 25)) = W0 at *
  refine wp_region_noPanic ?_
  refine wp_region_held_drew (S := fun w' => w'.heap[w.heap.size]? = some (.cells (bs a ++ bs b) 25 (0, 0))) (by kernel_rfl) g0 (fun hHeld => ?_)
  refine wpAnyH_take (i := 0) (oi := { dst := some 15, op := Op.fieldAddr 25 (Operand.tmp 3) 0, type := 0, pos := "law.go:104", after := #[], guard := none }) (v := .pointer (some ⟨w.heap.size, 0, none⟩)) rfl (by kernel_rfl) (by kernel_rfl) (by kernel_rfl) (fun _ _ _ h => h) (Or.inl ⟨by rfl, fun w1 hS1 => by go_simp⟩) hHeld ?_
  simp only [Act.put, List.setIfInBounds_toArray, List.set_cons_zero, List.set_cons_succ]
  refine wpAnyH_take (i := 1) (oi := { dst := some 16, op := Op.load 23 (Operand.tmp 15), type := 23, pos := "law.go:104", after := #[{ on := 0, ground := Ground.data }], guard := none }) (v := .agg (bs a)) rfl (by kernel_rfl) (by kernel_rfl) (by kernel_rfl) (fun _ _ _ h => h) (yields_a (by rfl) (.tmp 15) rfl w.heap.size rfl a b ha 25 (0, 0) (fun w1 h1 => h1)) hHeld ?_
  simp only [Act.put, List.setIfInBounds_toArray, List.set_cons_zero, List.set_cons_succ]
  refine wpAnyH_take (i := 2) (oi := { dst := some 17, op := Op.fieldAddr 25 (Operand.tmp 3) 1, type := 0, pos := "law.go:104", after := #[{ on := 6, ground := Ground.gcOnly Departure.lateStores }], guard := none }) (v := .pointer (some ⟨w.heap.size, 32, none⟩)) rfl (by kernel_rfl) (by kernel_rfl) (by kernel_rfl) (fun _ _ _ h => h) (Or.inl ⟨by rfl, fun w1 hS1 => by go_simp⟩) hHeld ?_
  simp only [Act.put, List.setIfInBounds_toArray, List.set_cons_zero, List.set_cons_succ]
  refine wpAnyH_take (i := 3) (oi := { dst := some 18, op := Op.load 23 (Operand.tmp 17), type := 23, pos := "law.go:104", after := #[{ on := 2, ground := Ground.data }, { on := 6, ground := Ground.gcOnly Departure.lateStores }], guard := none }) (v := .agg (bs b)) rfl (by kernel_rfl) (by kernel_rfl) (by kernel_rfl) (fun _ _ _ h => h) (yields_b (by rfl) (.tmp 17) rfl w.heap.size rfl a b ha hb 25 (0, 0) (fun w1 h1 => h1)) hHeld ?_
  simp only [Act.put, List.setIfInBounds_toArray, List.set_cons_zero, List.set_cons_succ]
  refine wpAnyH_ready (rs := [4, 5]) (by kernel_rfl) (by simp) ?_
  refine AllReadyH.cons (o := { dst := some 7, op := Op.alloc 23, type := 0, pos := "law.go:104", after := #[], guard := none }) rfl (fun K hK => ?_) (AllReadyH.cons (o := { dst := some 8, op := Op.alloc 23, type := 0, pos := "law.go:104", after := #[], guard := none }) rfl (fun K hK => ?_) AllReadyH.nil)
  case' refine_1 =>
    refine step_alloc rfl rfl ?_
    refine hK.out _ _ (by rw [Below.heap_alloc _ _ _ (by omega)]; exact hHeld) (fun hHeld => ?_)
    clear hK K
    simp only [Act.put, List.setIfInBounds_toArray, List.set_cons_zero, List.set_cons_succ]
    refine wpAnyH_ready (rs := [5]) (by kernel_rfl) (by simp) ?_
    refine AllReadyH.cons (o := { dst := some 8, op := Op.alloc 23, type := 0, pos := "law.go:104", after := #[], guard := none }) rfl (fun K hK => ?_) AllReadyH.nil
    refine step_alloc rfl rfl ?_
    refine hK.out _ _ (by rw [Below.heap_alloc _ _ _ (by simp; omega)]; exact hHeld) (fun hHeld => ?_)
    clear hK K
    simp only [Act.put, List.setIfInBounds_toArray, List.set_cons_zero, List.set_cons_succ]
    have hP : ((W0.drew.alloc (.cells (bs z32) 23)).alloc (.cells (bs z32) 23)).heap[W0.drew.heap.size]? = some (.cells (bs z32) 23 (0, 0)) := heap_alloc2_old _ _ _
    have hQ : ((W0.drew.alloc (.cells (bs z32) 23)).alloc (.cells (bs z32) 23)).heap[(W0.drew.alloc (.cells (bs z32) 23)).heap.size]? = some (.cells (bs z32) 23 (0, 0)) := heap_alloc_new _ _
    have hPQ : W0.drew.heap.size ≠ (W0.drew.alloc (.cells (bs z32) 23)).heap.size := by simp
    have bV : Below w.heap.size w ((W0.drew.alloc (.cells (bs z32) 23)).alloc (.cells (bs z32) 23)) := (((below_drewN be0 1).alloc (by show w.heap.size ≤ W0.drew.heap.size; omega) _)).alloc (by simp; omega) _
    have zP : w.heap.size < W0.drew.heap.size := by omega
    have zQ : w.heap.size < (W0.drew.alloc (.cells (bs z32) 23)).heap.size := by simp; omega
    generalize ((W0.drew.alloc (.cells (bs z32) 23)).alloc (.cells (bs z32) 23)) = V2 at *
    generalize (W0.drew.alloc (.cells (bs z32) 23)).heap.size = qq at *
    generalize W0.drew.heap.size = pp at *
    refine wpAnyH_ready (rs := [6]) (by kernel_rfl) (by simp) ?_
    refine AllReadyH.cons (o := { dst := none, op := Op.store 23 (Operand.tmp 7) (Operand.tmp 16), type := 0, pos := "law.go:104", after := #[{ on := 4, ground := Ground.data }, { on := 1, ground := Ground.data }, { on := 0, ground := Ground.phase }, { on := 1, ground := Ground.phase }, { on := 2, ground := Ground.textOnly Departure.lateStores }, { on := 3, ground := Ground.textOnly Departure.lateStores }, { on := 4, ground := Ground.phase }, { on := 5, ground := Ground.phase }], guard := none }) rfl (fun K hK => ?_) AllReadyH.nil
    refine step_store rfl (.tmp 7) (.tmp 16) rfl rfl pp a z32 ha rfl rfl rfl hP ?_
    refine hK.out _ _ (by rw [setRow_other _ _ _ _ (by omega)]; exact hHeld) (fun hHeld => ?_)
    clear hK K
    have hq2 : (V2.setRow pp (bs a)).heap[qq]? = some (.cells (bs z32) 23 (0, 0)) := by rw [setRow_other _ _ _ _ (fun e => hPQ e.symm)]; exact hQ
    refine wpAnyH_ready (rs := [7]) (by kernel_rfl) (by simp) ?_
    refine AllReadyH.cons (o := { dst := none, op := Op.store 23 (Operand.tmp 8) (Operand.tmp 18), type := 0, pos := "law.go:104", after := #[{ on := 5, ground := Ground.data }, { on := 3, ground := Ground.data }, { on := 6, ground := Ground.chain }, { on := 0, ground := Ground.phase }, { on := 1, ground := Ground.phase }, { on := 2, ground := Ground.phase }, { on := 3, ground := Ground.phase }, { on := 4, ground := Ground.phase }, { on := 5, ground := Ground.phase }, { on := 6, ground := Ground.phase }], guard := none }) rfl (fun K hK => ?_) AllReadyH.nil
    refine step_store rfl (.tmp 8) (.tmp 18) rfl rfl qq b z32 hb rfl rfl rfl hq2 ?_
    refine hK.out _ _ (by rw [setRow_other _ _ _ _ (by omega)]; exact hHeld) (fun hHeld => ?_)
    clear hK K
    refine wpAnyH_done (by kernel_rfl) ?_ _
    refine NoPanic.normal ?_
    have gp : ((V2.setRow pp (bs a)).setRow qq (bs b)).heap[pp]? = some (.cells (bs a) 23 (0, 0)) := by rw [setRow_other _ _ _ _ hPQ]; exact setRow_heap _ _ _ _ _ _ hP
    have gq : ((V2.setRow pp (bs a)).setRow qq (bs b)).heap[qq]? = some (.cells (bs b) 23 (0, 0)) := setRow_heap _ _ _ _ _ _ hq2
    have bel : Below w.heap.size w ((V2.setRow pp (bs a)).setRow qq (bs b)) := (bV.trans (below_setRow _ _ _ _ (by omega))).trans (below_setRow _ _ _ _ (by omega))
    generalize ((V2.setRow pp (bs a)).setRow qq (bs b)) = V4 at *
    clear hP hQ hPQ bV zP zQ hq2 hHeld g0 be0 zz zz1
  case' refine_2 =>
    refine step_alloc rfl rfl ?_
    refine hK.out _ _ (by rw [Below.heap_alloc _ _ _ (by omega)]; exact hHeld) (fun hHeld => ?_)
    clear hK K
    simp only [Act.put, List.setIfInBounds_toArray, List.set_cons_zero, List.set_cons_succ]
    refine wpAnyH_ready (rs := [4]) (by kernel_rfl) (by simp) ?_
    refine AllReadyH.cons (o := { dst := some 7, op := Op.alloc 23, type := 0, pos := "law.go:104", after := #[], guard := none }) rfl (fun K hK => ?_) AllReadyH.nil
    refine step_alloc rfl rfl ?_
    refine hK.out _ _ (by rw [Below.heap_alloc _ _ _ (by simp; omega)]; exact hHeld) (fun hHeld => ?_)
    clear hK K
    simp only [Act.put, List.setIfInBounds_toArray, List.set_cons_zero, List.set_cons_succ]
    have hP : ((W0.drew.alloc (.cells (bs z32) 23)).alloc (.cells (bs z32) 23)).heap[W0.drew.heap.size]? = some (.cells (bs z32) 23 (0, 0)) := heap_alloc2_old _ _ _
    have hQ : ((W0.drew.alloc (.cells (bs z32) 23)).alloc (.cells (bs z32) 23)).heap[(W0.drew.alloc (.cells (bs z32) 23)).heap.size]? = some (.cells (bs z32) 23 (0, 0)) := heap_alloc_new _ _
    have hPQ : W0.drew.heap.size ≠ (W0.drew.alloc (.cells (bs z32) 23)).heap.size := by simp
    have bV : Below w.heap.size w ((W0.drew.alloc (.cells (bs z32) 23)).alloc (.cells (bs z32) 23)) := (((below_drewN be0 1).alloc (by show w.heap.size ≤ W0.drew.heap.size; omega) _)).alloc (by simp; omega) _
    have zP : w.heap.size < W0.drew.heap.size := by omega
    have zQ : w.heap.size < (W0.drew.alloc (.cells (bs z32) 23)).heap.size := by simp; omega
    generalize ((W0.drew.alloc (.cells (bs z32) 23)).alloc (.cells (bs z32) 23)) = V2 at *
    generalize (W0.drew.alloc (.cells (bs z32) 23)).heap.size = pp at *
    generalize W0.drew.heap.size = qq at *
    refine wpAnyH_ready (rs := [6]) (by kernel_rfl) (by simp) ?_
    refine AllReadyH.cons (o := { dst := none, op := Op.store 23 (Operand.tmp 7) (Operand.tmp 16), type := 0, pos := "law.go:104", after := #[{ on := 4, ground := Ground.data }, { on := 1, ground := Ground.data }, { on := 0, ground := Ground.phase }, { on := 1, ground := Ground.phase }, { on := 2, ground := Ground.textOnly Departure.lateStores }, { on := 3, ground := Ground.textOnly Departure.lateStores }, { on := 4, ground := Ground.phase }, { on := 5, ground := Ground.phase }], guard := none }) rfl (fun K hK => ?_) AllReadyH.nil
    refine step_store rfl (.tmp 7) (.tmp 16) rfl rfl pp a z32 ha rfl rfl rfl hQ ?_
    refine hK.out _ _ (by rw [setRow_other _ _ _ _ (by omega)]; exact hHeld) (fun hHeld => ?_)
    clear hK K
    have hq2 : (V2.setRow pp (bs a)).heap[qq]? = some (.cells (bs z32) 23 (0, 0)) := by rw [setRow_other _ _ _ _ (fun e => hPQ.symm e.symm)]; exact hP
    refine wpAnyH_ready (rs := [7]) (by kernel_rfl) (by simp) ?_
    refine AllReadyH.cons (o := { dst := none, op := Op.store 23 (Operand.tmp 8) (Operand.tmp 18), type := 0, pos := "law.go:104", after := #[{ on := 5, ground := Ground.data }, { on := 3, ground := Ground.data }, { on := 6, ground := Ground.chain }, { on := 0, ground := Ground.phase }, { on := 1, ground := Ground.phase }, { on := 2, ground := Ground.phase }, { on := 3, ground := Ground.phase }, { on := 4, ground := Ground.phase }, { on := 5, ground := Ground.phase }, { on := 6, ground := Ground.phase }], guard := none }) rfl (fun K hK => ?_) AllReadyH.nil
    refine step_store rfl (.tmp 8) (.tmp 18) rfl rfl qq b z32 hb rfl rfl rfl hq2 ?_
    refine hK.out _ _ (by rw [setRow_other _ _ _ _ (by omega)]; exact hHeld) (fun hHeld => ?_)
    clear hK K
    refine wpAnyH_done (by kernel_rfl) ?_ _
    refine NoPanic.normal ?_
    have gp : ((V2.setRow pp (bs a)).setRow qq (bs b)).heap[pp]? = some (.cells (bs a) 23 (0, 0)) := by rw [setRow_other _ _ _ _ hPQ.symm]; exact setRow_heap _ _ _ _ _ _ hQ
    have gq : ((V2.setRow pp (bs a)).setRow qq (bs b)).heap[qq]? = some (.cells (bs b) 23 (0, 0)) := setRow_heap _ _ _ _ _ _ hq2
    have bel : Below w.heap.size w ((V2.setRow pp (bs a)).setRow qq (bs b)) := (bV.trans (below_setRow _ _ _ _ (by omega))).trans (below_setRow _ _ _ _ (by omega))
    generalize ((V2.setRow pp (bs a)).setRow qq (bs b)) = V4 at *
    clear hP hQ hPQ bV zP zQ hq2 hHeld g0 be0 zz zz1
  all_goals (
    go_wp2_with fail
    refine (HU1.out _).mono ?_
    rintro e w5 ⟨rfl, b5⟩
    have z4 := bel.size
    have z5 := b5.size
    have lp : pp < V4.heap.size := (Array.getElem?_eq_some_iff.1 gp).1
    have lq : qq < V4.heap.size := (Array.getElem?_eq_some_iff.1 gq).1
    go_wp2_with (first | (refine wpList_alloc_row rfl 23 rfl (bs z32) (hz23 _) ?_) | (refine wpList_store_row rfl 23 (.tmp 9) (.tmp 22) rfl w5.heap.size (bs u) rfl rfl 23 (bs z32) (heap_alloc_new _ _) (by rw [bs_size, hul]; exact hs23) (by rw [bs_size, bs_size, hul]; rfl) (bs_one _) ?_; rw [World.setRow_alloc_new]) | fail)
    have b5' : Below w.heap.size w (w5.alloc (.cells (bs u) 23)) := (bel.trans (b5.mono z4)).alloc (by omega) _
    have gp5 : (w5.alloc (.cells (bs u) 23)).heap[pp]? = some (.cells (bs a) 23 (0, 0)) := by rw [Below.heap_alloc _ _ _ (by omega), b5.block _ lp]; exact gp
    have gq5 : (w5.alloc (.cells (bs u) 23)).heap[qq]? = some (.cells (bs b) 23 (0, 0)) := by rw [Below.heap_alloc _ _ _ (by omega), b5.block _ lq]; exact gq
    have gr5 : (w5.alloc (.cells (bs u) 23)).heap[w5.heap.size]? = some (.cells (bs u) 23 (0, 0)) := heap_alloc_new _ _
    have zr : w5.heap.size < (w5.alloc (.cells (bs u) 23)).heap.size := by simp
    generalize (w5.alloc (.cells (bs u) 23)) = W5 at *
    generalize w5.heap.size = rr at *
    refine (HU2.out _).mono ?_
    rintro e w6 ⟨rfl, b6⟩
    have z5' := b5'.size
    have z6 := b6.size
    have lp5 : pp < W5.heap.size := (Array.getElem?_eq_some_iff.1 gp5).1
    have lq5 : qq < W5.heap.size := (Array.getElem?_eq_some_iff.1 gq5).1
    go_wp2_with (first | (refine wpList_alloc_row rfl 23 rfl (bs z32) (hz23 _) ?_) | (refine wpList_store_row rfl 23 (.tmp 12) (.tmp 28) rfl w6.heap.size (bs u) rfl rfl 23 (bs z32) (heap_alloc_new _ _) (by rw [bs_size, hul]; exact hs23) (by rw [bs_size, bs_size, hul]; rfl) (bs_one _) ?_; rw [World.setRow_alloc_new]) | fail)
    have b7 : Below w.heap.size w (w6.alloc (.cells (bs u) 23)) := (b5'.trans (b6.mono z5')).alloc (by omega) _
    have S7 : S4 a b u pp qq rr w6.heap.size (w6.alloc (.cells (bs u) 23)) := ⟨by rw [Below.heap_alloc _ _ _ (by omega), b6.block _ lp5]; exact gp5, by rw [Below.heap_alloc _ _ _ (by omega), b6.block _ lq5]; exact gq5, by rw [Below.heap_alloc _ _ _ (by omega), b6.block _ zr]; exact gr5, heap_alloc_new _ _⟩
    generalize (w6.alloc (.cells (bs u) 23)) = W7 at *
    generalize w6.heap.size = tt at *
    clear gp gq bel b5 b5' gp5 gq5 gr5 b6 HU1 HU2 z4 z5 z6 lp lq lp5 lq5 zr z5'
    refine wp_region_noPanic ?_
    refine wp_region_held_drew (S := S4 a b u pp qq rr tt) (by kernel_rfl) S7 (fun hHeld => ?_)
    have b7' := below_drewN b7 1
    clear S7 b7
    refine wpAnyH_take (i := 0) (oi := { dst := some 31, op := Op.load 23 (Operand.tmp 7), type := 23, pos := "law.go:107", after := #[], guard := none }) (v := .agg (bs a)) rfl (by kernel_rfl) (by kernel_rfl) (by kernel_rfl) (fun _ _ _ h => h) (yields_row (by rfl) (.tmp 7) rfl pp rfl a ha 23 (0, 0) (fun w1 h1 => h1.1)) hHeld ?_
    simp only [Act.put, List.setIfInBounds_toArray, List.set_cons_zero, List.set_cons_succ]
    refine wpAnyH_take (i := 2) (oi := { dst := some 33, op := Op.load 23 (Operand.tmp 7), type := 23, pos := "law.go:107", after := #[], guard := none }) (v := .agg (bs a)) rfl (by kernel_rfl) (by kernel_rfl) (by kernel_rfl) (fun _ _ _ h => h) (yields_row (by rfl) (.tmp 7) rfl pp rfl a ha 23 (0, 0) (fun w1 h1 => h1.1)) hHeld ?_
    simp only [Act.put, List.setIfInBounds_toArray, List.set_cons_zero, List.set_cons_succ]
    refine wpAnyH_ready (rs := [1]) (by kernel_rfl) (by simp) ?_
    refine AllReadyH.cons (o := { dst := some 32, op := Op.call { callee := Callee.value (Operand.func 7), args := #[Operand.tmp 31], argTypes := #[23] }, type := 9, pos := "law.go:107", after := #[{ on := 0, ground := Ground.data }], guard := none }) rfl (fun K hK => ?_) AllReadyH.nil
    go_simp
    refine (hex_any a ha _).mono ?_
    rintro e x1 ⟨rfl, bb⟩
    have c1 := b7'.trans (bb.mono b7'.size)
    try go_wp2_with fail
    refine hK.out _ _ (hHeld.below bb) (fun hHeld => ?_)
    clear hK K bb
    try simp only [Act.put, List.setIfInBounds_toArray, List.set_cons_zero, List.set_cons_succ]
    refine wpAnyH_ready (rs := [3]) (by kernel_rfl) (by simp) ?_
    refine AllReadyH.cons (o := { dst := some 34, op := Op.call { callee := Callee.value (Operand.func 8), args := #[Operand.tmp 33], argTypes := #[23] }, type := 9, pos := "law.go:107", after := #[{ on := 2, ground := Ground.data }, { on := 1, ground := Ground.chain }], guard := none }) rfl (fun K hK => ?_) AllReadyH.nil
    go_simp
    refine (rhex_any a ha _).mono ?_
    rintro e x2 ⟨rfl, bb⟩
    have c2 := c1.trans (bb.mono c1.size)
    try go_wp2_with fail
    refine hK.out _ _ (hHeld.below bb) (fun hHeld => ?_)
    clear hK K bb
    try simp only [Act.put, List.setIfInBounds_toArray, List.set_cons_zero, List.set_cons_succ]
    refine wpAnyH_take (i := 4) (oi := { dst := some 35, op := Op.binOp BinOp.eql 9 (Operand.tmp 32) (Operand.tmp 34) 9, type := 4, pos := "law.go:107", after := #[{ on := 1, ground := Ground.data }, { on := 3, ground := Ground.data }], guard := none }) (v := .bool true) rfl (by kernel_rfl) (by kernel_rfl) (by kernel_rfl) (fun _ _ _ h => h) (Or.inl ⟨by rfl, fun w1 hS1 => by go_simp⟩) hHeld ?_
    simp only [Act.put, List.setIfInBounds_toArray, List.set_cons_zero, List.set_cons_succ]
    refine wpAnyH_take (i := 5) (oi := { dst := some 36, op := Op.move (Operand.tmp 35), type := 4, pos := "law.go:107", after := #[{ on := 4, ground := Ground.data }, { on := 3, ground := Ground.chain }], guard := none }) (v := .bool true) rfl (by kernel_rfl) (by kernel_rfl) (by kernel_rfl) (fun _ _ _ h => h) (Or.inl ⟨by rfl, fun w1 hS1 => by go_simp⟩) hHeld ?_
    simp only [Act.put, List.setIfInBounds_toArray, List.set_cons_zero, List.set_cons_succ]
    refine wpAnyH_take (i := 6) (oi := { dst := some 37, op := Op.load 23 (Operand.tmp 9), type := 23, pos := "law.go:107", after := #[{ on := 5, ground := Ground.guard }], guard := some (5, true) }) (v := .agg (bs u)) rfl (by kernel_rfl) (by kernel_rfl) (by kernel_rfl) (fun _ _ _ h => h) (yields_row (by rfl) (.tmp 9) rfl rr rfl u hul 23 (0, 0) (fun w1 h1 => h1.2.2.1)) hHeld ?_
    simp only [Act.put, List.setIfInBounds_toArray, List.set_cons_zero, List.set_cons_succ]
    refine wpAnyH_take (i := 7) (oi := { dst := some 38, op := Op.load 23 (Operand.tmp 12), type := 23, pos := "law.go:107", after := #[{ on := 5, ground := Ground.guard }], guard := some (5, true) }) (v := .agg (bs u)) rfl (by kernel_rfl) (by kernel_rfl) (by kernel_rfl) (fun _ _ _ h => h) (yields_row (by rfl) (.tmp 12) rfl tt rfl u hul 23 (0, 0) (fun w1 h1 => h1.2.2.2)) hHeld ?_
    simp only [Act.put, List.setIfInBounds_toArray, List.set_cons_zero, List.set_cons_succ]
    refine wpAnyH_take (i := 8) (oi := { dst := some 39, op := Op.binOp BinOp.eql 23 (Operand.tmp 37) (Operand.tmp 38) 23, type := 4, pos := "law.go:107", after := #[{ on := 6, ground := Ground.data }, { on := 7, ground := Ground.data }, { on := 5, ground := Ground.guard }], guard := some (5, true) }) (v := .bool true) rfl (by kernel_rfl) (by kernel_rfl) (by kernel_rfl) (fun _ _ _ h => h) (Or.inl ⟨by rfl, fun w1 hS1 => by go_simp⟩) hHeld ?_
    simp only [Act.put, List.setIfInBounds_toArray, List.set_cons_zero, List.set_cons_succ]
    refine wpAnyH_take (i := 9) (oi := { dst := some 40, op := Op.pick (Operand.tmp 36) (Operand.tmp 39) (Operand.const (Value.bool false)), type := 4, pos := "law.go:107", after := #[{ on := 5, ground := Ground.data }, { on := 8, ground := Ground.data }], guard := none }) (v := .bool true) rfl (by kernel_rfl) (by kernel_rfl) (by kernel_rfl) (fun _ _ _ h => h) (Or.inl ⟨by rfl, fun w1 hS1 => by go_simp⟩) hHeld ?_
    simp only [Act.put, List.setIfInBounds_toArray, List.set_cons_zero, List.set_cons_succ]
    refine wpAnyH_take (i := 10) (oi := { dst := some 41, op := Op.move (Operand.tmp 40), type := 4, pos := "law.go:107", after := #[{ on := 9, ground := Ground.data }, { on := 5, ground := Ground.chain }], guard := none }) (v := .bool true) rfl (by kernel_rfl) (by kernel_rfl) (by kernel_rfl) (fun _ _ _ h => h) (Or.inl ⟨by rfl, fun w1 hS1 => by go_simp⟩) hHeld ?_
    simp only [Act.put, List.setIfInBounds_toArray, List.set_cons_zero, List.set_cons_succ]
    refine wpAnyH_take (i := 11) (oi := { dst := some 42, op := Op.move (Operand.tmp 10), type := 26, pos := "law.go:107", after := #[{ on := 10, ground := Ground.guard }], guard := some (10, true) }) (v := .int .i64 er) rfl (by kernel_rfl) (by kernel_rfl) (by kernel_rfl) (fun _ _ _ h => h) (Or.inl ⟨by rfl, fun w1 hS1 => by go_simp⟩) hHeld ?_
    simp only [Act.put, List.setIfInBounds_toArray, List.set_cons_zero, List.set_cons_succ]
    refine wpAnyH_take (i := 12) (oi := { dst := some 43, op := Op.move (Operand.tmp 13), type := 26, pos := "law.go:107", after := #[{ on := 10, ground := Ground.guard }], guard := some (10, true) }) (v := .int .i64 er) rfl (by kernel_rfl) (by kernel_rfl) (by kernel_rfl) (fun _ _ _ h => h) (Or.inl ⟨by rfl, fun w1 hS1 => by go_simp⟩) hHeld ?_
    simp only [Act.put, List.setIfInBounds_toArray, List.set_cons_zero, List.set_cons_succ]
    refine wpAnyH_take (i := 13) (oi := { dst := some 44, op := Op.binOp BinOp.eql 26 (Operand.tmp 42) (Operand.tmp 43) 26, type := 4, pos := "law.go:107", after := #[{ on := 11, ground := Ground.data }, { on := 12, ground := Ground.data }, { on := 10, ground := Ground.guard }], guard := some (10, true) }) (v := .bool true) rfl (by kernel_rfl) (by kernel_rfl) (by kernel_rfl) (fun _ _ _ h => h) (Or.inl ⟨by rfl, fun w1 hS1 => by go_simp⟩) hHeld ?_
    simp only [Act.put, List.setIfInBounds_toArray, List.set_cons_zero, List.set_cons_succ]
    refine wpAnyH_take (i := 14) (oi := { dst := some 45, op := Op.pick (Operand.tmp 41) (Operand.tmp 44) (Operand.const (Value.bool false)), type := 4, pos := "law.go:107", after := #[{ on := 10, ground := Ground.data }, { on := 13, ground := Ground.data }], guard := none }) (v := .bool true) rfl (by kernel_rfl) (by kernel_rfl) (by kernel_rfl) (fun _ _ _ h => h) (Or.inl ⟨by rfl, fun w1 hS1 => by go_simp⟩) hHeld ?_
    simp only [Act.put, List.setIfInBounds_toArray, List.set_cons_zero, List.set_cons_succ]
    refine wpAnyH_take (i := 15) (oi := { dst := some 46, op := Op.move (Operand.tmp 45), type := 4, pos := "law.go:107", after := #[{ on := 14, ground := Ground.data }, { on := 10, ground := Ground.chain }], guard := none }) (v := .bool true) rfl (by kernel_rfl) (by kernel_rfl) (by kernel_rfl) (fun _ _ _ h => h) (Or.inl ⟨by rfl, fun w1 hS1 => by go_simp⟩) hHeld ?_
    simp only [Act.put, List.setIfInBounds_toArray, List.set_cons_zero, List.set_cons_succ]
    refine wpAnyH_take (i := 16) (oi := { dst := some 47, op := Op.move (Operand.tmp 11), type := 3, pos := "law.go:107", after := #[{ on := 15, ground := Ground.guard }], guard := some (15, true) }) (v := .int .i64 k) rfl (by kernel_rfl) (by kernel_rfl) (by kernel_rfl) (fun _ _ _ h => h) (Or.inl ⟨by rfl, fun w1 hS1 => by go_simp⟩) hHeld ?_
    simp only [Act.put, List.setIfInBounds_toArray, List.set_cons_zero, List.set_cons_succ]
    refine wpAnyH_take (i := 17) (oi := { dst := some 48, op := Op.move (Operand.tmp 14), type := 3, pos := "law.go:107", after := #[{ on := 15, ground := Ground.guard }], guard := some (15, true) }) (v := .int .i64 k) rfl (by kernel_rfl) (by kernel_rfl) (by kernel_rfl) (fun _ _ _ h => h) (Or.inl ⟨by rfl, fun w1 hS1 => by go_simp⟩) hHeld ?_
    simp only [Act.put, List.setIfInBounds_toArray, List.set_cons_zero, List.set_cons_succ]
    refine wpAnyH_take (i := 18) (oi := { dst := some 49, op := Op.binOp BinOp.eql 3 (Operand.tmp 47) (Operand.tmp 48) 3, type := 4, pos := "law.go:107", after := #[{ on := 16, ground := Ground.data }, { on := 17, ground := Ground.data }, { on := 15, ground := Ground.guard }], guard := some (15, true) }) (v := .bool true) rfl (by kernel_rfl) (by kernel_rfl) (by kernel_rfl) (fun _ _ _ h => h) (Or.inl ⟨by rfl, fun w1 hS1 => by go_simp⟩) hHeld ?_
    simp only [Act.put, List.setIfInBounds_toArray, List.set_cons_zero, List.set_cons_succ]
    refine wpAnyH_take (i := 19) (oi := { dst := some 50, op := Op.pick (Operand.tmp 46) (Operand.tmp 49) (Operand.const (Value.bool false)), type := 4, pos := "law.go:107", after := #[{ on := 15, ground := Ground.data }, { on := 18, ground := Ground.data }], guard := none }) (v := .bool true) rfl (by kernel_rfl) (by kernel_rfl) (by kernel_rfl) (fun _ _ _ h => h) (Or.inl ⟨by rfl, fun w1 hS1 => by go_simp⟩) hHeld ?_
    simp only [Act.put, List.setIfInBounds_toArray, List.set_cons_zero, List.set_cons_succ]
    refine wpAnyH_take (i := 20) (oi := { dst := some 51, op := Op.move (Operand.tmp 50), type := 4, pos := "law.go:107", after := #[{ on := 19, ground := Ground.data }, { on := 15, ground := Ground.chain }], guard := none }) (v := .bool true) rfl (by kernel_rfl) (by kernel_rfl) (by kernel_rfl) (fun _ _ _ h => h) (Or.inl ⟨by rfl, fun w1 hS1 => by go_simp⟩) hHeld ?_
    simp only [Act.put, List.setIfInBounds_toArray, List.set_cons_zero, List.set_cons_succ]
    refine wpAnyH_take (i := 21) (oi := { dst := some 52, op := Op.load 23 (Operand.tmp 7), type := 23, pos := "law.go:107", after := #[{ on := 20, ground := Ground.guard }], guard := some (20, true) }) (v := .agg (bs a)) rfl (by kernel_rfl) (by kernel_rfl) (by kernel_rfl) (fun _ _ _ h => h) (yields_row (by rfl) (.tmp 7) rfl pp rfl a ha 23 (0, 0) (fun w1 h1 => h1.1)) hHeld ?_
    simp only [Act.put, List.setIfInBounds_toArray, List.set_cons_zero, List.set_cons_succ]
    refine wpAnyH_take (i := 22) (oi := { dst := some 53, op := Op.move (Operand.tmp 2), type := 3, pos := "law.go:107", after := #[{ on := 20, ground := Ground.guard }], guard := some (20, true) }) (v := .int .i64 n) rfl (by kernel_rfl) (by kernel_rfl) (by kernel_rfl) (fun _ _ _ h => h) (Or.inl ⟨by rfl, fun w1 hS1 => by go_simp⟩) hHeld ?_
    simp only [Act.put, List.setIfInBounds_toArray, List.set_cons_zero, List.set_cons_succ]
    refine wpAnyH_take (i := 24) (oi := { dst := some 55, op := Op.load 23 (Operand.tmp 7), type := 23, pos := "law.go:107", after := #[{ on := 20, ground := Ground.guard }], guard := some (20, true) }) (v := .agg (bs a)) rfl (by kernel_rfl) (by kernel_rfl) (by kernel_rfl) (fun _ _ _ h => h) (yields_row (by rfl) (.tmp 7) rfl pp rfl a ha 23 (0, 0) (fun w1 h1 => h1.1)) hHeld ?_
    simp only [Act.put, List.setIfInBounds_toArray, List.set_cons_zero, List.set_cons_succ]
    refine wpAnyH_take (i := 25) (oi := { dst := some 56, op := Op.move (Operand.tmp 2), type := 3, pos := "law.go:107", after := #[{ on := 20, ground := Ground.guard }], guard := some (20, true) }) (v := .int .i64 n) rfl (by kernel_rfl) (by kernel_rfl) (by kernel_rfl) (fun _ _ _ h => h) (Or.inl ⟨by rfl, fun w1 hS1 => by go_simp⟩) hHeld ?_
    simp only [Act.put, List.setIfInBounds_toArray, List.set_cons_zero, List.set_cons_succ]
    refine wpAnyH_ready (rs := [23]) (by kernel_rfl) (by simp) ?_
    refine AllReadyH.cons (o := { dst := some 54, op := Op.call { callee := Callee.value (Operand.func 9), args := #[Operand.tmp 52, Operand.tmp 53], argTypes := #[23, 3] }, type := 9, pos := "law.go:108", after := #[{ on := 21, ground := Ground.data }, { on := 22, ground := Ground.data }, { on := 20, ground := Ground.chain }, { on := 20, ground := Ground.guard }], guard := some (20, true) }) rfl (fun K hK => ?_) AllReadyH.nil
    go_simp
    refine (short_any a ha n _).mono ?_
    rintro e x3 ⟨rfl, bb⟩
    have c3 := c2.trans (bb.mono c2.size)
    try go_wp2_with fail
    refine hK.out _ _ (hHeld.below bb) (fun hHeld => ?_)
    clear hK K bb
    try simp only [Act.put, List.setIfInBounds_toArray, List.set_cons_zero, List.set_cons_succ]
    refine wpAnyH_ready (rs := [26]) (by kernel_rfl) (by simp) ?_
    refine AllReadyH.cons (o := { dst := some 57, op := Op.call { callee := Callee.value (Operand.func 10), args := #[Operand.tmp 55, Operand.tmp 56], argTypes := #[23, 3] }, type := 9, pos := "law.go:108", after := #[{ on := 24, ground := Ground.data }, { on := 25, ground := Ground.data }, { on := 23, ground := Ground.chain }, { on := 20, ground := Ground.guard }], guard := some (20, true) }) rfl (fun K hK => ?_) AllReadyH.nil
    go_simp
    refine (rshort_any a ha n _).mono ?_
    rintro e x4 ⟨rfl, bb⟩
    have c4 := c3.trans (bb.mono c3.size)
    try go_wp2_with fail
    refine hK.out _ _ (hHeld.below bb) (fun hHeld => ?_)
    clear hK K bb
    try simp only [Act.put, List.setIfInBounds_toArray, List.set_cons_zero, List.set_cons_succ]
    refine wpAnyH_take (i := 27) (oi := { dst := some 58, op := Op.binOp BinOp.eql 9 (Operand.tmp 54) (Operand.tmp 57) 9, type := 4, pos := "law.go:107", after := #[{ on := 23, ground := Ground.data }, { on := 26, ground := Ground.data }, { on := 20, ground := Ground.guard }], guard := some (20, true) }) (v := .bool true) rfl (by kernel_rfl) (by kernel_rfl) (by kernel_rfl) (fun _ _ _ h => h) (Or.inl ⟨by rfl, fun w1 hS1 => by go_simp⟩) hHeld ?_
    simp only [Act.put, List.setIfInBounds_toArray, List.set_cons_zero, List.set_cons_succ]
    refine wpAnyH_take (i := 28) (oi := { dst := some 59, op := Op.pick (Operand.tmp 51) (Operand.tmp 58) (Operand.const (Value.bool false)), type := 4, pos := "law.go:107", after := #[{ on := 20, ground := Ground.data }, { on := 27, ground := Ground.data }], guard := none }) (v := .bool true) rfl (by kernel_rfl) (by kernel_rfl) (by kernel_rfl) (fun _ _ _ h => h) (Or.inl ⟨by rfl, fun w1 hS1 => by go_simp⟩) hHeld ?_
    simp only [Act.put, List.setIfInBounds_toArray, List.set_cons_zero, List.set_cons_succ]
    refine wpAnyH_take (i := 29) (oi := { dst := some 60, op := Op.move (Operand.tmp 59), type := 4, pos := "law.go:107", after := #[{ on := 28, ground := Ground.data }, { on := 26, ground := Ground.chain }], guard := none }) (v := .bool true) rfl (by kernel_rfl) (by kernel_rfl) (by kernel_rfl) (fun _ _ _ h => h) (Or.inl ⟨by rfl, fun w1 hS1 => by go_simp⟩) hHeld ?_
    simp only [Act.put, List.setIfInBounds_toArray, List.set_cons_zero, List.set_cons_succ]
    refine wpAnyH_take (i := 30) (oi := { dst := some 61, op := Op.load 23 (Operand.tmp 7), type := 23, pos := "law.go:107", after := #[{ on := 29, ground := Ground.guard }], guard := some (29, true) }) (v := .agg (bs a)) rfl (by kernel_rfl) (by kernel_rfl) (by kernel_rfl) (fun _ _ _ h => h) (yields_row (by rfl) (.tmp 7) rfl pp rfl a ha 23 (0, 0) (fun w1 h1 => h1.1)) hHeld ?_
    simp only [Act.put, List.setIfInBounds_toArray, List.set_cons_zero, List.set_cons_succ]
    refine wpAnyH_take (i := 31) (oi := { dst := some 62, op := Op.load 23 (Operand.tmp 8), type := 23, pos := "law.go:107", after := #[{ on := 29, ground := Ground.guard }], guard := some (29, true) }) (v := .agg (bs b)) rfl (by kernel_rfl) (by kernel_rfl) (by kernel_rfl) (fun _ _ _ h => h) (yields_row (by rfl) (.tmp 8) rfl qq rfl b hb 23 (0, 0) (fun w1 h1 => h1.2.1)) hHeld ?_
    simp only [Act.put, List.setIfInBounds_toArray, List.set_cons_zero, List.set_cons_succ]
    refine wpAnyH_take (i := 33) (oi := { dst := some 64, op := Op.load 23 (Operand.tmp 7), type := 23, pos := "law.go:107", after := #[{ on := 29, ground := Ground.guard }], guard := some (29, true) }) (v := .agg (bs a)) rfl (by kernel_rfl) (by kernel_rfl) (by kernel_rfl) (fun _ _ _ h => h) (yields_row (by rfl) (.tmp 7) rfl pp rfl a ha 23 (0, 0) (fun w1 h1 => h1.1)) hHeld ?_
    simp only [Act.put, List.setIfInBounds_toArray, List.set_cons_zero, List.set_cons_succ]
    refine wpAnyH_take (i := 34) (oi := { dst := some 65, op := Op.load 23 (Operand.tmp 8), type := 23, pos := "law.go:107", after := #[{ on := 29, ground := Ground.guard }], guard := some (29, true) }) (v := .agg (bs b)) rfl (by kernel_rfl) (by kernel_rfl) (by kernel_rfl) (fun _ _ _ h => h) (yields_row (by rfl) (.tmp 8) rfl qq rfl b hb 23 (0, 0) (fun w1 h1 => h1.2.1)) hHeld ?_
    simp only [Act.put, List.setIfInBounds_toArray, List.set_cons_zero, List.set_cons_succ]
    refine wpAnyH_ready (rs := [32]) (by kernel_rfl) (by simp) ?_
    refine AllReadyH.cons (o := { dst := some 63, op := Op.call { callee := Callee.value (Operand.func 11), args := #[Operand.tmp 61, Operand.tmp 62], argTypes := #[23, 23] }, type := 3, pos := "law.go:108", after := #[{ on := 30, ground := Ground.data }, { on := 31, ground := Ground.data }, { on := 29, ground := Ground.chain }, { on := 29, ground := Ground.guard }], guard := some (29, true) }) rfl (fun K hK => ?_) AllReadyH.nil
    go_simp
    refine (cmp_any a b ha hb _).mono ?_
    rintro e x5 ⟨rfl, bb⟩
    have c5 := c4.trans (bb.mono c4.size)
    try go_wp2_with fail
    refine hK.out _ _ (hHeld.below bb) (fun hHeld => ?_)
    clear hK K bb
    try simp only [Act.put, List.setIfInBounds_toArray, List.set_cons_zero, List.set_cons_succ]
    refine wpAnyH_ready (rs := [35]) (by kernel_rfl) (by simp) ?_
    refine AllReadyH.cons (o := { dst := some 66, op := Op.call { callee := Callee.value (Operand.func 12), args := #[Operand.tmp 64, Operand.tmp 65], argTypes := #[23, 23] }, type := 3, pos := "law.go:108", after := #[{ on := 33, ground := Ground.data }, { on := 34, ground := Ground.data }, { on := 32, ground := Ground.chain }, { on := 29, ground := Ground.guard }], guard := some (29, true) }) rfl (fun K hK => ?_) AllReadyH.nil
    go_simp
    refine (rcmp_any a b ha hb _).mono ?_
    rintro e x6 ⟨rfl, bb⟩
    have c6 := c5.trans (bb.mono c5.size)
    try go_wp2_with fail
    refine hK.out _ _ (hHeld.below bb) (fun hHeld => ?_)
    clear hK K bb
    try simp only [Act.put, List.setIfInBounds_toArray, List.set_cons_zero, List.set_cons_succ]
    refine wpAnyH_take (i := 36) (oi := { dst := some 67, op := Op.binOp BinOp.eql 3 (Operand.tmp 63) (Operand.tmp 66) 3, type := 4, pos := "law.go:107", after := #[{ on := 32, ground := Ground.data }, { on := 35, ground := Ground.data }, { on := 29, ground := Ground.guard }], guard := some (29, true) }) (v := .bool true) rfl (by kernel_rfl) (by kernel_rfl) (by kernel_rfl) (fun _ _ _ h => h) (Or.inl ⟨by rfl, fun w1 hS1 => by go_simp⟩) hHeld ?_
    simp only [Act.put, List.setIfInBounds_toArray, List.set_cons_zero, List.set_cons_succ]
    refine wpAnyH_take (i := 37) (oi := { dst := some 68, op := Op.pick (Operand.tmp 60) (Operand.tmp 67) (Operand.const (Value.bool false)), type := 4, pos := "law.go:107", after := #[{ on := 29, ground := Ground.data }, { on := 36, ground := Ground.data }], guard := none }) (v := .bool true) rfl (by kernel_rfl) (by kernel_rfl) (by kernel_rfl) (fun _ _ _ h => h) (Or.inl ⟨by rfl, fun w1 hS1 => by go_simp⟩) hHeld ?_
    simp only [Act.put, List.setIfInBounds_toArray, List.set_cons_zero, List.set_cons_succ]
    refine wpAnyH_take (i := 38) (oi := { dst := some 6, op := Op.assign (Operand.tmp 68), type := 4, pos := "law.go:107", after := #[{ on := 37, ground := Ground.data }, { on := 35, ground := Ground.chain }, { on := 0, ground := Ground.phase }, { on := 1, ground := Ground.phase }, { on := 2, ground := Ground.phase }, { on := 3, ground := Ground.phase }, { on := 4, ground := Ground.phase }, { on := 5, ground := Ground.phase }, { on := 6, ground := Ground.phase }, { on := 7, ground := Ground.phase }, { on := 8, ground := Ground.phase }, { on := 9, ground := Ground.phase }, { on := 10, ground := Ground.phase }, { on := 11, ground := Ground.phase }, { on := 12, ground := Ground.phase }, { on := 13, ground := Ground.phase }, { on := 14, ground := Ground.phase }, { on := 15, ground := Ground.phase }, { on := 16, ground := Ground.phase }, { on := 17, ground := Ground.phase }, { on := 18, ground := Ground.phase }, { on := 19, ground := Ground.phase }, { on := 20, ground := Ground.phase }, { on := 21, ground := Ground.phase }, { on := 22, ground := Ground.phase }, { on := 23, ground := Ground.phase }, { on := 24, ground := Ground.phase }, { on := 25, ground := Ground.phase }, { on := 26, ground := Ground.phase }, { on := 27, ground := Ground.phase }, { on := 28, ground := Ground.phase }, { on := 29, ground := Ground.phase }, { on := 30, ground := Ground.phase }, { on := 31, ground := Ground.phase }, { on := 32, ground := Ground.phase }, { on := 33, ground := Ground.phase }, { on := 34, ground := Ground.phase }, { on := 35, ground := Ground.phase }, { on := 36, ground := Ground.phase }, { on := 37, ground := Ground.phase }], guard := none }) (v := .bool true) rfl (by kernel_rfl) (by kernel_rfl) (by kernel_rfl) (fun _ _ _ h => h) (Or.inl ⟨by rfl, fun w1 hS1 => by go_simp⟩) hHeld ?_
    simp only [Act.put, List.setIfInBounds_toArray, List.set_cons_zero, List.set_cons_succ]
    refine wpAnyH_done (by kernel_rfl) ?_ _
    refine NoPanic.normal ?_
    go_wp2
    go_ret
    exact ⟨rfl, c6⟩)
end Go.Proofs.Ytmmdbilfjgmdhaa
