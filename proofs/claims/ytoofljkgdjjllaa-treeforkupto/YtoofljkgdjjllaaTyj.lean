import Derived.Test.YtoofljkgdjjllaaTyi0
import Derived.Laws.MakeOwn
import Derived.Maps.Range
namespace Go.Proofs.Ytoofljkgdjjllaa
open Go.RowKit
set_option linter.unusedVariables false
set_option linter.unusedSimpArgs false

section
variable {P : Program} {w w2 : World} {a : Act} {o : Oper}
theorem exec_makeSlice {t : TypeId} {x y : Operand} {xv yv v : Value} (ho : o.op = .makeSlice t x y) (hx : a.eval x = xv) (hy : a.eval y = yv) (hl : (Instr.makeSlice t xv yv).run P w = .ok v w2) : (execOp a.eval o).run P w = .ok (.value v) w2 := by
  unfold execOp; simp only [ho, hx, hy, Sem.run_bind, hl, Result.andThen_ok, Sem.run_pure]
theorem exec_range {t : TypeId} {x : Operand} {xv v : Value} (ho : o.op = .range t x) (hx : a.eval x = xv) (hl : (Instr.range t xv).run P w = .ok v w2) : (execOp a.eval o).run P w = .ok (.value v) w2 := by
  unfold execOp; simp only [ho, hx, Sem.run_bind, hl, Result.andThen_ok, Sem.run_pure]
theorem exec_next {x : Operand} {b : Bool} {xv v : Value} (ho : o.op = .next x b) (hx : a.eval x = xv) (hl : (Instr.next xv b o.type).run P w = .ok v w2) : (execOp a.eval o).run P w = .ok (.value v) w2 := by
  unfold execOp; simp only [ho, hx, Sem.run_bind, hl, Result.andThen_ok, Sem.run_pure]
theorem exec_entry {x : Operand} {xv v : Value} (ho : o.op = .entry x) (hx : a.eval x = xv) (hl : (Instr.entry xv).run P w = .ok v w2) : (execOp a.eval o).run P w = .ok (.value v) w2 := by
  unfold execOp; simp only [ho, hx, Sem.run_bind, hl, Result.andThen_ok, Sem.run_pure]
end
theorem grown_below {w w' : World} (h : w.grownBy w' none) : Below w.heap.size w w' := ⟨h.os, h.tape, h.output, h.size, fun k hk => h.block k hk (by simp)⟩
theorem iter_left {κ : Type} {w : World} {b r : Nat} {enc : κ → Value} {E T : List (κ × Value)} (h : M.Iter w b r enc E T) : w.rangeLeft b r = T.length := by
  obtain ⟨es, c, since, seen, c0, hb, he, hs, hr, hold, hsc, hc, hl⟩ := h
  simp only [World.rangeLeft, hb, hr]
  have := congrArg List.length hl
  simpa using this
set_option maxRecDepth 100000 in
theorem field_key0 (w : World) (a0 a1 a2 a3 a4 a5 a6 a7 a8 a9 a10 a11 a12 a13 a14 a15 a16 a17 a18 a19 a20 a21 a22 a23 a24 a25 a26 a27 a28 a29 a30 a31 a32 : Value) (key : ByteArray) (b : Bool) : (Instr.field 94 (.agg ([a0, a1, a2, a3, a4, a5, a6, a7, a8, a9, a10, a11, a12, a13, a14, a15, a16, a17, a18, a19, a20, a21, a22, a23, a24, a25, a26, a27, a28, a29, a30, a31, a32] ++ [Value.string key, Value.bool b]).toArray) 1).run Try.prog w = .ok (.string key) w := by kernel_rfl
theorem field_key (w : World) (n : NodeV) (hn : n.u.ok) : (Instr.field 94 n.v 1).run Try.prog w = .ok (.string n.key) w := by
  have h := IdK.len hn
  unfold NodeV.v NodeV.c
  generalize n.u.c = l at *
  match l, h with
  | a0 :: a1 :: a2 :: a3 :: a4 :: a5 :: a6 :: a7 :: a8 :: a9 :: a10 :: a11 :: a12 :: a13 :: a14 :: a15 :: a16 :: a17 :: a18 :: a19 :: a20 :: a21 :: a22 :: a23 :: a24 :: a25 :: a26 :: a27 :: a28 :: a29 :: a30 :: a31 :: a32 :: [], _ => exact field_key0 w a0 a1 a2 a3 a4 a5 a6 a7 a8 a9 a10 a11 a12 a13 a14 a15 a16 a17 a18 a19 a20 a21 a22 a23 a24 a25 a26 a27 a28 a29 a30 a31 a32 n.key n.pr
set_option maxRecDepth 100000 in
theorem build_kid0 (w : World) (a0 a1 a2 a3 a4 a5 a6 a7 a8 a9 a10 a11 a12 a13 a14 a15 a16 a17 a18 a19 a20 a21 a22 a23 a24 a25 a26 a27 a28 a29 a30 a31 a32 : Value) (key : ByteArray) : (Instr.build 109 #[(0, .agg [a0, a1, a2, a3, a4, a5, a6, a7, a8, a9, a10, a11, a12, a13, a14, a15, a16, a17, a18, a19, a20, a21, a22, a23, a24, a25, a26, a27, a28, a29, a30, a31, a32].toArray), (1, .string key)]).run Try.prog w = .ok (.agg ([a0, a1, a2, a3, a4, a5, a6, a7, a8, a9, a10, a11, a12, a13, a14, a15, a16, a17, a18, a19, a20, a21, a22, a23, a24, a25, a26, a27, a28, a29, a30, a31, a32] ++ [Value.string key]).toArray) w := by kernel_rfl
theorem build_kid (w : World) (u : IdK) (hu : u.ok) (key : ByteArray) : (Instr.build 109 #[(0, u.v), (1, .string key)]).run Try.prog w = .ok (KidV.v ⟨u, key⟩) w := by
  have h := IdK.len hu
  unfold KidV.v KidV.c IdK.v
  simp only
  generalize u.c = l at *
  match l, h with
  | a0 :: a1 :: a2 :: a3 :: a4 :: a5 :: a6 :: a7 :: a8 :: a9 :: a10 :: a11 :: a12 :: a13 :: a14 :: a15 :: a16 :: a17 :: a18 :: a19 :: a20 :: a21 :: a22 :: a23 :: a24 :: a25 :: a26 :: a27 :: a28 :: a29 :: a30 :: a31 :: a32 :: [], _ => exact build_kid0 w a0 a1 a2 a3 a4 a5 a6 a7 a8 a9 a10 a11 a12 a13 a14 a15 a16 a17 a18 a19 a20 a21 a22 a23 a24 a25 a26 a27 a28 a29 a30 a31 a32 key
theorem exec_bk {w : World} {a : Act} {o : Oper} {x y : Operand} (u : IdK) (hu : u.ok) (key : ByteArray) (ho : o.op = .build 109 #[(0, x), (1, y)]) (hx : a.eval x = u.v) (hy : a.eval y = .string key) : (execOp a.eval o).run Try.prog w = .ok (.value (KidV.v ⟨u, key⟩)) w :=
  exec_build ho (by simp [hx, hy]) (build_kid w u hu key)
theorem zeroId (w : World) : (zeroValue 37).run Try.prog w = .ok zId.v w := by kernel_rfl
theorem id_new (w : World) (n : IdK) (hn : n.ok) : ∃ w1, (Instr.alloc 37 true (.tuple #[])).run Try.prog w = .ok (.pointer (some ⟨w.heap.size, 0, none⟩)) w1 ∧ (Instr.storeAt 37 (.pointer (some ⟨w.heap.size, 0, none⟩)) n.v).run Try.prog w1 = .ok () (w.alloc (.cells n.c.toArray 37)) := by
  have e1 : (Instr.alloc 37 true (.tuple #[])).run Try.prog w = .ok (.pointer (some ⟨w.heap.size, 0, none⟩)) (w.alloc (.cells zId.c.toArray 37)) := by
    simp only [Instr.alloc, newVar, newRow, newObj, Sem.run_bind, zeroId, Result.andThen_ok, IdK.v, Value.cells]
    rfl
  have e2 := store_id (w := w.alloc (.cells zId.c.toArray 37)) (b := w.heap.size) zId_ok hn (heap_alloc_new _ _)
  rw [World.setRow_alloc_new] at e2
  exact ⟨_, e1, e2⟩
theorem OwnK.ge {w : World} {base : Nat} {v : Value} {L : List KidV} (h : OwnK w base v L) : ∀ j, v.ownBlock = some j → base ≤ j ∧ ∃ c, w.heap[j]? = some (.cells c 109 (0, 0)) := by
  intro j hj
  rcases h.2 with ⟨rfl, hn⟩ | ⟨g, cap, cur, rfl, hbg, hg, rest⟩
  · cases hj
  · obtain rfl : g = j := by simpa [Value.ownBlock] using hj
    exact ⟨hbg, _, hg⟩
theorem iter_r {κ : Type} {w : World} {b r : Nat} {enc : κ → Value} {E T : List (κ × Value)} (h : M.Iter w b r enc E T) : (∃ a s n c, w.heap[r]? = some (.mapIter a s n c)) ∧ ∃ es c, w.heap[b]? = some (.map es c) := by
  obtain ⟨es, c, since, seen, c0, hb, he, hs, hr, _⟩ := h
  exact ⟨⟨_, _, _, _, hr⟩, _, _, hb⟩
theorem own_ne {w : World} {base b r : Nat} {v : Value} {L : List KidV} {E T : List (IdK × Value)} (h : OwnK w base v L) (it : M.Iter w b r IdK.v E T) : v.ownBlock ≠ some r ∧ v.ownBlock ≠ some b := by
  obtain ⟨⟨_, _, _, _, hr⟩, _, _, hb⟩ := iter_r it
  refine ⟨fun e => ?_, fun e => ?_⟩
  · obtain ⟨_, c, hc⟩ := h.ge r e
    rw [hc] at hr
    cases hr
  · obtain ⟨_, c, hc⟩ := h.ge b e
    rw [hc] at hb
    cases hb
/-- What the sort of a row gives. -/
def SortK (Sd : List KidV → Prop) : Prop := ∀ (W : World) (base : Nat) (v : Value) (L : List KidV), OwnK W base v L → (∀ x ∈ L, x.id.ok) → L.length ≤ 4000000000000 → Calls Try.prog 82 #[v, .func (.func 83) #[] #[]] W fun e w' => e = .returned (.tuple #[]) ∧
  ∃ L', L'.Perm L ∧ Sd L' ∧ OwnK w' base v L' ∧ Tch (fun j => v.ownBlock = some j) W w'
set_option maxRecDepth 100000 in
set_option maxHeartbeats 2000000 in
theorem row_some (Sd : List KidV → Prop) (HS : SortK Sd) (s : Tr) (k : IdK) (b : Nat) (l : List IdK) (w : World) (h : TrAt w s) (hk : k.ok) (hq : M.look s.R k = some (b, l)) (hl : l.length ≤ 1300000000000) :
    Calls Try.prog 53 #[.pointer (some ⟨s.t, 0, none⟩), k.v] w fun e w' => ∃ v L, e = .returned v ∧ OwnK w' w.heap.size v L ∧ L.Perm (l.map fun x => ⟨x, (nd (lookN s.N) x).key⟩) ∧ Sd L ∧ Below w.heap.size w w' := by
  have lt : s.t < w.heap.size := h.lt _ (by simp [Tr.bl])
  have hm : M.MapAt w b IdK.v IdK.ok (entU l) := h.row (k, (b, l)) (M.look_mem hq)
  have lb := hm.lt
  have HT := hidMk (fun (W : World) (bb : Below w.heap.size w W) => h.below bb)
  unfold IdK.v
  go_enter Try.func53, Try.ntmps53
  go_wp2
  rename_i K1 aK
  obtain ⟨hx, bx, zx⟩ := box_id w k
  have ZX := hidMk zx
  clear zx
  generalize w.alloc (.cells k.c.toArray 37) = W at *
  have hT := HT.out _ bx
  have c1 : W.drew.cell? ⟨s.t, 1, none⟩ = some (.map (some s.br)) := hT.c1
  have hmW : M.MapAt W.drew b IdK.v IdK.ok (entU l) := hm.below (bx.block _ lb)
  have hx' : IdAt W.drew w.heap.size k := hx
  have hT' : TrAt W.drew s := hT.same (fun _ _ => rfl)
  have bx' : Below w.heap.size w W.drew := bx.drew
  refine wp_region_still_tail 7 (by kernel_rfl) (by kernel_rfl) ?_
  simp only [List.take_succ_cons, List.take_zero, List.drop_succ_cons, List.drop_zero]
  change wpStill _ _ W.drew (fun a' => wpList _ _ _ _ a' W.drew) _ _
  clear c1 hT hx bx
  have c1 := hT'.c1
  have ZX' : Hid (W.drew.heap.size = w.heap.size + 1) := ZX.out
  generalize W.drew = wd at *
  iterate 4 still_step
  refine still_val rfl (exec_load (t := 37) (u := .pointer (some ⟨w.heap.size, 0, none⟩)) rfl rfl (load_id hk hx')) ?_
  simp only [Act.put, List.setIfInBounds_toArray, List.set_cons_zero, List.set_cons_succ]
  have hlr := look_row hT' k hk
  rw [hq] at hlr
  refine still_val rfl (exec_lookup (t := 80) (mv := .map (some s.br)) (xv := k.v) (v := .map (some b)) rfl rfl rfl hlr) ?_
  simp only [Act.put, List.setIfInBounds_toArray, List.set_cons_zero, List.set_cons_succ]
  have hln := fun ty => M.run_mlen (P := Try.prog) (ty := ty) Try.underlying95 hmW
  rw [entU_len] at hln
  refine still_val rfl (exec_len (xv := .map (some b)) rfl rfl (hln _)) ?_
  simp only [Act.put, List.setIfInBounds_toArray, List.set_cons_zero, List.set_cons_succ]
  refine wpStill_nil ?_
  obtain ⟨ii, hi, hz, hsz, hby⟩ := info_parts infoK
  have hmk0 := run_make_own (P := Try.prog) wd w.heap.size 106 109 ii _ 34 Try.underlying106 hi hz hsz .i64 .i64 l.length (by rw [hby]; omega) (by unfold maxLen; omega) (by have := ZX'.out; omega)
  obtain ⟨w3, hmk, own3, g3⟩ := hmk0
  have b3 := bx'.trans ((grown_below g3).mono (by have := ZX'.out; omega))
  have z3 : w.heap.size + 1 < w3.heap.size := by
    rcases own3.2 with ⟨e, _⟩ | ⟨g, cap, cur, e, hbg, hg, _⟩
    · cases e
    · have := (Array.getElem?_eq_some_iff.1 hg).1
      have e2 : wd.heap.size = g := by cases e; rfl
      have := ZX'.out
      omega
  have own3' : OwnK w3 w.heap.size (.slice (some ⟨wd.heap.size, 0, none⟩) 0 l.length) [] := own3
  have hx3 : IdAt w3 w.heap.size k := ((grown_below g3).block _ (by have := ZX'.out; omega)).trans hx'
  refine wpList_run rfl (exec_makeSlice rfl rfl rfl hmk) ?_
  simp only [Act.put, List.setIfInBounds_toArray, List.set_cons_zero, List.set_cons_succ]
  have HV := hidMk own3'
  clear own3 own3' hmk g3 hln hlr hx' hT' bx' c1 hmW
  generalize Value.slice (some ⟨wd.heap.size, 0, none⟩) 0 l.length = v0 at *
  go_wp2
  have hT3 := HT.out _ b3
  have c1 : w3.drew.cell? ⟨s.t, 1, none⟩ = some (.map (some s.br)) := hT3.c1
  have hm3 : M.MapAt w3.drew b IdK.v IdK.ok (entU l) := hm.below (b3.block _ lb)
  have hx3' : IdAt w3.drew w.heap.size k := hx3
  have hT3' : TrAt w3.drew s := hT3.same (fun _ _ => rfl)
  have b3' : Below w.heap.size w w3.drew := b3.drew
  have HV' : Hid (OwnK w3.drew w.heap.size v0 []) := HV.out
  have z3' : w.heap.size + 1 < w3.drew.heap.size := z3
  refine wp_region_still_tail 6 (by kernel_rfl) (by kernel_rfl) ?_
  simp only [List.take_succ_cons, List.take_zero, List.drop_succ_cons, List.drop_zero]
  change wpStill _ _ w3.drew (fun a' => wpList _ _ _ _ a' w3.drew) _ _
  clear hT3 hx3 HV b3 z3
  generalize w3.drew = we at *
  iterate 4 still_step
  refine still_val rfl (exec_load (t := 37) (u := .pointer (some ⟨w.heap.size, 0, none⟩)) rfl rfl (load_id hk hx3')) ?_
  simp only [Act.put, List.setIfInBounds_toArray, List.set_cons_zero, List.set_cons_succ]
  have hlr := look_row hT3' k hk
  rw [hq] at hlr
  refine still_val rfl (exec_lookup (t := 80) (mv := .map (some s.br)) (xv := k.v) (v := .map (some b)) rfl rfl rfl hlr) ?_
  simp only [Act.put, List.setIfInBounds_toArray, List.set_cons_zero, List.set_cons_succ]
  refine wpStill_nil ?_
  obtain ⟨w4, hrg, it4, z4, b4⟩ := M.range_any (P := Try.prog) Try.underlying95 hm3
  refine wpList_run rfl (exec_range rfl rfl hrg) ?_
  simp only [Act.put, List.setIfInBounds_toArray, List.set_cons_zero, List.set_cons_succ]
  have own4 := HV'.out.below b4
  have b4' : Below w.heap.size w w4 := b3'.trans (b4.mono (by omega))
  have hT4 := HT.out _ b4'
  obtain ⟨r, hr⟩ : ∃ r, we.heap.size = r := ⟨_, rfl⟩
  have HR : Hid (w.heap.size + 1 < r ∧ r < w4.heap.size) := ⟨by omega, by omega⟩
  rw [hr] at it4 ⊢
  clear hlr hrg z4 hx3' hT3' hm3 c1 b3' z3' HV' b4 hr
  go_wp2
  go_loopw [5] (fun v wr => ∃ (L : List KidV) (T : List (IdK × Value)), OwnK wr w.heap.size v L ∧ (∀ x ∈ L, x.id.ok) ∧ (∀ p ∈ T, p.1.ok) ∧ M.Iter wr b r IdK.v (entU l) T ∧ (L ++ T.map fun p => KidV.mk p.1 (nd (lookN s.N) p.1).key).Perm (l.map fun x => KidV.mk x (nd (lookN s.N) x).key) ∧ Below w.heap.size w wr) (fun _ wr => wr.rangeLeft b r)
  case atStart =>
    refine ⟨[], entU l, own4, by simp, fun p hp => hm.2.2 p hp, it4, ?_, b4'⟩
    rw [List.nil_append]
    refine List.Perm.of_eq ?_
    unfold entU M.onV
    rw [List.map_map, List.map_map]
    rfl
  case round =>
    clear own4 it4 b4' hT4
    obtain ⟨L, T, own, okL, okT, it, hper, bel⟩ := hrel
    have hT5 := HT.out _ bel
    rcases M.next_any (P := Try.prog) (ty := 0) it with ⟨rfl, hnx⟩ | ⟨A, p, B, w5, hTe, hnx, it5, now5, t5, z5⟩
    · have hlen := hper.length_eq
      rw [List.length_append, List.length_map, List.length_map] at hlen
      have HSx := hidMk (HS wr w.heap.size _ L own okL (by omega))
      clear hlen
      have HN := hnx
      clear hnx
      go_wp2_with (first
        | (refine wpList_run rfl (exec_next rfl rfl HN) ?_)
        | (go_at_call 82; refine HSx.out.mono ?_; rintro e w6 ⟨rfl, L', pe, sd, own6, t6⟩)
        | fail)
      go_ret
      refine ⟨_, L', rfl, own6, pe.trans (by simpa using hper), sd, bel.trans (t6.below bel.size (fun j hj => (own.ge j hj).1))⟩
    · have hpo : p.1.ok := okT p (by rw [hTe]; simp)
      have hr1 := HR.out.1
      have lbr : b < wr.heap.size := by obtain ⟨_, _, _, hb⟩ := iter_r it; exact (Array.getElem?_eq_some_iff.1 hb).1
      have lrr : r < wr.heap.size := by obtain ⟨⟨_, _, _, _, hr⟩, _⟩ := iter_r it; exact (Array.getElem?_eq_some_iff.1 hr).1
      have bel5 : Below w.heap.size w w5 := bel.trans (t5.below bel.size (fun j e => by omega))
      have own5 := own.keep (w' := w5) (fun j hj => t5.block j (by obtain ⟨_, c, hc⟩ := own.ge j hj; exact (Array.getElem?_eq_some_iff.1 hc).1) (fun e => (own_ne own it).1 (e ▸ hj)))
      have hlen := hper.length_eq
      rw [List.length_append, List.length_map, List.length_map] at hlen
      have HLn := hidMk hlen
      obtain ⟨w6, e6, e7⟩ := id_new w5 p.1 hpo
      obtain ⟨w7, hw7⟩ : ∃ w7, w5.alloc (.cells p.1.c.toArray 37) = w7 := ⟨_, rfl⟩
      have b7 : Below w5.heap.size w5 w7 := by rw [← hw7]; exact (Below.refl _ _).alloc (Nat.le_refl _) _
      have z7 : w7.heap.size = w5.heap.size + 1 := by rw [← hw7]; simp
      have hx7 : IdAt w7 w5.heap.size p.1 := by rw [← hw7]; exact heap_alloc_new _ _
      rw [hw7] at e7
      have own7 := own5.below b7
      have it7 := it5.same (b7.block b (by omega)) (b7.block r (by omega))
      have bel7 : Below w.heap.size w w7 := bel5.trans (b7.mono bel5.size)
      have HTe := hidMk hTe
      have HIT := hidMk (iter_left it)
      have HZ7 := hidMk z7
      have HZ5 := hidMk z5
      have hBe := hidMk bel5.size
      clear hTe hlen z7 z5 hw7 b7 own5 own it it5 bel5 t5 bel hT5
      go_wp2_with (first
        | (refine wpList_run rfl (exec_next rfl rfl hnx) ?_)
        | (refine wpList_val rfl (exec_entry rfl rfl now5.run) ?_)
        | (refine wpList_run rfl (exec_alloc rfl e6) ?_)
        | (refine wpList_skip rfl rfl (exec_store rfl rfl rfl e7) ?_)
        | fail)
      simp only [Act.put, List.setIfInBounds_toArray, List.set_cons_zero, List.set_cons_succ]
      have hT7 : TrAt w7.drew s := (HT.out _ bel7).same (fun _ _ => rfl)
      have own8 : OwnK w7.drew w.heap.size u5 L := own7
      have it8 : M.Iter w7.drew b r IdK.v (entU l) (A ++ B) := it7.same rfl rfl
      have bel8 : Below w.heap.size w w7.drew := bel7.drew
      have hx8 : IdAt w7.drew w5.heap.size p.1 := hx7
      have b9 : Below w7.drew.heap.size w7.drew (w7.drew.alloc (.cells (KidV.c ⟨p.1, (nd (lookN s.N) p.1).key⟩).toArray 109)) := (Below.refl _ _).alloc (Nat.le_refl _) _
      have hkl := kids_lit w7.drew ⟨p.1, (nd (lookN s.N) p.1).key⟩ 109
      have ebs := run_bsK ⟨p.1, (nd (lookN s.N) p.1).key⟩ hpo w7.drew
      have own9 := own8.below b9
      have lb8 : b < w7.drew.heap.size := by obtain ⟨_, _, _, hb⟩ := iter_r it8; exact (Array.getElem?_eq_some_iff.1 hb).1
      have lr8 : r < w7.drew.heap.size := by obtain ⟨⟨_, _, _, _, hr⟩, _⟩ := iter_r it8; exact (Array.getElem?_eq_some_iff.1 hr).1
      have it9 := it8.same (b9.block b lb8) (b9.block r lr8)
      have bel9 := bel8.trans (b9.mono bel8.size)
      have hnn := own_ne own9 it9
      have lenL : L.length + 1 ≤ 4000000000000 := by have := HLn.out; omega
      obtain ⟨v', w10, eap, own10, g10, ob10⟩ := run_appK _ w.heap.size u5 L _ [⟨p.1, (nd (lookN s.N) p.1).key⟩] 1 own9 hkl (by simpa using hpo) lenL bel9.size
      have b10 : Below w.heap.size w w10 := bel9.trans ⟨g10.os, g10.tape, g10.output, g10.size, fun j hj => g10.block j (Nat.lt_of_lt_of_le hj bel9.size) (fun e => by have := (own9.ge j e.symm).1; omega)⟩
      have it10 := it9.same (w' := w10) (g10.block b (Nat.lt_of_lt_of_le lb8 b9.size) (fun e => hnn.2 e.symm)) (g10.block r (Nat.lt_of_lt_of_le lr8 b9.size) (fun e => hnn.1 e.symm))
      have nib : u5.ownBlock ≠ some w5.heap.size := fun e => by
        obtain ⟨_, c, hc⟩ := own8.ge _ e
        have := hx8.symm.trans hc
        simp at this
      have lib : w5.heap.size < w7.drew.heap.size := (Array.getElem?_eq_some_iff.1 hx8).1
      have nlow : ∀ j, j < w.heap.size → u5.ownBlock ≠ some j := fun j hj e => by have := (own8.ge j e).1; omega
      have lw := bel8.size
      have lbn := HT.out w (Below.refl _ _) |>.lt s.bn (by simp [Tr.bl])
      refine row5 s.t w5.heap.size u5 p.1.v (.map (some s.bn)) (nd (lookN s.N) p.1).v (.string (nd (lookN s.N) p.1).key) (KidV.v ⟨p.1, (nd (lookN s.N) p.1).key⟩) (.slice (some ⟨w7.drew.heap.size, 0, none⟩) 1 1) v' _ w10 (fun wx => ∀ j, j < w7.drew.heap.size → u5.ownBlock ≠ some j → wx.heap[j]? = w7.drew.heap[j]?) _ w7 _ rfl rfl rfl rfl (fun _ _ _ => rfl) ?_ ?_ ?_ ?_ ?_ ?_ ebs ?_ eap ?_ ?_
      · exact fun wx hw => load_id hpo ((hw _ lib nib).trans hx8)
      · exact fun wx hw => load_nodes ((World.cell?_of_block (w := w7.drew) (a := ⟨s.t, 0, none⟩) (hw s.t (by omega) (nlow _ lt))).trans hT7.c0)
      · exact fun wx hw => load_id hpo ((hw _ lib nib).trans hx8)
      · exact fun wx hw => look_node1 s.bn s.N wx _ hpo (hT7.nodes.below (hw s.bn (by omega) (nlow _ lbn)))
      · exact fun wx => field_key wx _ (nd_ok hT7 p.1)
      · exact fun wx => build_kid wx p.1 hpo _
      · exact fun j hj _ => b9.block j hj
      · exact fun j hj hn => (g10.block j (Nat.lt_of_lt_of_le hj b9.size) (fun e => hn e.symm)).trans (b9.block j hj)
      intro a' ha
      subst ha
      simp only [Act.put, List.setIfInBounds_toArray, List.set_cons_zero, List.set_cons_succ]
      clear own9 it9 bel9 hnn own8 it8 bel8 hT7 b9 hkl g10 ob10 hx8 ebs eap nib lib nlow lw lbn
      go_wp2
      go_roundw
      case rel =>
        refine ⟨L ++ [⟨p.1, (nd (lookN s.N) p.1).key⟩], A ++ B, own10, ?_, ?_, it10, ?_, b10⟩
        · intro x hx
          rcases List.mem_append.1 hx with hx | hx
          · exact okL x hx
          · simp at hx; subst hx; exact hpo
        · intro q hq'
          refine okT q ?_
          rw [HTe.out]
          rcases List.mem_append.1 hq' with hq' | hq'
          · exact List.mem_append_left _ hq'
          · exact List.mem_append_right _ (List.mem_cons_of_mem _ hq')
        · refine List.Perm.trans ?_ hper
          rw [HTe.out, List.append_assoc, List.map_append, List.map_append, List.map_cons, List.singleton_append]
          exact List.Perm.append_left _ List.perm_middle.symm
      case measure =>
        rw [iter_left it10, HIT.out, HTe.out]
        simp
end Go.Proofs.Ytoofljkgdjjllaa
