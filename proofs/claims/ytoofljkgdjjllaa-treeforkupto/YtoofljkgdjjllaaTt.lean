import Derived.Test.YtoofljkgdjjllaaTs
import Derived.LaidEqlPtr
namespace Go.Proofs.Ytoofljkgdjjllaa
open Go.RowKit
set_option linter.unusedVariables false
set_option linter.unusedSimpArgs false

section
variable {P : Program} (w : World)
theorem run_neq_ptr_same {tp te : TypeId} {j : TypeInfo} (a : Addr) (hp : P.underlying tp = some (.pointer te)) (hte : P.info? te = some j) :
    (binOp .neq tp (.pointer (some a)) (.pointer (some a))).run P w = .ok (.bool false) w := by
  have h : ∀ d : Nat, (Op.equalIn (d + 1) tp (.pointer (some a)) (.pointer (some a))).run P w = .ok true w := fun d => by
    simp [Op.equalIn, run_underlying hp, sizeOf, typeInfo, hte, run_sameAddr_same]
  simp only [binOp]
  simp [Op.equal, Op.maxDepth, h 9999]
theorem run_neq_ptr_other {tp te : TypeId} {j : TypeInfo} {a b : Addr} {ca cb : Array Value} {ta tb : TypeId} (hp : P.underlying tp = some (.pointer te)) (hte : P.info? te = some j) (hsz : j.size ≠ 0)
    (hne : a ≠ b) (ha : w.heap[a.block]? = some (.cells ca ta (0, 0))) (hb : w.heap[b.block]? = some (.cells cb tb (0, 0))) :
    (binOp .neq tp (.pointer (some a)) (.pointer (some b))).run P w = .ok (.bool true) w := by
  have h : ∀ d : Nat, (Op.equalIn (d + 1) tp (.pointer (some a)) (.pointer (some b))).run P w = .ok false w := fun d => by
    simp [Op.equalIn, run_underlying hp, sizeOf, typeInfo, hte, hsz, run_sameAddr_other w hne ha hb]
  simp only [binOp]
  simp [Op.equal, Op.maxDepth, h 9999]
theorem run_neq_ptr_none {tp te : TypeId} (a : Addr) (hp : P.underlying tp = some (.pointer te)) :
    (binOp .neq tp (.pointer (some a)) (.pointer none)).run P w = .ok (.bool true) w := by
  have h : ∀ d : Nat, (Op.equalIn (d + 1) tp (.pointer (some a)) (.pointer none)).run P w = .ok false w := fun d => by
    simp [Op.equalIn, run_underlying hp]
  simp only [binOp]
  simp [Op.equal, Op.maxDepth, h 9999]
end
theorem szBack : (Try.prog.info? 103).map (·.size) = some 2 := by kernel_rfl
theorem back_info : ∃ j, Try.prog.info? 103 = some j ∧ j.size ≠ 0 := by
  obtain ⟨j, h1, h2⟩ := Option.map_eq_some_iff.1 szBack
  exact ⟨j, h1, by rw [h2]; decide⟩
theorem neq_back (a : Addr) (w : World) : (binOp .neq 45 (.pointer (some a)) (.pointer (some a))).run Try.prog w = .ok (.bool false) w := by
  obtain ⟨j, hj, _⟩ := back_info
  exact run_neq_ptr_same w a Try.underlying45 hj
theorem guard_back (x y : Operand) (p q : Option Addr) (w : World) (op : BinOp) : (eqGuard op 45 x y (.pointer p) (.pointer q)).run Try.prog w = .ok () w := by
  unfold eqGuard
  cases op <;> simp
/-- What an Undo that is done gives. -/
def UndoP (s : Tr) (H : List Rec) (f : Fn) (w : World) (e : Ending) (w' : World) : Prop := e = .returned (.int .i64 0) ∧ ∃ s' : Tr, TreeAt w' s' H ∧ s'.t = s.t ∧ (∀ x, lookN s'.N x = f x) ∧ Tch (fun j => j ∈ s.bl) w w' ∧ ∀ j ∈ s'.bl, j ∈ s.bl ∨ w.heap.size ≤ j
theorem undo_end {s : Tr} {r : Rec} {H : List Rec} {f : Fn} {w w3 : World} (h : TreeAt w s (r :: H)) {N' : List (IdK × NodeV)} {R' : List (IdK × (Nat × List IdK))} (h3 : TrAt w3 { s with N := N', R := R' }) (r3 : RowsOk R' (shN N')) (l3 : ∀ x, lookN N' x = f x)
    (t3 : Tch (fun j => j ∈ s.bl) w w3) (f3 : RowsFrom R' s.R w.heap.size) : UndoP s H f w (.returned (.int .i64 0)) (w3.setCell ⟨s.t, 2, none⟩ (.pointer (ptr H))) := by
  have ts : s.t ∈ s.bl := by simp [Tr.bl]
  have hl := h.tr.lt
  have o4 : ∀ j, j ≠ s.t → (w3.setCell ⟨s.t, 2, none⟩ (.pointer (ptr H))).heap[j]? = w3.heap[j]? := fun j hj => Go.heap_setCell_other _ _ _ _ hj
  have h4 : TrAt (w3.setCell ⟨s.t, 2, none⟩ (.pointer (ptr H))) { s with N := N', R := R', last := ptr H } := h3.last_set (Go.heap_setCell_same _ _ 2 _ _ _ h3.cell) (fun j _ hn => o4 j hn)
  have hbl : ∀ j ∈ ({ s with N := N', R := R', last := ptr H } : Tr).bl, j ∈ s.bl ∨ w.heap.size ≤ j := by
    intro j hj
    simp only [Tr.bl, List.mem_cons] at hj ⊢
    rcases hj with e | e | e | e
    · exact Or.inl (Or.inl e)
    · exact Or.inl (Or.inr (Or.inl e))
    · exact Or.inl (Or.inr (Or.inr (Or.inl e)))
    · obtain ⟨x, hx, rfl⟩ := List.mem_map.1 e
      rcases f3 x hx with q | q
      · exact Or.inl (Or.inr (Or.inr (Or.inr q)))
      · exact Or.inr q
  have old : ∀ r' ∈ H, ∀ x ∈ r'.bl, x < w.heap.size := fun r' hr' => h.hist.lt r' (List.mem_cons_of_mem _ hr')
  have ap : ∀ r' ∈ H, ∀ x ∈ r'.bl, x ∉ s.bl := fun r' hr' => h.apart r' (List.mem_cons_of_mem _ hr')
  refine ⟨rfl, _, ⟨h4, r3, rfl, ?_, ?_, fun r' hr' => h.ok r' (List.mem_cons_of_mem _ hr')⟩, rfl, l3, ?_, hbl⟩
  · refine Hist.same h.hist.2 fun r' hr' x hx => ?_
    exact (o4 x (fun e => ap r' hr' x hx (e ▸ ts))).trans (t3.block x (old r' hr' x hx) (ap r' hr' x hx))
  · intro r' hr' x hx hm
    rcases hbl x hm with q | q
    · exact ap r' hr' x hx q
    · have := old r' hr' x hx
      omega
  · exact ⟨t3.os, t3.tape, t3.output, by simpa [World.setCell] using t3.size, fun j hj hn => (o4 j (fun e => hn (e ▸ ts))).trans (t3.block j hj hn)⟩
set_option maxRecDepth 100000 in
set_option maxHeartbeats 2000000 in
theorem undo_grow (s : Tr) (r : Rec) (H : List Rec) (w : World) (h : TreeAt w s (r :: H)) (ho : r.o = none) :
    Calls Try.prog 18 #[.pointer (some ⟨s.t, 0, none⟩), .pointer (some ⟨r.bk, 0, none⟩)] w (UndoP s H (upd (lookN s.N) r.k none) w) := by
  have hat := h.hist.1
  unfold Rec.at at hat
  rw [ho] at hat
  obtain ⟨hc, hi, -⟩ := hat
  have hk := (h.ok r (List.mem_cons_self ..)).1
  have hbk : r.bk ∉ s.bl := h.apart r (List.mem_cons_self ..) _ (by simp [Rec.bl])
  have hib : r.ib ∉ s.bl := h.apart r (List.mem_cons_self ..) _ (by simp [Rec.bl])
  have lb : r.bk < w.heap.size := (Array.getElem?_eq_some_iff.1 hc).1
  have c0 : w.cell? ⟨r.bk, 0, none⟩ = some (.pointer (ptr H)) := by rw [cell_of_row _ _ 0 _ _ _ hc]; rfl
  have c1 : w.cell? ⟨r.bk, 1, none⟩ = some (.func (.func 48) #[] #[.pointer (some ⟨r.ib, 0, none⟩)]) := by rw [cell_of_row _ _ 1 _ _ _ hc]; rfl
  have c2 : w.cell? ⟨s.t, 2, none⟩ = some (.pointer (some ⟨r.bk, 0, none⟩)) := by have := h.tr.c2; rw [h.last] at this; exact this
  have HC := hidMk (growb_any s r.k r.ib w hk h.tr h.rows hi hib)
  clear hc
  go_enter Try.func18, Try.ntmps18
  go_wp2_with (first
    | (refine wpList_val rfl (exec_binOp rfl rfl rfl (guard_back _ _ _ _ _ _) (neq_back _ _)) ?_)
    | (go_at_call 48; refine HC.out.mono ?_; rintro e w3 ⟨rfl, N', R', h3, r3, l3, t3, f3⟩; have c3 : w3.cell? ⟨r.bk, 0, none⟩ = some (.pointer (ptr H)) := (World.cell?_of_block (w := w) (a := ⟨r.bk, 0, none⟩) (t3.block _ lb hbk)).trans c0; have c4 := h3.c2; have f4 := h3.f2)
    | fail)
  go_ret
  exact undo_end h h3 r3 l3 t3 f3
set_option maxRecDepth 100000 in
set_option maxHeartbeats 2000000 in
theorem undo_put (s : Tr) (r : Rec) (H : List Rec) (w : World) (h : TreeAt w s (r :: H)) (n : NodeV) (ho : r.o = some n) :
    Calls Try.prog 18 #[.pointer (some ⟨s.t, 0, none⟩), .pointer (some ⟨r.bk, 0, none⟩)] w (UndoP s H (upd (lookN s.N) r.k (some n)) w) := by
  have hat := h.hist.1
  unfold Rec.at at hat
  rw [ho] at hat
  obtain ⟨hc, hi, hn⟩ := hat
  have hno := (h.ok r (List.mem_cons_self ..)).2 n ho
  have hk := (h.ok r (List.mem_cons_self ..)).1
  have hbk : r.bk ∉ s.bl := h.apart r (List.mem_cons_self ..) _ (by simp [Rec.bl])
  have hib : r.ib ∉ s.bl := h.apart r (List.mem_cons_self ..) _ (by simp [Rec.bl])
  have lb : r.bk < w.heap.size := (Array.getElem?_eq_some_iff.1 hc).1
  have c0 : w.cell? ⟨r.bk, 0, none⟩ = some (.pointer (ptr H)) := by rw [cell_of_row _ _ 0 _ _ _ hc]; rfl
  have c1 : w.cell? ⟨r.bk, 1, none⟩ = some (.func (.func 81) #[] #[.pointer (some ⟨r.ib, 0, none⟩), .pointer (some ⟨r.nb, 0, none⟩)]) := by rw [cell_of_row _ _ 1 _ _ _ hc]; rfl
  have c2 : w.cell? ⟨s.t, 2, none⟩ = some (.pointer (some ⟨r.bk, 0, none⟩)) := by have := h.tr.c2; rw [h.last] at this; exact this
  have HC := hidMk (putb_any s r.k n r.ib r.nb w hk hno h.tr h.rows hi hn)
  clear hc
  go_enter Try.func18, Try.ntmps18
  go_wp2_with (first
    | (refine wpList_val rfl (exec_binOp rfl rfl rfl (guard_back _ _ _ _ _ _) (neq_back _ _)) ?_)
    | (go_at_call 81; refine HC.out.mono ?_; rintro e w3 ⟨rfl, N', R', h3, r3, l3, t3, f3⟩; have c3 : w3.cell? ⟨r.bk, 0, none⟩ = some (.pointer (ptr H)) := (World.cell?_of_block (w := w) (a := ⟨r.bk, 0, none⟩) (t3.block _ lb hbk)).trans c0; have c4 := h3.c2; have f4 := h3.f2)
    | fail)
  go_ret
  exact undo_end h h3 r3 l3 t3 f3
end Go.Proofs.Ytoofljkgdjjllaa
