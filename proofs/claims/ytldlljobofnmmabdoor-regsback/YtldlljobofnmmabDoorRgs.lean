import Derived.Test.YtldlljobofnmmabDoorRgr
namespace Go.Proofs.YtldlljobofnmmabDoor
open Go.RowKit
set_option linter.unusedVariables false
set_option linter.unusedSimpArgs false

theorem bring_any {w : World} {base : Nat} {s : Rs} {r : Rec} {la : Option Addr} (m : RgM w base s) (ko : KeysOk s.K s.P) (hb : base ≤ w.heap.size) (ra : r.at w la) (did : r.did) (hf : liOf s.P r.p = r.aft) :
    Calls Tryd.prog r.F (#[.pointer (some ⟨s.r, 0, none⟩)] ++ #[.pointer (some ⟨r.pb, 0, none⟩), .pointer (some ⟨r.tb, 0, none⟩)]) w (BrE w base s r.p r.bef) ∧ ∀ vs (W : World), (callFunc r.F vs).run Tryd.prog W = .ok (.enter r.F vs) W := by
  obtain ⟨sn, hT, ⟨e, x, ea⟩ | ⟨e, ea⟩ | ⟨e, gv, ea⟩⟩ := did
  · rw [e]
    exact ⟨bring_put m ko hb ra hT (hf.trans ea), enters_of Tryd.func31 (by kernel_rfl) rfl⟩
  · rw [e]
    exact ⟨bring_del m ko hb ra hT (hf.trans ea), enters_of Tryd.func39 (by kernel_rfl) rfl⟩
  · rw [e]
    exact ⟨bring_add m ko hb ra hT (hf.trans ea), enters_of Tryd.func37 (by kernel_rfl) rfl⟩
section
variable {P : Program} (w : World)
theorem run_neq_ptr_same {tp te : TypeId} {j : TypeInfo} (a : Addr) (hp : P.underlying tp = some (.pointer te)) (hte : P.info? te = some j) :
    (binOp .neq tp (.pointer (some a)) (.pointer (some a))).run P w = .ok (.bool false) w := by
  have h : ∀ d : Nat, (Op.equalIn (d + 1) tp (.pointer (some a)) (.pointer (some a))).run P w = .ok true w := fun d => by
    simp [Op.equalIn, run_underlying hp, sizeOf, typeInfo, hte, run_sameAddr_same]
  simp only [binOp]
  simp [Op.equal, Op.maxDepth, h 9999]
theorem run_neq_ptr_other {tp te : TypeId} {j : TypeInfo} {a b : Addr} {ca cb : Array Value} {ta tb : TypeId} (hp : P.underlying tp = some (.pointer te)) (hte : P.info? te = some j) (hsz : j.size ≠ 0)
    (hne : a ≠ b) (ha : w.heap[a.block]? = some (.cells ca ta (0, 0))) (hb : w.heap[b.block]? = some (.cells cb tb (0, 0))) :
    (binOp .neq tp (.pointer (some a)) (.pointer (some b))).run P w = .ok (.bool true) w := by
  have h : ∀ d : Nat, (Op.equalIn (d + 1) tp (.pointer (some a)) (.pointer (some b))).run P w = .ok false w := fun d => by
    simp [Op.equalIn, run_underlying hp, sizeOf, typeInfo, hte, hsz, run_sameAddr_other w hne ha hb]
  simp only [binOp]
  simp [Op.equal, Op.maxDepth, h 9999]
theorem run_neq_ptr_none {tp te : TypeId} (a : Addr) (hp : P.underlying tp = some (.pointer te)) :
    (binOp .neq tp (.pointer (some a)) (.pointer none)).run P w = .ok (.bool true) w := by
  have h : ∀ d : Nat, (Op.equalIn (d + 1) tp (.pointer (some a)) (.pointer none)).run P w = .ok false w := fun d => by
    simp [Op.equalIn, run_underlying hp]
  simp only [binOp]
  simp [Op.equal, Op.maxDepth, h 9999]
end
theorem szBackG : (Tryd.prog.info? 81).map (·.size) = some 2 := by kernel_rfl
theorem back_infoG : ∃ j, Tryd.prog.info? 81 = some j ∧ j.size ≠ 0 := by
  obtain ⟨j, h1, h2⟩ := Option.map_eq_some_iff.1 szBackG
  exact ⟨j, h1, by rw [h2]; decide⟩
theorem neq_backG (a : Addr) (w : World) : (binOp .neq 27 (.pointer (some a)) (.pointer (some a))).run Tryd.prog w = .ok (.bool false) w := by
  obtain ⟨j, hj, _⟩ := back_infoG
  exact run_neq_ptr_same w a Tryd.underlying27 hj
theorem guard_backG (x y : Operand) (p q : Option Addr) (w : World) (op : BinOp) : (eqGuard op 27 x y (.pointer p) (.pointer q)).run Tryd.prog w = .ok () w := by
  unfold eqGuard
  cases op <;> simp
/-- A Back in memory. -/
def IsBk (w : World) (bk : Nat) : Prop := ∃ c, w.heap[bk]? = some (.cells c 81 (0, 0))
theorem Hist.isBk {w : World} : ∀ {H : List Rec}, Hist w H → ∀ a, ptrH H = some a → IsBk w a.block
  | [], _, a, e => by cases e
  | r :: H, h, a, e => by injection e with e; rw [← e]; exact ⟨_, h.1.b⟩
theorem neq_other {w : World} {H : List Rec} (hh : Hist w H) {bk : Nat} (hb : IsBk w bk) (hne : ptrH H ≠ some ⟨bk, 0, none⟩) : (binOp .neq 27 (.pointer (some ⟨bk, 0, none⟩)) (.pointer (ptrH H))).run Tryd.prog w = .ok (.bool true) w := by
  cases e : ptrH H with
  | none => exact run_neq_ptr_none w _ Tryd.underlying27
  | some a =>
    obtain ⟨c1, h1⟩ := hb
    obtain ⟨c2, h2⟩ := hh.isBk a e
    obtain ⟨j, hj, hz⟩ := back_infoG
    exact run_neq_ptr_other w Tryd.underlying27 hj hz (fun q => hne (by rw [e, ← q])) h1 h2
def UnE (w : World) (base : Nat) (s : Rs) (H : List Rec) (r : Rec) (e : Ending) (w' : World) : Prop := e = .returned (.int .i64 0) ∧ ∃ s', RgAt w' base s' H ∧ s'.r = s.r ∧ (∀ q, liOf s'.P q = if q = r.p then r.bef else liOf s.P q) ∧ (∀ j, s'.all j → s.all j ∨ w.heap.size ≤ j) ∧ Tch s.all w w'
theorem undo_endG {w w3 : World} {base : Nat} {s s1 : Rs} {r : Rec} {H : List Rec} (h : RgAt w base s (r :: H)) (nx : ONxt w base s r.p r.bef s1 w3) : ∃ w4, (Instr.storeAt 27 (.pointer (some ⟨s.r, 0 + 2, none⟩)) (.pointer (ptrH H))).run Tryd.prog w3 = .ok () w4 ∧ ∃ s', RgAt w4 base s' H ∧ s'.r = s.r ∧ (∀ q, liOf s'.P q = if q = r.p then r.bef else liOf s.P q) ∧ (∀ j, s'.all j → s.all j ∨ w.heap.size ≤ j) ∧ Tch s.all w w4 := by
  have hc3 := nx.mem.cell
  have c2 := nx.mem.c2
  have f2 := frozen_of_row w3 s1.r 2 _ _ hc3
  rw [nx.r] at c2 f2
  have ES : (Instr.storeAt 27 (.pointer (some ⟨s.r, 0 + 2, none⟩)) (.pointer (ptrH H))).run Tryd.prog w3 = .ok () (w3.setCell ⟨s.r, 2, none⟩ (.pointer (ptrH H))) := by go_simp
  have o2 : ∀ j, j ≠ s.r → (w3.setCell ⟨s.r, 2, none⟩ (.pointer (ptrH H))).heap[j]? = w3.heap[j]? := fun j hj => Go.heap_setCell_other _ _ _ _ hj
  have hc := Go.heap_setCell_same w3 s1.r 2 _ 69 (.pointer (ptrH H)) hc3
  rw [nx.r] at hc
  have z2 : (w3.setCell ⟨s.r, 2, none⟩ (.pointer (ptrH H))).heap.size = w3.heap.size := by simp [World.setCell]
  generalize hw4 : w3.setCell ⟨s.r, 2, none⟩ (.pointer (ptrH H)) = w4 at *
  have t2 : Tch (fun j => j = s.r) w3 w4 := ⟨by rw [← hw4]; rfl, by rw [← hw4]; rfl, by rw [← hw4]; rfl, by omega, fun j _ hj => o2 j hj⟩
  have m4 : RgM w4 base { s1 with last := ptrH H } := nx.mem.setLast (by rw [nx.r]; exact hc) (fun j _ hj => o2 j (by rw [← nx.r]; exact hj))
  have rall : s.all s.r := .inl (by simp [Rs.bl])
  have t4 : Tch s.all w w4 := nx.tch.trans' t2 (fun j _ e => by rw [e]; exact rall)
  refine ⟨w4, ES, { s1 with last := ptrH H }, ⟨m4, nx.key, rfl, ?_, ?_⟩, nx.r, nx.li, nx.al, t4⟩
  · exact Hist.keep t4 (fun j c ty fr h1 h2 h3 => h.mem.other h1 h2 h3) h.hist.2
  · exact h.hok.2.2.congr (fun q => nx.li q)
attribute [local go_sem] run_neq_ptr_none
set_option maxRecDepth 100000 in
set_option maxHeartbeats 4000000 in
/-- The last step is undone. -/
theorem undo_any {w : World} {base : Nat} {s : Rs} {r : Rec} {H : List Rec} (h : RgAt w base s (r :: H)) (hb : base ≤ w.heap.size) :
    Calls Tryd.prog 13 #[.pointer (some ⟨s.r, 0, none⟩), .pointer (some ⟨r.bk, 0, none⟩)] w (UnE w base s H r) := by
  have ra := h.hist.1
  obtain ⟨BR, EN⟩ := bring_any h.mem h.key hb ra h.hok.2.1 h.hok.1
  have HBR := hidMk BR
  have HEN := hidMk EN
  have c2 : w.cell? ⟨s.r, 2, none⟩ = some (.pointer (some ⟨r.bk, 0, none⟩)) := by have := h.mem.c2; rw [h.last] at this; exact this
  have c1 : w.cell? ⟨r.bk, 1, none⟩ = some (.func (.func r.F) #[] #[.pointer (some ⟨r.pb, 0, none⟩), .pointer (some ⟨r.tb, 0, none⟩)]) := by rw [cell_of_row _ _ 1 _ _ _ ra.b]; rfl
  have V1 : Hid ((Instr.loadAt 79 (.pointer (some ⟨r.bk, 0 + 1, none⟩))).run Tryd.prog w = .ok (.func (.func r.F) #[] #[.pointer (some ⟨r.pb, 0, none⟩), .pointer (some ⟨r.tb, 0, none⟩)]) w) := by
    have : (Instr.loadAt 79 (.pointer (some ⟨r.bk, 0 + 1, none⟩))).run Tryd.prog w = .ok (.func (.func r.F) #[] #[.pointer (some ⟨r.pb, 0, none⟩), .pointer (some ⟨r.tb, 0, none⟩)]) w := by go_simp
    exact this
  have B3 : Hid (∀ w3 s1, ONxt w base s r.p r.bef s1 w3 → (Instr.loadAt 27 (.pointer (some ⟨r.bk, 0 + 0, none⟩))).run Tryd.prog w3 = .ok (.pointer (ptrH H)) w3) := by
    intro w3 s1 nx
    have hk : w3.heap[r.bk]? = _ := (nx.tch.block _ (Array.getElem?_eq_some_iff.1 ra.b).1 (h.mem.other ra.b (by decide) (by decide))).trans ra.b
    have c0 : w3.cell? ⟨r.bk, 0, none⟩ = some (.pointer (ptrH H)) := by rw [cell_of_row _ _ 0 _ _ _ hk]; rfl
    go_simp
  have HH := hidMk h
  clear h ra c1 BR EN
  go_enter Tryd.func13, Tryd.ntmps13
  go_upto_region 5 with (first
    | (refine wpList_val rfl (exec_binOp rfl rfl rfl (guard_backG _ _ _ _ _ _) (neq_backG _ _)) ?_)
    | fail)
  refine und5 (rb := s.r) (bk := r.bk) (F := r.F) (caps := #[.pointer (some ⟨r.pb, 0, none⟩), .pointer (some ⟨r.tb, 0, none⟩)]) (fun w3 => ∃ s1, ONxt w base s r.p r.bef s1 w3) _ w _ rfl rfl rfl (fun W e => by rw [e]; exact V1.out) HEN.out HBR.out ?_
  intro a' w3 hf ha
  subst ha
  simp only [Act.put, List.setIfInBounds_toArray, List.set_cons_zero, List.set_cons_succ]
  clear V1 HEN HBR c2
  obtain ⟨s1, nx⟩ := hf
  obtain ⟨w4, es, fin⟩ := undo_endG HH.out nx
  have L3 := hidMk (B3.out w3 s1 nx)
  have HF := hidMk fin
  have HES := hidMk es
  clear B3 nx HH fin es
  go_upto_region 6 with fail
  refine und6 (rb := s.r) (bk := r.bk) (la := ptrH H) (w1 := w4) _ w3 _ rfl rfl rfl (fun W e => by rw [e]; exact L3.out) HES.out ?_
  intro a' w5 hw5 ha
  subst ha
  subst hw5
  simp only [Act.put, List.setIfInBounds_toArray, List.set_cons_zero, List.set_cons_succ]
  clear L3 HES
  go_wp2
  go_ret
  exact ⟨rfl, HF.out⟩
set_option maxRecDepth 100000 in
set_option maxHeartbeats 4000000 in
/-- Another Back. -/
theorem undo_not {w : World} {base : Nat} {s : Rs} {H : List Rec} (h : RgAt w base s H) {bk : Nat} (hb : IsBk w bk) (hne : ptrH H ≠ some ⟨bk, 0, none⟩) :
    Calls Tryd.prog 13 #[.pointer (some ⟨s.r, 0, none⟩), .pointer (some ⟨bk, 0, none⟩)] w fun e w' => e = .returned (.int .i64 2) ∧ w' = w := by
  have c2 : w.cell? ⟨s.r, 2, none⟩ = some (.pointer (ptrH H)) := by have := h.mem.c2; rw [h.last] at this; exact this
  have NE := hidMk (neq_other h.hist hb hne)
  clear h hb hne
  go_enter Tryd.func13, Tryd.ntmps13
  go_wp2_with (first
    | (refine wpList_val rfl (exec_binOp rfl rfl rfl (guard_backG _ _ _ _ _ _) NE.out) ?_)
    | fail)
  go_ret
  exact ⟨rfl, rfl⟩
set_option maxRecDepth 100000 in
set_option maxHeartbeats 4000000 in
theorem undo_nil (r : Nat) (w : World) : Calls Tryd.prog 13 #[.pointer (some ⟨r, 0, none⟩), .pointer none] w fun e w' => e = .returned (.int .i64 2) ∧ w' = w := by
  go_enter Tryd.func13, Tryd.ntmps13
  go_wp2
  go_ret
  exact ⟨rfl, rfl⟩
set_option maxRecDepth 100000 in
set_option maxHeartbeats 4000000 in
theorem undo_none (b : Value) (w : World) : Calls Tryd.prog 13 #[.pointer none, b] w fun e w' => e = .returned (.int .i64 1) ∧ w' = w := by
  go_enter Tryd.func13, Tryd.ntmps13
  go_wp2
  go_ret
  exact ⟨rfl, rfl⟩
end Go.Proofs.YtldlljobofnmmabDoor
