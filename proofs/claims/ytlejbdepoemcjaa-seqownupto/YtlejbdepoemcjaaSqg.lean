import Derived.Test.YtlejbdepoemcjaaSqf
import Derived.Laws.ResultCell
namespace Go.Proofs.Ytlejbdepoemcjaa
open Go.RowKit Sq
set_option linter.unusedVariables false
set_option linter.unusedSimpArgs false

theorem results_c2 {P : Program} {fn : Func} {a b : Nat} {t : TypeId} (h : fn.results = #[.cell a t, .tmp b]) {tmps : Array Value} {w : World} {p : Addr} {v : Value} (ha : tmps.getD a undef = .pointer (some p)) (hl : (loadVar t p).run P w = .ok v w) :
    (results fn tmps).run P w = .ok (.tuple #[v, tmps.getD b undef]) w := by
  rw [Array.getD_eq_getD_getElem?] at ha
  simp [results, h, asAddr, ha, hl, Array.mapM_eq_mapM_toList, Result.andThen]
theorem loadVar_id {w : World} {b : Nat} {k : IdK} (hk : k.ok) (h : IdAt w b k) : (loadVar 32 ⟨b, 0, none⟩).run Try.prog w = .ok k.v w :=
  run_loadVar_mid (P := Try.prog) w b 0 32 k.c _ (cells_range h) Try.underlying32 rfl (by rw [IdK.len hk]; exact szId)
theorem zeroId (w : World) : (zeroValue 32).run Try.prog w = .ok zId.v w := by kernel_rfl
theorem id_zero (w : World) : (Instr.alloc 32 true (.tuple #[])).run Try.prog w = .ok (.pointer (some ⟨w.heap.size, 0, none⟩)) (w.alloc (.cells zId.c.toArray 32)) := by
  simp only [Instr.alloc, newVar, newRow, newObj, Sem.run_bind, zeroId, Result.andThen_ok, IdK.v, Value.cells]
  rfl
theorem store_id {w : World} {b : Nat} {x u : IdK} (hx : x.ok) (hu : u.ok) (h : IdAt w b x) : (Instr.storeAt 32 (.pointer (some ⟨b, 0, none⟩)) u.v).run Try.prog w = .ok () (w.setRow b u.c.toArray) := by
  have e2 := run_storeVar_row (P := Try.prog) w b 32 32 x.c.toArray u.c.toArray h (by rw [List.size_toArray, IdK.len hu]; exact szId)
    (by rw [List.size_toArray, List.size_toArray, IdK.len hu, IdK.len hx]) (by rw [List.all_toArray, List.all_eq_true]; exact u.one)
  simp only [Instr.storeAt, Instr.sureAddr, Sem.run_bind, Sem.run_pure, Result.andThen_ok, IdK.v, e2]
theorem IdAt.set {w : World} {b : Nat} {x : IdK} (u : IdK) (h : IdAt w b x) : IdAt (w.setRow b u.c.toArray) b u := setRow_heap w b _ _ _ _ h
theorem two_boxes (w : World) (k u : IdK) : IdAt ((w.alloc (.cells k.c.toArray 32)).alloc (.cells u.c.toArray 32)) w.heap.size k ∧ IdAt ((w.alloc (.cells k.c.toArray 32)).alloc (.cells u.c.toArray 32)) (w.heap.size + 1) u ∧
    Below w.heap.size w ((w.alloc (.cells k.c.toArray 32)).alloc (.cells u.c.toArray 32)) ∧ ((w.alloc (.cells k.c.toArray 32)).alloc (.cells u.c.toArray 32)).heap.size = w.heap.size + 2 := by
  have z : (w.alloc (.cells k.c.toArray 32)).heap.size = w.heap.size + 1 := by simp
  refine ⟨?_, ?_, ((Below.refl _ _).alloc (Nat.le_refl _) _).alloc (by simp) _, by simp⟩
  · unfold IdAt
    rw [Below.heap_alloc _ _ _ (by rw [z]; omega)]
    exact heap_alloc_new _ _
  · unfold IdAt
    rw [← z]
    exact heap_alloc_new _ _
theorem set_below {w : World} {b n : Nat} (cs : Array Value) (hn : n ≤ w.heap.size) (hb : n ≤ b) : Below n w (w.setRow b cs) := (setRow_tch w b cs).below hn (fun j e => by simp at e; omega)
theorem find_mid {α : Type} {A B : List α} {x : α} {p : α → Bool} (h : ∀ y ∈ A, p y = false) (hx : p x = true) : (A ++ x :: B).find? p = some x := by
  induction A with
  | nil => simp [List.find?_cons, hx]
  | cons a A ih => rw [List.cons_append, List.find?_cons, h a (by simp)]; exact ih (fun y hy => h y (by simp [hy]))
def behE (E : List Elt) (k : IdK) : IdK := ((E.find? (fun e => decide (e.id = k))).map (·.bh)).getD zId
def nthE (E : List Elt) (c : Bool) (m : Int) : IdK × Bool := if 0 ≤ m ∧ m < ((visE E c).length : Int) then (((visE E c).map (·.id)).getD m.toNat zId, true) else (zId, false)
section
variable {w : World} {s : Sx} {E : List Elt}
theorem Lk.beh (h : Lk s E) {k : IdK} (hk : hasE E k = true) : behE E k = (gt s.L (spotOf s k)).kp.bh := by
  obtain ⟨h1, h2⟩ := h.spot hk
  obtain ⟨A, B, e⟩ := List.append_of_mem h1
  have : E.find? (fun e => decide (e.id = k)) = some (eltAt s.L (spotOf s k)) := by
    rw [h.e, elts, e, List.map_append, List.map_cons]
    refine find_mid (fun y hy => ?_) (decide_eq_true h2)
    obtain ⟨x, hx, rfl⟩ := List.mem_map.1 hy
    have hxm : x ∈ s.t.ids := by rw [e]; simp [hx]
    refine decide_eq_false (fun q => ?_)
    have := h.inj hxm h1 (q.trans h2.symm)
    subst this
    have nd := h.good.nodup
    rw [e, List.nodup_append] at nd
    exact nd.2.2 _ hx _ (by simp) rfl
  unfold behE
  rw [this]
  rfl
theorem behE_none {k : IdK} (hk : hasE E k = false) : behE E k = zId := by
  unfold behE
  have : E.find? (fun e => decide (e.id = k)) = none := by
    rw [List.find?_eq_none]
    intro e he q
    have : hasE E k = true := hasE_iff.2 ⟨e, he, by simpa using q⟩
    rw [hk] at this; cases this
  rw [this]
  rfl
theorem behE_ok (h : SeqOk E) (k : IdK) : (behE E k).ok := by
  unfold behE
  cases q : E.find? (fun e => decide (e.id = k)) with
  | none => exact zId_ok
  | some e => exact (h.ok e (List.mem_of_find?_eq_some q)).2.1
theorem lk_nth (h : Lk s E) (c : Bool) (m : Int) : (nth (vis s.L c s.t) m = 0 ∧ nthE E c m = (zId, false)) ∨ (nth (vis s.L c s.t) m ∈ s.t.ids ∧ nthE E c m = ((gt s.L (nth (vis s.L c s.t) m)).kp.id, true)) := by
  have hv := h.vis c
  obtain ⟨V, hV⟩ : ∃ V, Go.Proofs.Ytlejbdepoemcjaa.vis s.L c s.t = V := ⟨_, rfl⟩
  have hs : ∀ x ∈ V, x ∈ s.t.ids := fun x hx => by rw [← hV] at hx; exact (List.mem_filter.1 hx).1
  rw [hV] at hv ⊢
  have hl : (visE E c).length = V.length := by rw [← hv, List.length_map]
  unfold Go.Proofs.Ytlejbdepoemcjaa.nth nthE
  rw [hl]
  by_cases q : 0 ≤ m ∧ m < (V.length : Int)
  · rw [if_pos q, if_pos q]
    have hm : m.toNat < V.length := by omega
    have e1 : V.getD m.toNat 0 = V[m.toNat] := by rw [List.getD_eq_getElem?_getD, List.getElem?_eq_getElem hm]; rfl
    rw [e1]
    refine .inr ⟨hs _ (List.getElem_mem hm), ?_⟩
    rw [← hv, List.map_map, List.getD_eq_getElem?_getD, List.getElem?_map, List.getElem?_eq_getElem hm]
    rfl
  · rw [if_neg q, if_neg q]
    exact .inl ⟨rfl, rfl⟩
set_option maxRecDepth 100000 in
set_option maxHeartbeats 2000000 in
theorem behind_any (h : SeqAt w s E) {k : IdK} (hk : k.ok) : Calls Try.prog 47 #[.pointer (some ⟨s.sb, 0, none⟩), k.v] w fun e w' => e = .returned (.tuple #[(behE E k).v, .bool (hasE E k)]) ∧ Below w.heap.size w w' := by
  have HA : Hid (∀ W, SeqAt W s E → Calls Try.prog 31 #[.pointer (some ⟨s.sb, 0, none⟩), k.v] W fun e w' => e = .returned (.bool (hasE E k)) ∧ Below W.heap.size W w') := fun W hW => has_any hW hk
  have BK := behE_ok h.lk.ok k
  have B0 : Hid (hasE E k = false → behE E k = zId) := behE_none
  have B1 : Hid (hasE E k = true → behE E k = (gt s.L (spotOf s k)).kp.bh ∧ spotOf s k < s.L.length) := fun q => ⟨h.lk.beh q, (h.lk.good.lt (h.lk.spot q).1).2⟩
  obtain ⟨hx, hr, bx, zx⟩ := two_boxes w k zId
  show Calls Try.prog 47 #[.pointer (some ⟨s.sb, 0, none⟩), .agg k.c.toArray] w _
  generalize behE E k = bk at *
  go_enter Try.func47, Try.ntmps47
  go_upto_region 1 with (first
    | (refine wpList_run rfl (exec_alloc (t := 32) rfl (id_zero _)) ?_)
    | fail)
  generalize (w.alloc (.cells k.c.toArray 32)).alloc (.cells zId.c.toArray 32) = wx at *
  have ZX := hidMk zx
  clear zx
  have h1 := h.below bx
  have hsb : ∀ j ∈ s.bl, j < w.heap.size := h.lt
  have HSB := hidMk hsb
  refine be1 (k := k) (r := hasE E k) _ _ _ rfl rfl rfl hk hx (HA.out _ h1) ?_
  intro a' w1 hw ha
  subst ha
  have h2 := h1.below hw
  have hx2 := hx.below hw
  have hr2 := hr.below hw
  have b2 := bx.trans (hw.mono bx.size)
  have zz := hw.size
  clear HA hsb
  simp only [Act.put, List.setIfInBounds_toArray, List.set_cons_zero, List.set_cons_succ]
  cases hq : hasE E k with
  | false =>
    obtain rfl := B0.out hq
    have HQ := hidMk hq
    clear B0 B1 hq
    go_upto_region 2 with fail
    refine be2 _ _ _ rfl rfl (store_id zId_ok zId_ok hr2) ?_
    intro a' w3 hw3 ha
    subst ha
    obtain rfl : w3 = _ := hw3
    simp only [Act.put, List.setIfInBounds_toArray, List.set_cons_zero, List.set_cons_succ]
    have hr3 := hr2.set zId
    have b3 : Below w.heap.size w (w1.setRow (w.heap.size + 1) zId.c.toArray) := b2.trans (set_below _ b2.size (by omega))
    generalize w1.setRow (w.heap.size + 1) zId.c.toArray = w3 at *
    go_wp2
    refine bodyPost_ret (results_c2 rfl rfl (loadVar_id zId_ok hr3)) rfl ?_
    exact ⟨by rw [HQ.out]; rfl, b3⟩
  | true =>
    obtain ⟨rfl, hil⟩ := B1.out hq
    have HQ := hidMk hq
    clear B0 B1 hq
    go_upto_region 3 with fail
    have z2 := ZX.out
    have hr2d : IdAt w1.drew (w.heap.size + 1) zId := hr2
    have st := store_id zId_ok BK hr2d
    have b3 : Below w.heap.size w (w1.drew.setRow (w.heap.size + 1) (gt s.L (spotOf s k)).kp.bh.c.toArray) := (b2.drew).trans (set_below _ (by show _ ≤ w1.heap.size; omega) (by omega))
    have hr3 := hr2d.set (gt s.L (spotOf s k)).kp.bh
    have hx3 : IdAt (w1.drew.setRow (w.heap.size + 1) (gt s.L (spotOf s k)).kp.bh.c.toArray) w.heap.size k := ((setRow_tch w1.drew (w.heap.size + 1) _).block w.heap.size (by show _ < w1.heap.size; omega) (by simp)).trans hx2
    have h3 : SeqAt (w1.drew.setRow (w.heap.size + 1) (gt s.L (spotOf s k)).kp.bh.c.toArray) s E := h.below b3
    refine be3 (E := E) (k := k) _ _ _ rfl rfl rfl rfl h2 ⟨h3, hx3⟩ hk hx2 rfl hil (element_any h2.row.drew hil) st ?_
    intro a' w3 hw3 ha
    subst ha
    obtain rfl : w3 = _ := hw3
    simp only [Act.put, List.setIfInBounds_toArray, List.set_cons_zero, List.set_cons_succ]
    generalize w1.drew.setRow (w.heap.size + 1) (gt s.L (spotOf s k)).kp.bh.c.toArray = w3 at *
    go_wp2
    refine bodyPost_ret (results_c2 rfl rfl (loadVar_id BK hr3)) rfl ?_
    exact ⟨by rw [HQ.out]; rfl, b3⟩
set_option maxRecDepth 100000 in
set_option maxHeartbeats 2000000 in
theorem sfind_any (h : SeqAt w s E) (c : Bool) (m : Int) (hm : -9223372036854775808 ≤ m ∧ m ≤ 9223372036854775807) : Calls Try.prog 55 #[.pointer (some ⟨s.sb, 0, none⟩), .int .i64 m, .int .i64 (nb c : Int)] w fun e w' => e = .returned (.tuple #[(nthE E c m).1.v, .bool (nthE E c m).2]) ∧ Below w.heap.size w w' := by
  have hr := id_new w zId
  have bx : Below w.heap.size w (w.alloc (.cells zId.c.toArray 32)) := (Below.refl _ _).alloc (Nat.le_refl _) _
  have zx : (w.alloc (.cells zId.c.toArray 32)).heap.size = w.heap.size + 1 := by simp
  have HRF : Hid (∀ W, SeqAt W s E → Calls Try.prog 87 #[.pointer (some ⟨s.sb, 1, none⟩), .int .i64 m, .int .i64 (nb c : Int)] W fun e w' => e = .returned (.int .i64 (nth (vis s.L c s.t) m : Int)) ∧ Qt W w') := fun W hW => rfind_any c m hm hW.row hW.lk.good
  have HN := hidMk (lk_nth h.lk c m)
  have HL := hidMk (fun i (hi : i ∈ s.t.ids) => (h.lk.good.lt hi))
  generalize nth (vis s.L c s.t) m = i at *
  generalize nthE E c m = res at *
  go_enter Try.func55, Try.ntmps55
  go_upto_region 3 with (first
    | (refine wpList_run rfl (exec_alloc (t := 32) rfl (id_zero _)) ?_)
    | fail)
  generalize w.alloc (.cells zId.c.toArray 32) = wx at *
  have ZX := hidMk zx
  clear zx
  have h1 := h.below bx
  refine fi3 (fun w' => Qt wx w') _ _ _ rfl rfl rfl rfl (HRF.out _ h1) ?_
  intro a' w1 hw ha
  subst ha
  have h2 := h1.qt hw
  have hr2 : IdAt w1 w.heap.size zId := by unfold IdAt; rw [hw.heap]; exact hr
  have b2 := bx.trans (hw.below _)
  clear HRF
  simp only [Act.put, List.setIfInBounds_toArray, List.set_cons_zero, List.set_cons_succ]
  go_upto_region 4 with fail
  rcases HN.out with ⟨hi0, rfl⟩ | ⟨him, rfl⟩
  · subst hi0
    refine fi4 (i := 0) (r := true) _ _ _ rfl rfl rfl ?_
    intro a' w3 hw3 ha
    subst ha
    obtain rfl : w3 = w1 := hw3
    simp only [Act.put, List.setIfInBounds_toArray, List.set_cons_zero, List.set_cons_succ]
    go_upto_region 5 with fail
    refine fi5 _ _ _ rfl rfl (store_id zId_ok zId_ok hr2) ?_
    intro a' w4 hw4 ha
    subst ha
    obtain rfl : w4 = _ := hw4
    simp only [Act.put, List.setIfInBounds_toArray, List.set_cons_zero, List.set_cons_succ]
    have hr3 := hr2.set zId
    have b3 : Below w.heap.size w (w3.setRow w.heap.size zId.c.toArray) := b2.trans (set_below _ b2.size (Nat.le_refl _))
    generalize w3.setRow w.heap.size zId.c.toArray = w4 at *
    go_wp2
    refine bodyPost_ret (results_c2 rfl rfl (loadVar_id zId_ok hr3)) rfl ?_
    exact ⟨rfl, b3⟩
  · obtain ⟨hi0, hil⟩ := HL.out i him
    refine fi4 (i := i) (r := false) _ _ _ rfl rfl (by simpa using hi0) ?_
    intro a' w3 hw3 ha
    subst ha
    obtain rfl : w3 = w1 := hw3
    simp only [Act.put, List.setIfInBounds_toArray, List.set_cons_zero, List.set_cons_succ]
    go_upto_region 6 with fail
    have ok := (h2.row.ok.gt hil).id
    refine fi6 (E := E) _ _ _ rfl rfl rfl rfl h2 hil (element_any h2.row hil) (store_id zId_ok ok hr2) ?_
    intro a' w4 hw4 ha
    subst ha
    obtain rfl : w4 = _ := hw4
    simp only [Act.put, List.setIfInBounds_toArray, List.set_cons_zero, List.set_cons_succ]
    have hr3 := hr2.set (gt s.L i).kp.id
    have b3 : Below w.heap.size w (w3.setRow w.heap.size (gt s.L i).kp.id.c.toArray) := b2.trans (set_below _ b2.size (Nat.le_refl _))
    generalize w3.setRow w.heap.size (gt s.L i).kp.id.c.toArray = w4 at *
    go_wp2
    refine bodyPost_ret (results_c2 rfl rfl (loadVar_id ok hr3)) rfl ?_
    exact ⟨rfl, b3⟩
end
end Go.Proofs.Ytlejbdepoemcjaa
