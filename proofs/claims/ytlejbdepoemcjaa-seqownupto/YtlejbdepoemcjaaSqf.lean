import Derived.Test.YtlejbdepoemcjaaSqe
namespace Go.Proofs.Ytlejbdepoemcjaa
open Go.RowKit Sq
set_option linter.unusedVariables false
set_option linter.unusedSimpArgs false

theorem IdAt.below {w w' : World} {b : Nat} {k : IdK} (h : IdAt w b k) (hb : Below w.heap.size w w') : IdAt w' b k := (hb.block b (Array.getElem?_eq_some_iff.1 h).1).trans h
theorem IdAt.lt {w : World} {b : Nat} {k : IdK} (h : IdAt w b k) : b < w.heap.size := (Array.getElem?_eq_some_iff.1 h).1
theorem id_new (w : World) (k : IdK) : IdAt (w.alloc (.cells k.c.toArray 32)) w.heap.size k := heap_alloc_new _ _
section
variable {w : World} {s : Sx} {E : List Elt}
set_option maxRecDepth 100000 in
theorem has_any (h : SeqAt w s E) {k : IdK} (hk : k.ok) : Calls Try.prog 31 #[.pointer (some ⟨s.sb, 0, none⟩), k.v] w fun e w' => e = .returned (.bool (hasE E k)) ∧ Below w.heap.size w w' := by
  have bx : Below w.heap.size w (w.alloc (.cells k.c.toArray 32)) := (Below.refl _ _).alloc (Nat.le_refl _) _
  have hx := id_new w k
  have hr := h.lk.spot_has k
  unfold IdK.v
  go_enter Try.func31, Try.ntmps31
  go_upto_region 1 with fail
  generalize w.alloc (.cells k.c.toArray 32) = wx at *
  refine has1 (r := hasE E k) _ _ _ rfl rfl rfl (h.below bx) hk hx rfl hr ?_
  intro a' w1 hw ha
  subst ha
  obtain rfl : w1 = wx.drew := hw
  simp only [Act.put, List.setIfInBounds_toArray, List.set_cons_zero, List.set_cons_succ]
  go_wp2
  go_ret
  exact ⟨rfl, bx.trans ((Below.refl _ _).drew)⟩
set_option maxRecDepth 100000 in
theorem element_any {i : Nat} (h : SqAt w s.sb 1 s.g s.cap s.L) (hi : i < s.L.length) : Calls Try.prog 34 #[.pointer (some ⟨s.sb, 0, none⟩), .int .i64 (i : Int)] w fun e w' => e = .returned (.pointer (some ⟨s.g, 73 * i + 0, none⟩)) ∧ w' = w := by
  go_enter Try.func34, Try.ntmps34
  go_upto_region 1 with fail
  refine elem1 _ _ _ rfl rfl rfl h hi ?_
  intro a' w1 hw ha
  subst ha
  obtain rfl : w1 = w := hw
  simp only [Act.put, List.setIfInBounds_toArray, List.set_cons_zero, List.set_cons_succ]
  go_wp2
  go_ret
  exact ⟨rfl, rfl⟩
/-- What counts. -/
def cE (c : Bool) (e : Elt) : Bool := !c || e.sh
def visE (E : List Elt) (c : Bool) : List Elt := E.filter (cE c)
theorem vis_map (L : List Sp) (c : Bool) (l : List Nat) : (l.filter (cq L c)).map (eltAt L) = (l.map (eltAt L)).filter (cE c) := by
  rw [List.filter_map]
  congr 1
theorem Lk.vis (h : Lk s E) (c : Bool) : (vis s.L c s.t).map (eltAt s.L) = visE E c := by
  unfold visE
  rw [h.e, elts, ← vis_map]
  rfl
theorem Lk.cnt (h : Lk s E) (c : Bool) : cnt s.L c s.t = (visE E c).length := by
  rw [← h.vis c, List.length_map]
  unfold Go.Proofs.Ytlejbdepoemcjaa.vis
  rw [cnt_cq, List.countP_eq_length_filter]
set_option maxRecDepth 100000 in
theorem smany_any (h : SeqAt w s E) (c : Bool) : Calls Try.prog 57 #[.pointer (some ⟨s.sb, 0, none⟩), .int .i64 (nb c : Int)] w fun e w' => e = .returned (.int .i64 ((visE E c).length : Int)) ∧ Below w.heap.size w w' := by
  have HM := hidMk (rmany_any h.row h.lk.good c)
  rw [h.lk.cnt c] at HM
  go_enter Try.func57, Try.ntmps57
  go_upto_region 3 with fail
  refine smany3 (fun w' => Qt w w') _ _ _ rfl rfl rfl HM.out ?_
  intro a' w1 hw ha
  subst ha
  simp only [Act.put, List.setIfInBounds_toArray, List.set_cons_zero, List.set_cons_succ]
  go_wp2
  go_ret
  exact ⟨rfl, hw.below _⟩
def aheadE (E : List Elt) (c : Bool) (k : IdK) : Int := if hasE E k = true then ((E.takeWhile (fun e => !decide (e.id = k))).countP (cE c) : Int) else -1
theorem takeWhile_mid {α : Type} {A B : List α} {x : α} {p : α → Bool} (h : ∀ y ∈ A, p y = true) (hx : p x = false) : (A ++ x :: B).takeWhile p = A := by
  induction A with
  | nil => simp [List.takeWhile_cons, hx]
  | cons a A ih => rw [List.cons_append, List.takeWhile_cons, h a (by simp)]; simp [ih (fun y hy => h y (by simp [hy]))]
theorem Lk.split (h : Lk s E) {k : IdK} (hk : hasE E k = true) : ∃ A B, s.t.ids = A ++ spotOf s k :: B ∧ E.takeWhile (fun e => !decide (e.id = k)) = A.map (eltAt s.L) := by
  obtain ⟨h1, h2⟩ := h.spot hk
  obtain ⟨A, B, e⟩ := List.append_of_mem h1
  refine ⟨A, B, e, ?_⟩
  rw [h.e, elts, e, List.map_append, List.map_cons]
  refine takeWhile_mid (fun y hy => ?_) ?_
  · obtain ⟨x, hx, rfl⟩ := List.mem_map.1 hy
    have hxm : x ∈ s.t.ids := by rw [e]; simp [hx]
    have : (eltAt s.L x).id ≠ k := fun q => by
      have := h.inj hxm h1 (q.trans h2.symm)
      subst this
      have nd := h.good.nodup
      rw [e, List.nodup_append] at nd
      exact nd.2.2 _ hx _ (by simp) rfl
    rw [decide_eq_false this]; rfl
  · rw [decide_eq_true (show (eltAt s.L (spotOf s k)).id = k from h2)]; rfl
set_option maxRecDepth 100000 in
theorem sahead_any (h : SeqAt w s E) {k : IdK} (hk : k.ok) (c : Bool) : Calls Try.prog 56 #[.pointer (some ⟨s.sb, 0, none⟩), k.v, .int .i64 (nb c : Int)] w fun e w' => e = .returned (.int .i64 (aheadE E c k)) ∧ Below w.heap.size w w' := by
  have bx : Below w.heap.size w (w.alloc (.cells k.c.toArray 32)) := (Below.refl _ _).alloc (Nat.le_refl _) _
  have hx := id_new w k
  have HA : Hid (∀ W, SeqAt W s E → Calls Try.prog 31 #[.pointer (some ⟨s.sb, 0, none⟩), k.v] W fun e w' => e = .returned (.bool (hasE E k)) ∧ Below W.heap.size W w') := fun W hW => has_any hW hk
  have HE : Hid (aheadE E c k = if hasE E k = true then ((E.takeWhile (fun e => !decide (e.id = k))).countP (cE c) : Int) else -1) := rfl
  show Calls Try.prog 56 #[.pointer (some ⟨s.sb, 0, none⟩), .agg k.c.toArray, .int .i64 (nb c : Int)] w _
  generalize aheadE E c k = res at *
  go_enter Try.func56, Try.ntmps56
  go_upto_region 1 with fail
  generalize w.alloc (.cells k.c.toArray 32) = wx at *
  have h1 := h.below bx
  refine ah1 (k := k) (r := hasE E k) _ _ _ rfl rfl rfl hk hx (HA.out _ h1) ?_
  intro a' w1 hw ha
  subst ha
  have h2 := h1.below hw
  have hx2 := hx.below hw
  have b2 := bx.trans (hw.mono bx.size)
  simp only [Act.put, List.setIfInBounds_toArray, List.set_cons_zero, List.set_cons_succ]
  cases hq : hasE E k with
  | false =>
    have hres := HE.out
    rw [hq] at hres
    simp only [Bool.false_eq_true, if_false] at hres
    subst hres
    clear HE hq HA
    go_wp2
    go_ret
    exact ⟨rfl, b2⟩
  | true =>
    obtain ⟨A, B, e1, e2⟩ := h.lk.split hq
    have hres : res = (A.countP (cq s.L c) : Int) := by
      rw [HE.out, if_pos hq, e2, List.countP_map]
      rfl
    have HR := hidMk (rahead_any c h2.row.drew h.lk.good e1)
    clear HE HA e2 hq
    go_upto_region 3 with fail
    refine ah3 (E := E) (k := k) (n := A.countP (cq s.L c)) _ _ _ rfl rfl rfl rfl h2 hk hx2 rfl (HR.out.mono ?_) ?_
    · rintro e w' ⟨rfl, q⟩
      exact ⟨rfl, h2.drew.qt q, (show w'.heap[_]? = _ by rw [q.heap]; exact hx2), (Qt.drew w1).trans q⟩
    intro a' w3 hw3 ha
    subst ha
    simp only [Act.put, List.setIfInBounds_toArray, List.set_cons_zero, List.set_cons_succ]
    subst hres
    clear HR e1
    go_wp2
    go_ret
    exact ⟨rfl, b2.trans (hw3.below _)⟩
set_option maxRecDepth 100000 in
theorem rank_any (h : SeqAt w s E) {k : IdK} (hk : k.ok) : Calls Try.prog 24 #[.pointer (some ⟨s.sb, 0, none⟩), k.v] w fun e w' => e = .returned (.int .i64 (aheadE E false k)) ∧ Below w.heap.size w w' := by
  have bx : Below w.heap.size w (w.alloc (.cells k.c.toArray 32)) := (Below.refl _ _).alloc (Nat.le_refl _) _
  have hx := id_new w k
  have HA : Hid (∀ W, SeqAt W s E → Calls Try.prog 56 #[.pointer (some ⟨s.sb, 0, none⟩), k.v, .int .i64 0] W fun e w' => e = .returned (.int .i64 (aheadE E false k)) ∧ Below W.heap.size W w') := fun W hW => sahead_any hW hk false
  show Calls Try.prog 24 #[.pointer (some ⟨s.sb, 0, none⟩), .agg k.c.toArray] w _
  go_enter Try.func24, Try.ntmps24
  go_upto_region 1 with fail
  generalize w.alloc (.cells k.c.toArray 32) = wx at *
  have h1 := h.below bx
  have HL := hidMk (load_id hk hx)
  clear hx
  go_wp2_with (first
    | (refine wload wx rfl rfl rfl HL.out rfl ?_)
    | (go_at_call 56; refine (HA.out _ h1).mono ?_; rintro e w' ⟨rfl, hb⟩)
    | fail)
  go_ret
  exact ⟨rfl, bx.trans (hb.mono bx.size)⟩
set_option maxRecDepth 100000 in
theorem index_any (h : SeqAt w s E) {k : IdK} (hk : k.ok) : Calls Try.prog 25 #[.pointer (some ⟨s.sb, 0, none⟩), k.v] w fun e w' => e = .returned (.int .i64 (aheadE E true k)) ∧ Below w.heap.size w w' := by
  have bx : Below w.heap.size w (w.alloc (.cells k.c.toArray 32)) := (Below.refl _ _).alloc (Nat.le_refl _) _
  have hx := id_new w k
  have HA : Hid (∀ W, SeqAt W s E → Calls Try.prog 56 #[.pointer (some ⟨s.sb, 0, none⟩), k.v, .int .i64 1] W fun e w' => e = .returned (.int .i64 (aheadE E true k)) ∧ Below W.heap.size W w') := fun W hW => sahead_any hW hk true
  show Calls Try.prog 25 #[.pointer (some ⟨s.sb, 0, none⟩), .agg k.c.toArray] w _
  go_enter Try.func25, Try.ntmps25
  go_upto_region 1 with fail
  generalize w.alloc (.cells k.c.toArray 32) = wx at *
  have h1 := h.below bx
  have HL := hidMk (load_id hk hx)
  clear hx
  go_wp2_with (first
    | (refine wload wx rfl rfl rfl HL.out rfl ?_)
    | (go_at_call 56; refine (HA.out _ h1).mono ?_; rintro e w' ⟨rfl, hb⟩)
    | fail)
  go_ret
  exact ⟨rfl, bx.trans (hb.mono bx.size)⟩
set_option maxRecDepth 100000 in
theorem len_any (h : SeqAt w s E) : Calls Try.prog 32 #[.pointer (some ⟨s.sb, 0, none⟩)] w fun e w' => e = .returned (.int .i64 ((visE E false).length : Int)) ∧ Below w.heap.size w w' := by
  have HA : Hid (Calls Try.prog 57 #[.pointer (some ⟨s.sb, 0, none⟩), .int .i64 0] w fun e w' => e = .returned (.int .i64 ((visE E false).length : Int)) ∧ Below w.heap.size w w') := smany_any h false
  go_enter Try.func32, Try.ntmps32
  go_wp2_with (first
    | (go_at_call 57; refine HA.out.mono ?_; rintro e w' ⟨rfl, hb⟩)
    | fail)
  go_ret
  exact ⟨rfl, hb⟩
set_option maxRecDepth 100000 in
theorem shown_any (h : SeqAt w s E) : Calls Try.prog 27 #[.pointer (some ⟨s.sb, 0, none⟩)] w fun e w' => e = .returned (.int .i64 ((visE E true).length : Int)) ∧ Below w.heap.size w w' := by
  have HA : Hid (Calls Try.prog 57 #[.pointer (some ⟨s.sb, 0, none⟩), .int .i64 1] w fun e w' => e = .returned (.int .i64 ((visE E true).length : Int)) ∧ Below w.heap.size w w') := smany_any h true
  go_enter Try.func27, Try.ntmps27
  go_wp2_with (first
    | (go_at_call 57; refine HA.out.mono ?_; rintro e w' ⟨rfl, hb⟩)
    | fail)
  go_ret
  exact ⟨rfl, hb⟩
end
end Go.Proofs.Ytlejbdepoemcjaa
