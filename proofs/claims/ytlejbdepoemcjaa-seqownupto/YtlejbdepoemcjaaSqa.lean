import Derived.Test.YtlejbdepoemcjaaXy
namespace Go.Proofs.Ytlejbdepoemcjaa
open Go.RowKit Sq
set_option linter.unusedVariables false
set_option linter.unusedSimpArgs false

/-- An element of a sequence. -/
structure Elt where
  id : IdK
  bh : IdK
  sh : Bool
def eltAt (L : List Sp) (i : Nat) : Elt := ⟨(gt L i).kp.id, (gt L i).kp.bh, (gt L i).sh⟩
def elts (L : List Sp) (t : T) : List Elt := t.ids.map (eltAt L)
def hasE (E : List Elt) (k : IdK) : Bool := E.any (fun e => decide (e.id = k))
theorem hasE_iff {E : List Elt} {k : IdK} : hasE E k = true ↔ ∃ e ∈ E, e.id = k := by simp [hasE]
/-- How many were put behind one. -/
def folE (E : List Elt) (k : IdK) : Nat := E.countP (fun e => decide (e.bh = k))
/-- What every sequence keeps to. -/
structure SeqOk (E : List Elt) : Prop where
  nd : (E.map (·.id)).Nodup
  ok : ∀ e ∈ E, e.id.ok ∧ e.bh.ok ∧ 1 ≤ e.id.n
  bh : ∀ e ∈ E, e.bh = zId ∨ hasE E e.bh = true
/-- An element put right behind another one. -/
def insE : List Elt → IdK → Elt → List Elt
  | [], _, x => [x]
  | e :: E, b, x => if e.id = b then e :: x :: E else e :: insE E b x
def putE (E : List Elt) (b : IdK) (x : Elt) : List Elt := if b = zId then x :: E else insE E b x
theorem insE_mid {A B : List Elt} {e x : Elt} (h : ∀ y ∈ A, y.id ≠ e.id) : insE (A ++ e :: B) e.id x = A ++ e :: x :: B := by
  induction A with
  | nil => simp [insE]
  | cons a A ih =>
    rw [List.cons_append, insE, if_neg (h a (by simp)), ih (fun y hy => h y (by simp [hy]))]
    rfl
theorem insE_none {E : List Elt} {b : IdK} {x : Elt} (h : ∀ y ∈ E, y.id ≠ b) : insE E b x = E ++ [x] := by
  induction E with
  | nil => rfl
  | cons a A ih => rw [insE, if_neg (h a (by simp)), ih (fun y hy => h y (by simp [hy]))]; rfl
theorem insE_perm (E : List Elt) (b : IdK) (x : Elt) : (insE E b x).Perm (x :: E) := by
  induction E with
  | nil => exact List.Perm.refl _
  | cons e E ih =>
    unfold insE
    split
    · exact List.Perm.swap _ _ _
    · exact (List.Perm.cons e ih).trans (List.Perm.swap _ _ _)
theorem putE_perm (E : List Elt) (b : IdK) (x : Elt) : (putE E b x).Perm (x :: E) := by
  unfold putE
  split
  · exact List.Perm.refl _
  · exact insE_perm E b x
def remE (E : List Elt) (k : IdK) : List Elt := E.filter (fun e => !decide (e.id = k))
def showE (E : List Elt) (k : IdK) (b : Bool) : List Elt := E.map (fun e => if e.id = k then { e with sh := b } else e)
theorem folE_perm {E F : List Elt} (h : E.Perm F) (k : IdK) : folE E k = folE F k := h.countP_eq _
theorem hasE_perm {E F : List Elt} (h : E.Perm F) (k : IdK) : hasE E k = hasE F k := by
  rw [Bool.eq_iff_iff, hasE_iff, hasE_iff]
  exact ⟨fun ⟨e, he, q⟩ => ⟨e, h.mem_iff.1 he, q⟩, fun ⟨e, he, q⟩ => ⟨e, h.mem_iff.2 he, q⟩⟩
theorem SeqOk.perm {E F : List Elt} (h : SeqOk E) (p : E.Perm F) : SeqOk F :=
  ⟨(p.map _).nodup_iff.1 h.nd, fun e he => h.ok e (p.mem_iff.2 he), fun e he => (h.bh e (p.mem_iff.2 he)).imp id (fun q => by rw [← hasE_perm p]; exact q)⟩
theorem SeqOk.cons {E : List Elt} (h : SeqOk E) {x : Elt} (hx : x.id.ok ∧ x.bh.ok ∧ 1 ≤ x.id.n) (hn : hasE E x.id = false) (hb : x.bh = zId ∨ hasE E x.bh = true) : SeqOk (x :: E) := by
  have hni : ∀ e ∈ E, e.id ≠ x.id := fun e he q => by
    have : hasE E x.id = true := hasE_iff.2 ⟨e, he, q⟩
    rw [hn] at this; cases this
  refine ⟨?_, ?_, ?_⟩
  · rw [List.map_cons, List.nodup_cons]
    exact ⟨fun q => by obtain ⟨e, he, q⟩ := List.mem_map.1 q; exact hni e he q, h.nd⟩
  · intro e he
    rcases List.mem_cons.1 he with rfl | he
    · exact hx
    · exact h.ok e he
  · intro e he
    have up : ∀ k, hasE E k = true → hasE (x :: E) k = true := fun k q => by
      obtain ⟨e, he, q⟩ := hasE_iff.1 q
      exact hasE_iff.2 ⟨e, by simp [he], q⟩
    rcases List.mem_cons.1 he with rfl | he
    · exact hb.imp id (up _)
    · exact (h.bh e he).imp id (up _)
theorem SeqOk.put {E : List Elt} (h : SeqOk E) {x : Elt} (hx : x.id.ok ∧ x.bh.ok ∧ 1 ≤ x.id.n) (hn : hasE E x.id = false) (hb : x.bh = zId ∨ hasE E x.bh = true) : SeqOk (putE E x.bh x) :=
  (h.cons hx hn hb).perm (putE_perm E x.bh x).symm
theorem SeqOk.rem {E : List Elt} (h : SeqOk E) {k : IdK} (hf : folE E k = 0) : SeqOk (remE E k) := by
  have hno : ∀ e ∈ E, e.bh ≠ k := fun e he q => by
    have : 0 < folE E k := List.countP_pos_iff.2 ⟨e, he, by simpa using q⟩
    omega
  refine ⟨?_, fun e he => h.ok e (List.mem_filter.1 he).1, fun e he => ?_⟩
  · exact h.nd.sublist ((List.filter_sublist (l := E)).map _)
  · have he' := (List.mem_filter.1 he).1
    refine (h.bh e he').imp id (fun q => ?_)
    obtain ⟨f, hf2, q⟩ := hasE_iff.1 q
    exact hasE_iff.2 ⟨f, List.mem_filter.2 ⟨hf2, by simp; rw [q]; exact hno e he'⟩, q⟩
theorem showE_ids (E : List Elt) (k : IdK) (b : Bool) : (showE E k b).map (·.id) = E.map (·.id) := by
  unfold showE
  rw [List.map_map]
  refine List.map_congr_left fun e _ => ?_
  simp only [Function.comp]
  split <;> rfl
theorem showE_has (E : List Elt) (k : IdK) (b : Bool) (x : IdK) : hasE (showE E k b) x = hasE E x := by
  rw [Bool.eq_iff_iff, hasE_iff, hasE_iff]
  unfold showE
  constructor
  · rintro ⟨e, he, q⟩
    obtain ⟨f, hf, rfl⟩ := List.mem_map.1 he
    refine ⟨f, hf, ?_⟩
    revert q
    split <;> exact id
  · rintro ⟨e, he, q⟩
    refine ⟨_, List.mem_map.2 ⟨e, he, rfl⟩, ?_⟩
    split <;> exact q
theorem SeqOk.show {E : List Elt} (h : SeqOk E) (k : IdK) (b : Bool) : SeqOk (showE E k b) := by
  refine ⟨by rw [showE_ids]; exact h.nd, fun e he => ?_, fun e he => ?_⟩
  · obtain ⟨f, hf, rfl⟩ := List.mem_map.1 he
    have := h.ok f hf
    split <;> exact this
  · obtain ⟨f, hf, rfl⟩ := List.mem_map.1 he
    rw [showE_has]
    have := h.bh f hf
    split <;> exact this
theorem folE_show (E : List Elt) (k : IdK) (b : Bool) (x : IdK) : folE (showE E k b) x = folE E x := by
  unfold folE showE
  rw [List.countP_map]
  refine List.countP_congr fun e _ => ?_
  simp only [Function.comp]
  split <;> exact Iff.rfl
end Go.Proofs.Ytlejbdepoemcjaa
