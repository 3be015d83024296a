import Derived.WalkKit
import Derived.WalkSpells
import Derived.Maps.OwnSet
import Derived.Maps.OwnOps
import Derived.Below
namespace Go.Proofs.YtifendlpeebofaaGreatDoor.M
open Go.RowKit
set_option linter.unusedVariables false
set_option linter.unusedSimpArgs false

theorem map_erase {α β : Type} (f : α → β) : ∀ (l : List α) (i : Nat), (l.eraseIdx i).map f = (l.map f).eraseIdx i
  | [], i => by simp
  | a :: l, 0 => by simp
  | a :: l, i + 1 => by simp [map_erase f l i]
section
variable {P : Program} {κ : Type}
/-- The entries' stamps: all elder than the clock, none twice. -/
def Stamps (l : List Nat) (c : Nat) : Prop := (∀ n ∈ l, n < c) ∧ l.Nodup
/-- A block is a map of these entries. -/
def MapAt (w : World) (b : Nat) (enc : κ → Value) (V : κ → Prop) (E : List (κ × Value)) : Prop :=
  (∃ es clock, w.heap[b]? = some (.map es clock) ∧ es.toList.map (fun e => (e.key, e.val)) = E.map (fun p => (enc p.1, p.2)) ∧ Stamps (es.toList.map (·.born)) clock) ∧ (E.map (·.1)).Nodup ∧ ∀ p ∈ E, V p.1
theorem MapAt.below {w w' : World} {b : Nat} {enc : κ → Value} {V : κ → Prop} {E : List (κ × Value)} (h : MapAt w b enc V E) (hb : w'.heap[b]? = w.heap[b]?) : MapAt w' b enc V E := by
  obtain ⟨⟨es, c, h1, h2, h4⟩, h3⟩ := h
  exact ⟨⟨es, c, hb.trans h1, h2, h4⟩, h3⟩
theorem MapAt.lt {w : World} {b : Nat} {enc : κ → Value} {V : κ → Prop} {E : List (κ × Value)} (h : MapAt w b enc V E) : b < w.heap.size := by
  obtain ⟨⟨es, c, h1, _⟩, _⟩ := h
  exact (Array.getElem?_eq_some_iff.1 h1).1
theorem MapAt.new (w : World) (enc : κ → Value) (V : κ → Prop) : MapAt (w.alloc (.map #[] 0)) w.heap.size enc V [] :=
  ⟨⟨#[], 0, heap_alloc_new _ _, rfl, by simp [Stamps]⟩, by simp, by simp⟩
/-- A world with another object at a block. -/
def setM (w : World) (b : Nat) (o : Obj) : World := { w with heap := w.heap.setIfInBounds b o }
theorem setM_same {w : World} {b : Nat} (o : Obj) (h : b < w.heap.size) : (setM w b o).heap[b]? = some o := by simp [setM, h]
theorem setM_other {w : World} {b k : Nat} (o : Obj) (h : k ≠ b) : (setM w b o).heap[k]? = w.heap[k]? := by simp [setM, Array.getElem?_setIfInBounds, Ne.symm h]
theorem setM_size (w : World) (b : Nat) (o : Obj) : (setM w b o).heap.size = w.heap.size := by simp [setM]
theorem setM_below {base : Nat} {w0 w : World} {b : Nat} (o : Obj) (h : Below base w0 w) (hb : base ≤ b) : Below base w0 (setM w b o) :=
  ⟨h.os, h.tape, h.output, by rw [setM_size]; exact h.size, fun k hk => (setM_other o (by omega)).trans (h.block k hk)⟩
theorem run_mlen {kt et mt ty : TypeId} {enc : κ → Value} {V : κ → Prop} (hm : P.underlying mt = some (.map kt et)) {w : World} {b : Nat} {E : List (κ × Value)} (h : MapAt w b enc V E) : (Builtin.len_ #[mt] ty #[.map (some b)]).run P w = .ok (.int .i64 (E.length : Int)) w := by
  obtain ⟨⟨es, c, hb, he, hst0⟩, _⟩ := h
  have hes : es.size = E.length := by have := congrArg List.length he; simpa using this
  simp [Builtin.len_, run_underlying hm, MapKept.run_getObj_map hb, goInt, Result.andThen, hes]
end
section
variable {P : Program} {κ : Type} [DecidableEq κ]
/-- What a map asks of its keys. -/
structure KeyOk (P : Program) (kt : TypeId) (enc : κ → Value) (V : κ → Prop) : Prop where
  chk : ∀ b k w, V k → (Instr.checkKey b 10000 kt (enc k)).run P w = .ok () w
  eq : ∀ a b w, V a → V b → (Op.equal kt (enc a) (enc b)).run P w = .ok (decide (a = b)) w
  und : ∃ u, P.underlying kt = some u ∧ ((∀ a b, Instr.sameNow u (enc a) (enc b) = none) ∨ ∀ a b, Instr.sameNow u (enc a) (enc b) = some (decide (a = b)))
  bits : ∀ k, Instr.sameBits 10000 (enc k) (enc k) = true
variable {β : Type}
/-- Where a key stands, and what lies there. -/
def fnd : List (κ × β) → κ → Nat → Option (Nat × β)
  | [], _, _ => none
  | p :: E, k, i => if k = p.1 then some (i, p.2) else fnd E k (i + 1)
def look (E : List (κ × β)) (k : κ) : Option β := (fnd E k 0).map (·.2)
def has (E : List (κ × β)) (k : κ) : Bool := (fnd E k 0).isSome
def put (E : List (κ × β)) (k : κ) (v : β) : List (κ × β) := match fnd E k 0 with | some (i, _) => E.set i (k, v) | none => E ++ [(k, v)]
def del (E : List (κ × β)) (k : κ) : List (κ × β) := match fnd E k 0 with | some (i, _) => E.eraseIdx i | none => E
theorem fnd_shift (E : List (κ × β)) (k : κ) (i : Nat) : fnd E k i = (fnd E k 0).map fun p => (p.1 + i, p.2) := by
  induction E generalizing i with
  | nil => rfl
  | cons p E ih =>
    unfold fnd
    split
    · simp
    · rw [ih (i + 1), ih (0 + 1)]
      cases fnd E k 0 with
      | none => rfl
      | some q => simp; omega
theorem look_nil (k : κ) : look ([] : List (κ × β)) k = none := rfl
theorem look_cons (p : κ × β) (E : List (κ × β)) (k : κ) : look (p :: E) k = if k = p.1 then some p.2 else look E k := by
  unfold look
  rw [fnd]
  split
  · rfl
  · rw [fnd_shift]
    cases fnd E k 0 <;> rfl
theorem has_look (E : List (κ × β)) (k : κ) : has E k = (look E k).isSome := by unfold has look; cases fnd E k 0 <;> rfl
theorem fnd_some {E : List (κ × β)} {k : κ} {i : Nat} {v : β} (h : fnd E k 0 = some (i, v)) : E[i]? = some (k, v) ∧ i < E.length := by
  induction E generalizing i with
  | nil => cases h
  | cons p E ih =>
    unfold fnd at h
    split at h
    · next e => cases h; subst e; simp
    · rw [fnd_shift] at h
      cases hf : fnd E k 0 with
      | none => rw [hf] at h; cases h
      | some q =>
        rw [hf] at h
        obtain ⟨j, u⟩ := q
        simp at h
        obtain ⟨rfl, rfl⟩ := h
        have := ih hf
        simpa using this
theorem fnd_none {E : List (κ × β)} {k : κ} (h : fnd E k 0 = none) : ∀ p ∈ E, p.1 ≠ k := by
  induction E with
  | nil => intro p hp; cases hp
  | cons q E ih =>
    unfold fnd at h
    split at h
    · cases h
    · next e =>
      rw [fnd_shift] at h
      cases hf : fnd E k 0 with
      | some r => rw [hf] at h; cases h
      | none =>
        intro p hp
        rcases List.mem_cons.1 hp with rfl | hp
        · exact fun e2 => e e2.symm
        · exact ih hf p hp
theorem look_app (E F : List (κ × β)) (k : κ) : look (E ++ F) k = (look E k).or (look F k) := by
  induction E with
  | nil => rw [List.nil_append, look_nil]; rfl
  | cons p E ih =>
    rw [List.cons_append, look_cons, look_cons]
    split
    · rfl
    · exact ih
theorem look_mem {E : List (κ × β)} {k : κ} {v : β} (h : look E k = some v) : (k, v) ∈ E := by
  unfold look at h
  cases hf : fnd E k 0 with
  | none => rw [hf] at h; cases h
  | some q =>
    rw [hf] at h
    obtain ⟨i, u⟩ := q
    cases h
    exact List.mem_of_getElem? (fnd_some hf).1
theorem look_of_mem {E : List (κ × β)} (hn : (E.map (·.1)).Nodup) {k : κ} {v : β} (h : (k, v) ∈ E) : look E k = some v := by
  induction E with
  | nil => cases h
  | cons p E ih =>
    rw [List.map_cons, List.nodup_cons] at hn
    rw [look_cons]
    rcases List.mem_cons.1 h with rfl | h
    · rw [if_pos rfl]
    · rw [if_neg]
      · exact ih hn.2 h
      · intro e
        exact hn.1 (by rw [← e]; exact List.mem_map.2 ⟨_, h, rfl⟩)
theorem put_keys (E : List (κ × β)) (k : κ) (v : β) (hn : (E.map (·.1)).Nodup) : ((put E k v).map (·.1)).Nodup := by
  unfold put
  cases hf : fnd E k 0 with
  | none =>
    simp only []
    rw [List.map_append, List.nodup_append]
    refine ⟨hn, by simp, fun a ha b hb e => ?_⟩
    obtain ⟨p, hp, rfl⟩ := List.mem_map.1 ha
    simp at hb
    subst hb
    exact fnd_none hf p hp e
  | some q =>
    obtain ⟨i, u⟩ := q
    simp only []
    have h := fnd_some hf
    have e : (E.set i (k, v)).map (·.1) = E.map (·.1) := by
      apply List.ext_getElem?
      intro j
      rw [List.getElem?_map, List.getElem?_map, List.getElem?_set]
      split
      · next e2 =>
        subst e2
        rw [h.1]
        simp [h.2]
      · rfl
    rw [e]
    exact hn
theorem look_set {E : List (κ × β)} {i : Nat} {k : κ} {v : β} {u : β} (h : fnd E k 0 = some (i, u)) (hn : (E.map (·.1)).Nodup) (k' : κ) : look (E.set i (k, v)) k' = if k' = k then some v else look E k' := by
  induction E generalizing i with
  | nil => cases h
  | cons p E ih =>
    rw [fnd] at h
    split at h
    · next e =>
      cases h
      rw [List.set_cons_zero, look_cons, look_cons, ← e]
      split <;> rfl
    · next e =>
      rw [fnd_shift] at h
      rw [List.map_cons, List.nodup_cons] at hn
      cases hf : fnd E k 0 with
      | none => rw [hf] at h; cases h
      | some q =>
        rw [hf] at h
        obtain ⟨j, u2⟩ := q
        simp at h
        obtain ⟨rfl, rfl⟩ := h
        rw [List.set_cons_succ, look_cons, look_cons, ih hf hn.2]
        by_cases e1 : k' = k
        · subst e1; simp [e]
        · simp [e1]
theorem put_look (E : List (κ × β)) (k : κ) (v : β) (hn : (E.map (·.1)).Nodup) (k' : κ) : look (put E k v) k' = if k' = k then some v else look E k' := by
  unfold put
  cases hf : fnd E k 0 with
  | none =>
    simp only []
    rw [look_app, look_cons, look_nil]
    by_cases e : k' = k
    · subst e
      have : look E k' = none := by unfold look; rw [hf]; rfl
      rw [this]
      simp
    · rw [if_neg e, if_neg e]
      cases look E k' <;> rfl
  | some q =>
    obtain ⟨i, u⟩ := q
    exact look_set hf hn k'
theorem put_len (E : List (κ × β)) (k : κ) (v : β) : (put E k v).length = if has E k = true then E.length else E.length + 1 := by
  unfold put has
  cases hf : fnd E k 0 with
  | none => simp
  | some q => obtain ⟨i, u⟩ := q; simp
theorem look_erase {E : List (κ × β)} {i : Nat} {k : κ} {u : β} (h : fnd E k 0 = some (i, u)) (hn : (E.map (·.1)).Nodup) (k' : κ) : look (E.eraseIdx i) k' = if k' = k then none else look E k' := by
  induction E generalizing i with
  | nil => cases h
  | cons p E ih =>
    rw [List.map_cons, List.nodup_cons] at hn
    rw [fnd] at h
    split at h
    · next e =>
      cases h
      rw [List.eraseIdx_cons_zero, look_cons, ← e]
      by_cases e1 : k' = k
      · rw [if_pos e1]
        cases hl : look E k' with
        | none => rfl
        | some x =>
          have := look_mem hl
          exact absurd (List.mem_map.2 ⟨_, this, rfl⟩) (by rw [← e, ← e1] at hn; exact hn.1)
      · rw [if_neg e1, if_neg e1]
    · next e =>
      rw [fnd_shift] at h
      cases hf : fnd E k 0 with
      | none => rw [hf] at h; cases h
      | some q =>
        rw [hf] at h
        obtain ⟨j, u2⟩ := q
        simp at h
        obtain ⟨rfl, rfl⟩ := h
        rw [List.eraseIdx_cons_succ, look_cons, look_cons, ih hf hn.2]
        by_cases e1 : k' = k
        · subst e1; simp [e]
        · simp [e1]
theorem del_look (E : List (κ × β)) (k : κ) (hn : (E.map (·.1)).Nodup) (k' : κ) : look (del E k) k' = if k' = k then none else look E k' := by
  unfold del
  cases hf : fnd E k 0 with
  | none =>
    simp only []
    split
    · next e => subst e; unfold look; rw [hf]; rfl
    · rfl
  | some q =>
    obtain ⟨i, u⟩ := q
    exact look_erase hf hn k'
theorem del_keys (E : List (κ × β)) (k : κ) (hn : (E.map (·.1)).Nodup) : ((del E k).map (·.1)).Nodup := by
  unfold del
  cases hf : fnd E k 0 with
  | none => exact hn
  | some q =>
    obtain ⟨i, u⟩ := q
    simp only []
    rw [map_erase]
    exact hn.sublist (List.eraseIdx_sublist _ _)
theorem put_ok {V : κ → Prop} {E : List (κ × β)} (h : ∀ p ∈ E, V p.1) {k : κ} (hk : V k) (v : β) : ∀ p ∈ put E k v, V p.1 := by
  unfold put
  split
  · intro p hp
    rcases List.mem_or_eq_of_mem_set hp with hp | rfl
    · exact h p hp
    · exact hk
  · intro p hp
    rcases List.mem_append.1 hp with hp | hp
    · exact h p hp
    · rw [List.mem_singleton.1 hp]; exact hk
theorem del_ok {V : κ → Prop} {E : List (κ × β)} (h : ∀ p ∈ E, V p.1) (k : κ) : ∀ p ∈ del E k, V p.1 := by
  unfold del
  split
  · intro p hp
    exact h p (List.mem_of_mem_eraseIdx hp)
  · exact h
def onV {β γ : Type} (f : β → γ) (E : List (κ × β)) : List (κ × γ) := E.map fun p => (p.1, f p.2)
omit [DecidableEq κ] in
theorem onV_keys {γ : Type} (f : β → γ) (E : List (κ × β)) : (onV f E).map (·.1) = E.map (·.1) := by unfold onV; rw [List.map_map]; rfl
omit [DecidableEq κ] in
theorem onV_len {γ : Type} (f : β → γ) (E : List (κ × β)) : (onV f E).length = E.length := by unfold onV; simp
theorem fnd_on {γ : Type} (f : β → γ) (E : List (κ × β)) (k : κ) (i : Nat) : fnd (onV f E) k i = (fnd E k i).map fun q => (q.1, f q.2) := by
  induction E generalizing i with
  | nil => rfl
  | cons p E ih =>
    show fnd ((p.1, f p.2) :: onV f E) k i = _
    rw [fnd, fnd]
    split
    · rfl
    · exact ih _
theorem look_on {γ : Type} (f : β → γ) (E : List (κ × β)) (k : κ) : look (onV f E) k = (look E k).map f := by
  unfold look
  rw [fnd_on]
  cases fnd E k 0 <;> rfl
theorem put_on {γ : Type} (f : β → γ) (E : List (κ × β)) (k : κ) (v : β) : put (onV f E) k (f v) = onV f (put E k v) := by
  unfold put
  rw [fnd_on]
  cases fnd E k 0 with
  | none => simp [onV]
  | some q => obtain ⟨i, u⟩ := q; simp [onV, List.map_set]
theorem del_on {γ : Type} (f : β → γ) (E : List (κ × β)) (k : κ) : del (onV f E) k = onV f (del E k) := by
  unfold del
  rw [fnd_on]
  cases fnd E k 0 with
  | none => rfl
  | some q => obtain ⟨i, u⟩ := q; simp [onV, map_erase]
theorem look_iff {E : List (κ × β)} (hn : (E.map (·.1)).Nodup) (k : κ) (v : β) : look E k = some v ↔ (k, v) ∈ E := ⟨look_mem, look_of_mem hn⟩
theorem del_len {E : List (κ × β)} {k : κ} (h : (look E k).isSome = true) : (del E k).length + 1 = E.length := by
  unfold look at h
  unfold del
  cases hf : fnd E k 0 with
  | none => rw [hf] at h; cases h
  | some q =>
    obtain ⟨i, u⟩ := q
    have := (fnd_some hf).2
    simp [List.length_eraseIdx, this]
    omega
theorem run_findAsking {kt : TypeId} {enc : κ → Value} {V : κ → Prop} (K : KeyOk P kt enc V) (w : World) (k : κ) (hk : V k) : ∀ (l : List MapEntry) (E : List (κ × Value)) (i : Nat), l.map (fun e => (e.key, e.val)) = E.map (fun p => (enc p.1, p.2)) → (∀ p ∈ E, V p.1) → (Instr.findAsking kt (enc k) l i).run P w = .ok (fnd E k i) w
  | [], [], i, _, _ => rfl
  | [], p :: E, i, h, _ => by simp at h
  | e :: l, [], i, h, _ => by simp at h
  | e :: l, p :: E, i, h, hV => by
    rw [List.map_cons, List.map_cons, List.cons.injEq] at h
    obtain ⟨h1, h2⟩ := h
    have hkey : e.key = enc p.1 := (Prod.mk.inj h1).1
    have hval : e.val = p.2 := (Prod.mk.inj h1).2
    rw [Instr.findAsking, Sem.run_bind, hkey, K.eq k p.1 w hk (hV p (by simp)), Result.andThen_ok, Sem.run_ite, fnd]
    by_cases hp : k = p.1
    · rw [if_pos (by simpa using hp), if_pos hp, hval]
      rfl
    · rw [if_neg (by simpa using hp), if_neg hp]
      exact run_findAsking K w k hk l E (i + 1) h2 (fun q hq => hV q (List.mem_cons_of_mem _ hq))
theorem run_findNow {enc : κ → Value} {u : TypeDesc} (hs : ∀ a b, Instr.sameNow u (enc a) (enc b) = some (decide (a = b))) (k : κ) : ∀ (l : List MapEntry) (E : List (κ × Value)) (i : Nat), l.map (fun e => (e.key, e.val)) = E.map (fun p => (enc p.1, p.2)) → Instr.findNow u (enc k) l i = some (fnd E k i)
  | [], [], i, _ => rfl
  | [], p :: E, i, h => by simp at h
  | e :: l, [], i, h => by simp at h
  | e :: l, p :: E, i, h => by
    rw [List.map_cons, List.map_cons, List.cons.injEq] at h
    obtain ⟨h1, h2⟩ := h
    have hkey : e.key = enc p.1 := (Prod.mk.inj h1).1
    have hval : e.val = p.2 := (Prod.mk.inj h1).2
    rw [Instr.findNow, hkey, hs k p.1, fnd]
    by_cases hp : k = p.1
    · rw [if_pos hp, decide_eq_true hp, hval]
    · rw [if_neg hp, decide_eq_false hp]
      exact run_findNow hs k l E (i + 1) h2
theorem run_findKey {kt : TypeId} {enc : κ → Value} {V : κ → Prop} (K : KeyOk P kt enc V) (w : World) (k : κ) (hk : V k) {l : List MapEntry} {E : List (κ × Value)} (h : l.map (fun e => (e.key, e.val)) = E.map (fun p => (enc p.1, p.2))) (hV : ∀ p ∈ E, V p.1) : (Instr.findKey kt (enc k) l).run P w = .ok (fnd E k 0) w := by
  obtain ⟨u, hu, hno | hyes⟩ := K.und
  rotate_left
  · unfold Instr.findKey
    rw [Sem.run_bind, run_underlying hu, Result.andThen_ok, run_findNow hyes k l E 0 h]
    rfl
  have hf := run_findAsking K w k hk l E 0 h hV
  unfold Instr.findKey
  rw [Sem.run_bind, run_underlying hu, Result.andThen_ok]
  cases l with
  | nil =>
    cases E with
    | nil => rfl
    | cons p E => simp at h
  | cons e l =>
    cases E with
    | nil => simp at h
    | cons p E =>
      rw [List.map_cons, List.map_cons, List.cons.injEq] at h
      have hkey : e.key = enc p.1 := (Prod.mk.inj h.1).1
      rw [Instr.findNow, hkey, hno k p.1]
      exact hf
theorem run_look {kt et mt : TypeId} {enc : κ → Value} {V : κ → Prop} (K : KeyOk P kt enc V) (hm : P.underlying mt = some (.map kt et)) {w : World} {b : Nat} {E : List (κ × Value)} (h : MapAt w b enc V E) (k : κ) (hk : V k) {z : Value} (hz : (zeroValue et).run P w = .ok z w) (ok : Bool) :
    (Instr.lookup mt (.map (some b)) (enc k) ok).run P w = .ok (if ok = true then .tuple #[(look E k).getD z, .bool (has E k)] else (look E k).getD z) w := by
  obtain ⟨⟨es, c, hb, he, hst0⟩, _, hV⟩ := h
  have hf := run_findKey K w k hk he hV
  unfold look has
  cases hq : fnd E k 0 with
  | none =>
    rw [hq] at hf
    simp [Instr.lookup, run_underlying hm, MapKept.run_getObj_map hb, K.chk _ k w hk, hf, hz, Result.andThen]
  | some q =>
    obtain ⟨i, v⟩ := q
    rw [hq] at hf
    simp [Instr.lookup, run_underlying hm, MapKept.run_getObj_map hb, K.chk _ k w hk, hf, Result.andThen]
theorem run_look_nil {kt et mt : TypeId} {enc : κ → Value} {V : κ → Prop} (K : KeyOk P kt enc V) (hm : P.underlying mt = some (.map kt et)) {w : World} (k : κ) (hk : V k) {z : Value} (hz : (zeroValue et).run P w = .ok z w) (ok : Bool) :
    (Instr.lookup mt (.map none) (enc k) ok).run P w = .ok (if ok = true then .tuple #[z, .bool false] else z) w := by
  have hf := run_findKey K w k hk (l := []) (E := []) rfl (by simp)
  simp [Instr.lookup, run_underlying hm, K.chk _ k w hk, hf, fnd, hz, Result.andThen]
theorem run_put {kt et mt : TypeId} {enc : κ → Value} {V : κ → Prop} (K : KeyOk P kt enc V) (hm : P.underlying mt = some (.map kt et)) {w : World} {b : Nat} {E : List (κ × Value)} (h : MapAt w b enc V E) (k : κ) (hk : V k) (v : Value) :
    ∃ o, (Instr.mapUpdate mt (.map (some b)) (enc k) v).run P w = .ok () (setM w b o) ∧ MapAt (setM w b o) b enc V (put E k v) := by
  have hlt := h.lt
  obtain ⟨⟨es, c, hb, he, hst0⟩, hn, hV⟩ := h
  have hf := run_findKey K w k hk he hV
  have hkeys := put_keys E k v hn
  have hoks := put_ok hV hk v
  cases hq : fnd E k 0 with
  | none =>
    rw [hq] at hf
    refine ⟨.map (es.push { key := enc k, val := v, born := c }) (c + 1), ?_, ⟨_, _, setM_same _ hlt, ?_, ?_⟩, hkeys, hoks⟩
    · simp [Instr.mapUpdate, run_underlying hm, MapKept.run_getObj_map hb, K.chk _ k w hk, hf, MapKept.run_setObj_map _ hb, Result.andThen, setM]
    · have e : put E k v = E ++ [(k, v)] := by unfold put; rw [hq]
      rw [e]
      simp [he]
    · rw [Array.toList_push, List.map_append]
      refine ⟨fun n hn => ?_, List.nodup_append.2 ⟨hst0.2, by simp, fun a ha b hb e => ?_⟩⟩
      · rcases List.mem_append.1 hn with hn | hn
        · have := hst0.1 n hn; omega
        · simp at hn; omega
      · simp at hb
        have := hst0.1 a ha
        omega
  | some q =>
    obtain ⟨i, u⟩ := q
    rw [hq] at hf
    obtain ⟨hEi, hil⟩ := fnd_some hq
    have hes : es.toList.length = E.length := by have := congrArg List.length he; simpa using this
    have hi2 : i < es.size := by rw [← Array.length_toList]; omega
    have hke : (es[i]?).map (·.key) = some (enc k) := by
      have := congrArg (fun l => l[i]?) he
      simp only [List.getElem?_map, hEi] at this
      simp at this
      rw [Array.getElem?_eq_getElem hi2] at this ⊢
      simp at this ⊢
      exact this.1
    have hst : (Instr.keyThatStays (enc k) (enc k)).run P w = .ok (enc k) w := by
      unfold Instr.keyThatStays
      rw [Sem.run_ite, if_pos (K.bits k)]
      rfl
    refine ⟨.map (es.modify i fun e => { e with key := enc k, val := v }) c, ?_, ⟨_, _, setM_same _ hlt, ?_, ?_⟩, hkeys, hoks⟩
    · simp [Instr.mapUpdate, run_underlying hm, MapKept.run_getObj_map hb, K.chk _ k w hk, hf, hke, hst, MapKept.run_setObj_map _ hb, Result.andThen, setM]
    · have e : put E k v = E.set i (k, v) := by unfold put; rw [hq]
      rw [e]
      apply List.ext_getElem?
      intro j
      have hj := congrArg (fun l => l[j]?) he
      simp only [List.getElem?_map] at hj
      rw [List.getElem?_map, List.getElem?_map, Array.getElem?_toList, Array.getElem?_modify, List.getElem?_set]
      by_cases ej : i = j
      · subst ej
        rw [if_pos rfl, if_pos rfl, Array.getElem?_eq_getElem hi2]
        simp [hil]
      · rw [if_neg ej, if_neg ej]
        rw [Array.getElem?_toList] at hj
        exact hj
    · have e : (es.modify i fun e => { e with key := enc k, val := v }).toList.map (·.born) = es.toList.map (·.born) := by
        apply List.ext_getElem?
        intro j
        rw [List.getElem?_map, List.getElem?_map, Array.getElem?_toList, Array.getElem?_modify, Array.getElem?_toList]
        by_cases ej : i = j
        · rw [if_pos ej, Option.map_map]; rfl
        · rw [if_neg ej]
      rw [e]
      exact hst0
theorem run_del {kt et mt ty : TypeId} {enc : κ → Value} {V : κ → Prop} (K : KeyOk P kt enc V) (hm : P.underlying mt = some (.map kt et)) {w : World} {b : Nat} {E : List (κ × Value)} (h : MapAt w b enc V E) (k : κ) (hk : V k) :
    ∃ o, (Builtin.delete_ #[mt, kt] ty #[.map (some b), enc k]).run P w = .ok (.tuple #[]) (setM w b o) ∧ MapAt (setM w b o) b enc V (del E k) := by
  have hlt := h.lt
  obtain ⟨⟨es, c, hb, he, hst0⟩, hn, hV⟩ := h
  have hf := run_findKey K w k hk he hV
  have hkeys := del_keys E k hn
  have hoks := del_ok hV k
  cases hq : fnd E k 0 with
  | none =>
    rw [hq] at hf
    refine ⟨.map es c, ?_, ⟨_, _, setM_same _ hlt, ?_, hst0⟩, hkeys, hoks⟩
    · simp [Builtin.delete_, run_underlying hm, MapKept.run_getObj_map hb, K.chk _ k w hk, hf, MapKept.run_setObj_map _ hb, Result.andThen, setM]
    · have e : del E k = E := by unfold del; rw [hq]
      rw [e]
      exact he
  | some q =>
    obtain ⟨i, u⟩ := q
    rw [hq] at hf
    refine ⟨.map (es.eraseIdxIfInBounds i) c, ?_, ⟨_, _, setM_same _ hlt, ?_, ?_⟩, hkeys, hoks⟩
    · simp [Builtin.delete_, run_underlying hm, MapKept.run_getObj_map hb, K.chk _ k w hk, hf, MapKept.run_setObj_map _ hb, Result.andThen, setM]
    · have e : del E k = E.eraseIdx i := by unfold del; rw [hq]
      rw [e, map_erase, ← he, ← map_erase]
      congr 1
      have hes : es.toList.length = E.length := by have := congrArg List.length he; simpa using this
      have hi2 : i < es.size := by rw [← Array.length_toList]; have := (fnd_some hq).2; omega
      simp [Array.eraseIdxIfInBounds, hi2]
    · have hes : es.toList.length = E.length := by have := congrArg List.length he; simpa using this
      have hi2 : i < es.size := by rw [← Array.length_toList]; have := (fnd_some hq).2; omega
      have e : (es.eraseIdxIfInBounds i).toList.map (·.born) = (es.toList.map (·.born)).eraseIdx i := by
        rw [← map_erase]
        congr 1
        simp [Array.eraseIdxIfInBounds, hi2]
      rw [e]
      exact ⟨fun n hn => hst0.1 n (List.mem_of_mem_eraseIdx hn), hst0.2.sublist (List.eraseIdx_sublist _ _)⟩
end
end Go.Proofs.YtifendlpeebofaaGreatDoor.M
