import Derived.Test.YtldlljobofnmmaaDoorRows
import Derived.Test.YtldlljobofnmmaaDoorBase
import Derived.Test.YtldlljobofnmmaaDoorLaws
import Derived.Test.YtldlljobofnmmaaDoorE
import Derived.Deep.Upon
import Derived.Deep.MidRow
import Derived.Deep.OwnRows
import Derived.WalkKit
import Derived.WalkSpells
import Derived.Maps.OwnSet
import Derived.Maps.OwnOps
import Derived.Below
import Derived.DeepKeys3
import Derived.Deep.RegionHeld3
import Derived.Deep.Cut
import Derived.Laws.Tables
import Derived.Laws.MakeOwn
import Derived.Laws.CopyRow
import Derived.Great.BuildSlice
import Derived.Deep.DeepAppendWide
import Derived.Maps.AppendAt
import Derived.OwnWalk
import Derived.Deep.RegionLaw
import Derived.StillTailTactics
import Derived.Test.YtldlljobofnmmaaDoorXea
import Derived.ProofKit
import Derived.OpenShut
import Derived.ShutString
import Derived.ChangeOld
import Derived.SizedLaws
import Derived.Deep.Slices
set_option maxRecDepth 100000
set_option maxHeartbeats 4000000
namespace Go.Proofs.YtldlljobofnmmaaDoor
open Go.RowKit
set_option linter.unusedVariables false
set_option linter.unusedSimpArgs false
def z32 : List UInt8 := List.replicate 32 0
def hcs (h : List UInt8) : List Value := (bs h).toList
theorem hcs_len (h : List UInt8) : (hcs h).length = h.length := by simp [hcs, bs]
theorem hcs_arr (h : List UInt8) : (hcs h).toArray = bs h := by simp [hcs]
theorem hcs_one (h : List UInt8) : ∀ v ∈ hcs h, v.oneCell' = true := by
  intro v hv
  simp [hcs, bs] at hv
  obtain ⟨b, _, rfl⟩ := hv
  rfl
def All32 (L : List (List UInt8)) : Prop := ∀ h ∈ L, h.length = 32
theorem All32.get {L : List (List UInt8)} (hL : All32 L) {i : Nat} {h : List UInt8} (e : L[i]? = some h) : h.length = 32 := hL h (List.mem_of_getElem? e)
theorem All32.set {L : List (List UInt8)} (hL : All32 L) (i : Nat) {h : List UInt8} (hh : h.length = 32) : All32 (L.set i h) := fun x hx => by
  rcases List.mem_or_eq_of_mem_set hx with h1 | rfl
  · exact hL x h1
  · exact hh
def Hs (w : World) (b off : Nat) (L : List (List UInt8)) : Prop := ∀ i h, L[i]? = some h → w.rangeAt b (off + 32 * i) (hcs h)
def Hl (w : World) (a : Option Addr) (L : List (List UInt8)) : Prop := L = [] ∨ ∃ b off, a = some ⟨b, off, none⟩ ∧ Hs w b off L
theorem rangeAt_lt {w : World} {b o : Nat} {cs : List Value} (h : w.rangeAt b o cs) (h0 : 0 < cs.length) : b < w.heap.size :=
  World.block_lt_of_cell? w ⟨b, o + 0, none⟩ (h 0 _ (List.getElem?_eq_getElem h0))
theorem rangeAt_below {B : Nat} {w w' : World} {b o : Nat} {cs : List Value} (h : w.rangeAt b o cs) (hb : Below B w w') (hB : b < B) : w'.rangeAt b o cs := fun j v hv => by
  rw [hb.cell (p := ⟨b, o + j, none⟩) hB]; exact h j v hv
theorem Hs.below {B : Nat} {w w' : World} {b off : Nat} {L : List (List UInt8)} (h : Hs w b off L) (hb : Below B w w') (hB : b < B) : Hs w' b off L := fun i x e => rangeAt_below (h i x e) hb hB
theorem Hs.lt {w : World} {b off : Nat} {L : List (List UInt8)} (h : Hs w b off L) (hL : All32 L) (h0 : 0 < L.length) : b < w.heap.size := by
  have e := List.getElem?_eq_getElem h0
  exact rangeAt_lt (h 0 _ e) (by rw [hcs_len, hL.get e]; omega)
theorem Hl.below {w w' : World} {a : Option Addr} {L : List (List UInt8)} (h : Hl w a L) (hL : All32 L) (hb : Below w.heap.size w w') : Hl w' a L := by
  rcases h with rfl | ⟨b, off, rfl, hs⟩
  · exact .inl rfl
  · by_cases h0 : 0 < L.length
    · exact .inr ⟨b, off, rfl, hs.below hb (hs.lt hL h0)⟩
    · exact .inl (List.eq_nil_of_length_eq_zero (by omega))
theorem Hl.at {w : World} {a : Option Addr} {L : List (List UInt8)} (h : Hl w a L) {i : Nat} (hi : i < L.length) : ∃ b off, a = some ⟨b, off, none⟩ ∧ Hs w b off L := by
  rcases h with rfl | h
  · simp at hi
  · exact h
theorem Hs.set {w : World} {g off : Nat} {L : List (List UInt8)} (h : Hs w g off L) (hL : All32 L) (i : Nat) (x : List UInt8) (hx : x.length = 32) (hi : i < L.length) (ht : w.there g (off + 32 * i) 32) :
    Hs (w.setCells g (off + 32 * i) (hcs x)) g off (L.set i x) := fun j y e => by
  by_cases hj : i = j
  · subst hj
    rw [List.getElem?_set_self hi] at e
    cases e
    exact World.rangeAt_setCells_same _ _ _ _ (by rw [hcs_len, hx]; exact ht)
  · rw [List.getElem?_set_ne hj] at e
    refine World.rangeAt_setCells_apart (h j y e) _ _ _ ?_
    rw [hcs_len, hcs_len, hx, hL.get e]
    omega
def part (P : List (List UInt8)) (m k : Nat) : List (List UInt8) := P.take k ++ List.replicate (m - k) z32
end Go.Proofs.YtldlljobofnmmaaDoor
namespace Go.Proofs.YtldlljobofnmmaaDoor.M
open Go.RowKit
set_option linter.unusedVariables false
set_option linter.unusedSimpArgs false
theorem map_erase {α β : Type} (f : α → β) : ∀ (l : List α) (i : Nat), (l.eraseIdx i).map f = (l.map f).eraseIdx i
  | [], i => by simp
  | a :: l, 0 => by simp
  | a :: l, i + 1 => by simp [map_erase f l i]
section
variable {P : Program} {κ : Type}
def Stamps (l : List Nat) (c : Nat) : Prop := (∀ n ∈ l, n < c) ∧ l.Nodup
def MapAt (w : World) (b : Nat) (enc : κ → Value) (V : κ → Prop) (E : List (κ × Value)) : Prop :=
  (∃ es clock, w.heap[b]? = some (.map es clock) ∧ es.toList.map (fun e => (e.key, e.val)) = E.map (fun p => (enc p.1, p.2)) ∧ Stamps (es.toList.map (·.born)) clock) ∧ (E.map (·.1)).Nodup ∧ ∀ p ∈ E, V p.1
theorem MapAt.below {w w' : World} {b : Nat} {enc : κ → Value} {V : κ → Prop} {E : List (κ × Value)} (h : MapAt w b enc V E) (hb : w'.heap[b]? = w.heap[b]?) : MapAt w' b enc V E := by
  obtain ⟨⟨es, c, h1, h2, h4⟩, h3⟩ := h
  exact ⟨⟨es, c, hb.trans h1, h2, h4⟩, h3⟩
theorem MapAt.lt {w : World} {b : Nat} {enc : κ → Value} {V : κ → Prop} {E : List (κ × Value)} (h : MapAt w b enc V E) : b < w.heap.size := by
  obtain ⟨⟨es, c, h1, _⟩, _⟩ := h
  exact (Array.getElem?_eq_some_iff.1 h1).1
theorem MapAt.new (w : World) (enc : κ → Value) (V : κ → Prop) : MapAt (w.alloc (.map #[] 0)) w.heap.size enc V [] :=
  ⟨⟨#[], 0, heap_alloc_new _ _, rfl, by simp [Stamps]⟩, by simp, by simp⟩
def setM (w : World) (b : Nat) (o : Obj) : World := { w with heap := w.heap.setIfInBounds b o }
theorem setM_same {w : World} {b : Nat} (o : Obj) (h : b < w.heap.size) : (setM w b o).heap[b]? = some o := by simp [setM, h]
theorem setM_other {w : World} {b k : Nat} (o : Obj) (h : k ≠ b) : (setM w b o).heap[k]? = w.heap[k]? := by simp [setM, Array.getElem?_setIfInBounds, Ne.symm h]
theorem setM_size (w : World) (b : Nat) (o : Obj) : (setM w b o).heap.size = w.heap.size := by simp [setM]
theorem setM_below {base : Nat} {w0 w : World} {b : Nat} (o : Obj) (h : Below base w0 w) (hb : base ≤ b) : Below base w0 (setM w b o) :=
  ⟨h.os, h.tape, h.output, by rw [setM_size]; exact h.size, fun k hk => (setM_other o (by omega)).trans (h.block k hk)⟩
theorem run_mlen {kt et mt ty : TypeId} {enc : κ → Value} {V : κ → Prop} (hm : P.underlying mt = some (.map kt et)) {w : World} {b : Nat} {E : List (κ × Value)} (h : MapAt w b enc V E) : (Builtin.len_ #[mt] ty #[.map (some b)]).run P w = .ok (.int .i64 (E.length : Int)) w := by
  obtain ⟨⟨es, c, hb, he, hst0⟩, _⟩ := h
  have hes : es.size = E.length := by have := congrArg List.length he; simpa using this
  simp [Builtin.len_, run_underlying hm, MapKept.run_getObj_map hb, goInt, Result.andThen, hes]
end
section
variable {P : Program} {κ : Type} [DecidableEq κ]
structure KeyOk (P : Program) (kt : TypeId) (enc : κ → Value) (V : κ → Prop) : Prop where
  chk : ∀ b k w, V k → (Instr.checkKey b 10000 kt (enc k)).run P w = .ok () w
  eq : ∀ a b w, V a → V b → (Op.equal kt (enc a) (enc b)).run P w = .ok (decide (a = b)) w
  und : ∃ u, P.underlying kt = some u ∧ ((∀ a b, Instr.sameNow u (enc a) (enc b) = none) ∨ ∀ a b, Instr.sameNow u (enc a) (enc b) = some (decide (a = b)))
  bits : ∀ k, Instr.sameBits 10000 (enc k) (enc k) = true
variable {β : Type}
def fnd : List (κ × β) → κ → Nat → Option (Nat × β)
  | [], _, _ => none
  | p :: E, k, i => if k = p.1 then some (i, p.2) else fnd E k (i + 1)
def look (E : List (κ × β)) (k : κ) : Option β := (fnd E k 0).map (·.2)
def has (E : List (κ × β)) (k : κ) : Bool := (fnd E k 0).isSome
def put (E : List (κ × β)) (k : κ) (v : β) : List (κ × β) := match fnd E k 0 with | some (i, _) => E.set i (k, v) | none => E ++ [(k, v)]
def del (E : List (κ × β)) (k : κ) : List (κ × β) := match fnd E k 0 with | some (i, _) => E.eraseIdx i | none => E
theorem fnd_shift (E : List (κ × β)) (k : κ) (i : Nat) : fnd E k i = (fnd E k 0).map fun p => (p.1 + i, p.2) := by
  induction E generalizing i with
  | nil => rfl
  | cons p E ih =>
    unfold fnd
    split
    · simp
    · rw [ih (i + 1), ih (0 + 1)]
      cases fnd E k 0 with
      | none => rfl
      | some q => simp; omega
theorem look_nil (k : κ) : look ([] : List (κ × β)) k = none := rfl
theorem look_cons (p : κ × β) (E : List (κ × β)) (k : κ) : look (p :: E) k = if k = p.1 then some p.2 else look E k := by
  unfold look
  rw [fnd]
  split
  · rfl
  · rw [fnd_shift]
    cases fnd E k 0 <;> rfl
theorem fnd_some {E : List (κ × β)} {k : κ} {i : Nat} {v : β} (h : fnd E k 0 = some (i, v)) : E[i]? = some (k, v) ∧ i < E.length := by
  induction E generalizing i with
  | nil => cases h
  | cons p E ih =>
    unfold fnd at h
    split at h
    · next e => cases h; subst e; simp
    · rw [fnd_shift] at h
      cases hf : fnd E k 0 with
      | none => rw [hf] at h; cases h
      | some q =>
        rw [hf] at h
        obtain ⟨j, u⟩ := q
        simp at h
        obtain ⟨rfl, rfl⟩ := h
        have := ih hf
        simpa using this
theorem fnd_none {E : List (κ × β)} {k : κ} (h : fnd E k 0 = none) : ∀ p ∈ E, p.1 ≠ k := by
  induction E with
  | nil => intro p hp; cases hp
  | cons q E ih =>
    unfold fnd at h
    split at h
    · cases h
    · next e =>
      rw [fnd_shift] at h
      cases hf : fnd E k 0 with
      | some r => rw [hf] at h; cases h
      | none =>
        intro p hp
        rcases List.mem_cons.1 hp with rfl | hp
        · exact fun e2 => e e2.symm
        · exact ih hf p hp
theorem look_app (E F : List (κ × β)) (k : κ) : look (E ++ F) k = (look E k).or (look F k) := by
  induction E with
  | nil => rw [List.nil_append, look_nil]; rfl
  | cons p E ih =>
    rw [List.cons_append, look_cons, look_cons]
    split
    · rfl
    · exact ih
theorem look_mem {E : List (κ × β)} {k : κ} {v : β} (h : look E k = some v) : (k, v) ∈ E := by
  unfold look at h
  cases hf : fnd E k 0 with
  | none => rw [hf] at h; cases h
  | some q =>
    rw [hf] at h
    obtain ⟨i, u⟩ := q
    cases h
    exact List.mem_of_getElem? (fnd_some hf).1
theorem look_of_mem {E : List (κ × β)} (hn : (E.map (·.1)).Nodup) {k : κ} {v : β} (h : (k, v) ∈ E) : look E k = some v := by
  induction E with
  | nil => cases h
  | cons p E ih =>
    rw [List.map_cons, List.nodup_cons] at hn
    rw [look_cons]
    rcases List.mem_cons.1 h with rfl | h
    · rw [if_pos rfl]
    · rw [if_neg]
      · exact ih hn.2 h
      · intro e
        exact hn.1 (by rw [← e]; exact List.mem_map.2 ⟨_, h, rfl⟩)
theorem put_keys (E : List (κ × β)) (k : κ) (v : β) (hn : (E.map (·.1)).Nodup) : ((put E k v).map (·.1)).Nodup := by
  unfold put
  cases hf : fnd E k 0 with
  | none =>
    simp only []
    rw [List.map_append, List.nodup_append]
    refine ⟨hn, by simp, fun a ha b hb e => ?_⟩
    obtain ⟨p, hp, rfl⟩ := List.mem_map.1 ha
    simp at hb
    subst hb
    exact fnd_none hf p hp e
  | some q =>
    obtain ⟨i, u⟩ := q
    simp only []
    have h := fnd_some hf
    have e : (E.set i (k, v)).map (·.1) = E.map (·.1) := by
      apply List.ext_getElem?
      intro j
      rw [List.getElem?_map, List.getElem?_map, List.getElem?_set]
      split
      · next e2 =>
        subst e2
        rw [h.1]
        simp [h.2]
      · rfl
    rw [e]
    exact hn
theorem look_set {E : List (κ × β)} {i : Nat} {k : κ} {v : β} {u : β} (h : fnd E k 0 = some (i, u)) (hn : (E.map (·.1)).Nodup) (k' : κ) : look (E.set i (k, v)) k' = if k' = k then some v else look E k' := by
  induction E generalizing i with
  | nil => cases h
  | cons p E ih =>
    rw [fnd] at h
    split at h
    · next e =>
      cases h
      rw [List.set_cons_zero, look_cons, look_cons, ← e]
      split <;> rfl
    · next e =>
      rw [fnd_shift] at h
      rw [List.map_cons, List.nodup_cons] at hn
      cases hf : fnd E k 0 with
      | none => rw [hf] at h; cases h
      | some q =>
        rw [hf] at h
        obtain ⟨j, u2⟩ := q
        simp at h
        obtain ⟨rfl, rfl⟩ := h
        rw [List.set_cons_succ, look_cons, look_cons, ih hf hn.2]
        by_cases e1 : k' = k
        · subst e1; simp [e]
        · simp [e1]
theorem put_look (E : List (κ × β)) (k : κ) (v : β) (hn : (E.map (·.1)).Nodup) (k' : κ) : look (put E k v) k' = if k' = k then some v else look E k' := by
  unfold put
  cases hf : fnd E k 0 with
  | none =>
    simp only []
    rw [look_app, look_cons, look_nil]
    by_cases e : k' = k
    · subst e
      have : look E k' = none := by unfold look; rw [hf]; rfl
      rw [this]
      simp
    · rw [if_neg e, if_neg e]
      cases look E k' <;> rfl
  | some q =>
    obtain ⟨i, u⟩ := q
    exact look_set hf hn k'
theorem look_erase {E : List (κ × β)} {i : Nat} {k : κ} {u : β} (h : fnd E k 0 = some (i, u)) (hn : (E.map (·.1)).Nodup) (k' : κ) : look (E.eraseIdx i) k' = if k' = k then none else look E k' := by
  induction E generalizing i with
  | nil => cases h
  | cons p E ih =>
    rw [List.map_cons, List.nodup_cons] at hn
    rw [fnd] at h
    split at h
    · next e =>
      cases h
      rw [List.eraseIdx_cons_zero, look_cons, ← e]
      by_cases e1 : k' = k
      · rw [if_pos e1]
        cases hl : look E k' with
        | none => rfl
        | some x =>
          have := look_mem hl
          exact absurd (List.mem_map.2 ⟨_, this, rfl⟩) (by rw [← e, ← e1] at hn; exact hn.1)
      · rw [if_neg e1, if_neg e1]
    · next e =>
      rw [fnd_shift] at h
      cases hf : fnd E k 0 with
      | none => rw [hf] at h; cases h
      | some q =>
        rw [hf] at h
        obtain ⟨j, u2⟩ := q
        simp at h
        obtain ⟨rfl, rfl⟩ := h
        rw [List.eraseIdx_cons_succ, look_cons, look_cons, ih hf hn.2]
        by_cases e1 : k' = k
        · subst e1; simp [e]
        · simp [e1]
theorem del_look (E : List (κ × β)) (k : κ) (hn : (E.map (·.1)).Nodup) (k' : κ) : look (del E k) k' = if k' = k then none else look E k' := by
  unfold del
  cases hf : fnd E k 0 with
  | none =>
    simp only []
    split
    · next e => subst e; unfold look; rw [hf]; rfl
    · rfl
  | some q =>
    obtain ⟨i, u⟩ := q
    exact look_erase hf hn k'
theorem del_keys (E : List (κ × β)) (k : κ) (hn : (E.map (·.1)).Nodup) : ((del E k).map (·.1)).Nodup := by
  unfold del
  cases hf : fnd E k 0 with
  | none => exact hn
  | some q =>
    obtain ⟨i, u⟩ := q
    simp only []
    rw [map_erase]
    exact hn.sublist (List.eraseIdx_sublist _ _)
theorem put_ok {V : κ → Prop} {E : List (κ × β)} (h : ∀ p ∈ E, V p.1) {k : κ} (hk : V k) (v : β) : ∀ p ∈ put E k v, V p.1 := by
  unfold put
  split
  · intro p hp
    rcases List.mem_or_eq_of_mem_set hp with hp | rfl
    · exact h p hp
    · exact hk
  · intro p hp
    rcases List.mem_append.1 hp with hp | hp
    · exact h p hp
    · rw [List.mem_singleton.1 hp]; exact hk
theorem del_ok {V : κ → Prop} {E : List (κ × β)} (h : ∀ p ∈ E, V p.1) (k : κ) : ∀ p ∈ del E k, V p.1 := by
  unfold del
  split
  · intro p hp
    exact h p (List.mem_of_mem_eraseIdx hp)
  · exact h
def onV {β γ : Type} (f : β → γ) (E : List (κ × β)) : List (κ × γ) := E.map fun p => (p.1, f p.2)
omit [DecidableEq κ] in
theorem onV_keys {γ : Type} (f : β → γ) (E : List (κ × β)) : (onV f E).map (·.1) = E.map (·.1) := by unfold onV; rw [List.map_map]; rfl
omit [DecidableEq κ] in
theorem onV_len {γ : Type} (f : β → γ) (E : List (κ × β)) : (onV f E).length = E.length := by unfold onV; simp
theorem fnd_on {γ : Type} (f : β → γ) (E : List (κ × β)) (k : κ) (i : Nat) : fnd (onV f E) k i = (fnd E k i).map fun q => (q.1, f q.2) := by
  induction E generalizing i with
  | nil => rfl
  | cons p E ih =>
    show fnd ((p.1, f p.2) :: onV f E) k i = _
    rw [fnd, fnd]
    split
    · rfl
    · exact ih _
theorem look_on {γ : Type} (f : β → γ) (E : List (κ × β)) (k : κ) : look (onV f E) k = (look E k).map f := by
  unfold look
  rw [fnd_on]
  cases fnd E k 0 <;> rfl
theorem put_on {γ : Type} (f : β → γ) (E : List (κ × β)) (k : κ) (v : β) : put (onV f E) k (f v) = onV f (put E k v) := by
  unfold put
  rw [fnd_on]
  cases fnd E k 0 with
  | none => simp [onV]
  | some q => obtain ⟨i, u⟩ := q; simp [onV, List.map_set]
theorem del_on {γ : Type} (f : β → γ) (E : List (κ × β)) (k : κ) : del (onV f E) k = onV f (del E k) := by
  unfold del
  rw [fnd_on]
  cases fnd E k 0 with
  | none => rfl
  | some q => obtain ⟨i, u⟩ := q; simp [onV, map_erase]
theorem run_findAsking {kt : TypeId} {enc : κ → Value} {V : κ → Prop} (K : KeyOk P kt enc V) (w : World) (k : κ) (hk : V k) : ∀ (l : List MapEntry) (E : List (κ × Value)) (i : Nat), l.map (fun e => (e.key, e.val)) = E.map (fun p => (enc p.1, p.2)) → (∀ p ∈ E, V p.1) → (Instr.findAsking kt (enc k) l i).run P w = .ok (fnd E k i) w
  | [], [], i, _, _ => rfl
  | [], p :: E, i, h, _ => by simp at h
  | e :: l, [], i, h, _ => by simp at h
  | e :: l, p :: E, i, h, hV => by
    rw [List.map_cons, List.map_cons, List.cons.injEq] at h
    obtain ⟨h1, h2⟩ := h
    have hkey : e.key = enc p.1 := (Prod.mk.inj h1).1
    have hval : e.val = p.2 := (Prod.mk.inj h1).2
    rw [Instr.findAsking, Sem.run_bind, hkey, K.eq k p.1 w hk (hV p (by simp)), Result.andThen_ok, Sem.run_ite, fnd]
    by_cases hp : k = p.1
    · rw [if_pos (by simpa using hp), if_pos hp, hval]
      rfl
    · rw [if_neg (by simpa using hp), if_neg hp]
      exact run_findAsking K w k hk l E (i + 1) h2 (fun q hq => hV q (List.mem_cons_of_mem _ hq))
theorem run_findNow {enc : κ → Value} {u : TypeDesc} (hs : ∀ a b, Instr.sameNow u (enc a) (enc b) = some (decide (a = b))) (k : κ) : ∀ (l : List MapEntry) (E : List (κ × Value)) (i : Nat), l.map (fun e => (e.key, e.val)) = E.map (fun p => (enc p.1, p.2)) → Instr.findNow u (enc k) l i = some (fnd E k i)
  | [], [], i, _ => rfl
  | [], p :: E, i, h => by simp at h
  | e :: l, [], i, h => by simp at h
  | e :: l, p :: E, i, h => by
    rw [List.map_cons, List.map_cons, List.cons.injEq] at h
    obtain ⟨h1, h2⟩ := h
    have hkey : e.key = enc p.1 := (Prod.mk.inj h1).1
    have hval : e.val = p.2 := (Prod.mk.inj h1).2
    rw [Instr.findNow, hkey, hs k p.1, fnd]
    by_cases hp : k = p.1
    · rw [if_pos hp, decide_eq_true hp, hval]
    · rw [if_neg hp, decide_eq_false hp]
      exact run_findNow hs k l E (i + 1) h2
theorem run_findKey {kt : TypeId} {enc : κ → Value} {V : κ → Prop} (K : KeyOk P kt enc V) (w : World) (k : κ) (hk : V k) {l : List MapEntry} {E : List (κ × Value)} (h : l.map (fun e => (e.key, e.val)) = E.map (fun p => (enc p.1, p.2))) (hV : ∀ p ∈ E, V p.1) : (Instr.findKey kt (enc k) l).run P w = .ok (fnd E k 0) w := by
  obtain ⟨u, hu, hno | hyes⟩ := K.und
  rotate_left
  · unfold Instr.findKey
    rw [Sem.run_bind, run_underlying hu, Result.andThen_ok, run_findNow hyes k l E 0 h]
    rfl
  have hf := run_findAsking K w k hk l E 0 h hV
  unfold Instr.findKey
  rw [Sem.run_bind, run_underlying hu, Result.andThen_ok]
  cases l with
  | nil =>
    cases E with
    | nil => rfl
    | cons p E => simp at h
  | cons e l =>
    cases E with
    | nil => simp at h
    | cons p E =>
      rw [List.map_cons, List.map_cons, List.cons.injEq] at h
      have hkey : e.key = enc p.1 := (Prod.mk.inj h.1).1
      rw [Instr.findNow, hkey, hno k p.1]
      exact hf
theorem run_look {kt et mt : TypeId} {enc : κ → Value} {V : κ → Prop} (K : KeyOk P kt enc V) (hm : P.underlying mt = some (.map kt et)) {w : World} {b : Nat} {E : List (κ × Value)} (h : MapAt w b enc V E) (k : κ) (hk : V k) {z : Value} (hz : (zeroValue et).run P w = .ok z w) (ok : Bool) :
    (Instr.lookup mt (.map (some b)) (enc k) ok).run P w = .ok (if ok = true then .tuple #[(look E k).getD z, .bool (has E k)] else (look E k).getD z) w := by
  obtain ⟨⟨es, c, hb, he, hst0⟩, _, hV⟩ := h
  have hf := run_findKey K w k hk he hV
  unfold look has
  cases hq : fnd E k 0 with
  | none =>
    rw [hq] at hf
    simp [Instr.lookup, run_underlying hm, MapKept.run_getObj_map hb, K.chk _ k w hk, hf, hz, Result.andThen]
  | some q =>
    obtain ⟨i, v⟩ := q
    rw [hq] at hf
    simp [Instr.lookup, run_underlying hm, MapKept.run_getObj_map hb, K.chk _ k w hk, hf, Result.andThen]
theorem run_put {kt et mt : TypeId} {enc : κ → Value} {V : κ → Prop} (K : KeyOk P kt enc V) (hm : P.underlying mt = some (.map kt et)) {w : World} {b : Nat} {E : List (κ × Value)} (h : MapAt w b enc V E) (k : κ) (hk : V k) (v : Value) :
    ∃ o, (Instr.mapUpdate mt (.map (some b)) (enc k) v).run P w = .ok () (setM w b o) ∧ MapAt (setM w b o) b enc V (put E k v) := by
  have hlt := h.lt
  obtain ⟨⟨es, c, hb, he, hst0⟩, hn, hV⟩ := h
  have hf := run_findKey K w k hk he hV
  have hkeys := put_keys E k v hn
  have hoks := put_ok hV hk v
  cases hq : fnd E k 0 with
  | none =>
    rw [hq] at hf
    refine ⟨.map (es.push { key := enc k, val := v, born := c }) (c + 1), ?_, ⟨_, _, setM_same _ hlt, ?_, ?_⟩, hkeys, hoks⟩
    · simp [Instr.mapUpdate, run_underlying hm, MapKept.run_getObj_map hb, K.chk _ k w hk, hf, MapKept.run_setObj_map _ hb, Result.andThen, setM]
    · have e : put E k v = E ++ [(k, v)] := by unfold put; rw [hq]
      rw [e]
      simp [he]
    · rw [Array.toList_push, List.map_append]
      refine ⟨fun n hn => ?_, List.nodup_append.2 ⟨hst0.2, by simp, fun a ha b hb e => ?_⟩⟩
      · rcases List.mem_append.1 hn with hn | hn
        · have := hst0.1 n hn; omega
        · simp at hn; omega
      · simp at hb
        have := hst0.1 a ha
        omega
  | some q =>
    obtain ⟨i, u⟩ := q
    rw [hq] at hf
    obtain ⟨hEi, hil⟩ := fnd_some hq
    have hes : es.toList.length = E.length := by have := congrArg List.length he; simpa using this
    have hi2 : i < es.size := by rw [← Array.length_toList]; omega
    have hke : (es[i]?).map (·.key) = some (enc k) := by
      have := congrArg (fun l => l[i]?) he
      simp only [List.getElem?_map, hEi] at this
      simp at this
      rw [Array.getElem?_eq_getElem hi2] at this ⊢
      simp at this ⊢
      exact this.1
    have hst : (Instr.keyThatStays (enc k) (enc k)).run P w = .ok (enc k) w := by
      unfold Instr.keyThatStays
      rw [Sem.run_ite, if_pos (K.bits k)]
      rfl
    refine ⟨.map (es.modify i fun e => { e with key := enc k, val := v }) c, ?_, ⟨_, _, setM_same _ hlt, ?_, ?_⟩, hkeys, hoks⟩
    · simp [Instr.mapUpdate, run_underlying hm, MapKept.run_getObj_map hb, K.chk _ k w hk, hf, hke, hst, MapKept.run_setObj_map _ hb, Result.andThen, setM]
    · have e : put E k v = E.set i (k, v) := by unfold put; rw [hq]
      rw [e]
      apply List.ext_getElem?
      intro j
      have hj := congrArg (fun l => l[j]?) he
      simp only [List.getElem?_map] at hj
      rw [List.getElem?_map, List.getElem?_map, Array.getElem?_toList, Array.getElem?_modify, List.getElem?_set]
      by_cases ej : i = j
      · subst ej
        rw [if_pos rfl, if_pos rfl, Array.getElem?_eq_getElem hi2]
        simp [hil]
      · rw [if_neg ej, if_neg ej]
        rw [Array.getElem?_toList] at hj
        exact hj
    · have e : (es.modify i fun e => { e with key := enc k, val := v }).toList.map (·.born) = es.toList.map (·.born) := by
        apply List.ext_getElem?
        intro j
        rw [List.getElem?_map, List.getElem?_map, Array.getElem?_toList, Array.getElem?_modify, Array.getElem?_toList]
        by_cases ej : i = j
        · rw [if_pos ej, Option.map_map]; rfl
        · rw [if_neg ej]
      rw [e]
      exact hst0
theorem run_del {kt et mt ty : TypeId} {enc : κ → Value} {V : κ → Prop} (K : KeyOk P kt enc V) (hm : P.underlying mt = some (.map kt et)) {w : World} {b : Nat} {E : List (κ × Value)} (h : MapAt w b enc V E) (k : κ) (hk : V k) :
    ∃ o, (Builtin.delete_ #[mt, kt] ty #[.map (some b), enc k]).run P w = .ok (.tuple #[]) (setM w b o) ∧ MapAt (setM w b o) b enc V (del E k) := by
  have hlt := h.lt
  obtain ⟨⟨es, c, hb, he, hst0⟩, hn, hV⟩ := h
  have hf := run_findKey K w k hk he hV
  have hkeys := del_keys E k hn
  have hoks := del_ok hV k
  cases hq : fnd E k 0 with
  | none =>
    rw [hq] at hf
    refine ⟨.map es c, ?_, ⟨_, _, setM_same _ hlt, ?_, hst0⟩, hkeys, hoks⟩
    · simp [Builtin.delete_, run_underlying hm, MapKept.run_getObj_map hb, K.chk _ k w hk, hf, MapKept.run_setObj_map _ hb, Result.andThen, setM]
    · have e : del E k = E := by unfold del; rw [hq]
      rw [e]
      exact he
  | some q =>
    obtain ⟨i, u⟩ := q
    rw [hq] at hf
    refine ⟨.map (es.eraseIdxIfInBounds i) c, ?_, ⟨_, _, setM_same _ hlt, ?_, ?_⟩, hkeys, hoks⟩
    · simp [Builtin.delete_, run_underlying hm, MapKept.run_getObj_map hb, K.chk _ k w hk, hf, MapKept.run_setObj_map _ hb, Result.andThen, setM]
    · have e : del E k = E.eraseIdx i := by unfold del; rw [hq]
      rw [e, map_erase, ← he, ← map_erase]
      congr 1
      have hes : es.toList.length = E.length := by have := congrArg List.length he; simpa using this
      have hi2 : i < es.size := by rw [← Array.length_toList]; have := (fnd_some hq).2; omega
      simp [Array.eraseIdxIfInBounds, hi2]
    · have hes : es.toList.length = E.length := by have := congrArg List.length he; simpa using this
      have hi2 : i < es.size := by rw [← Array.length_toList]; have := (fnd_some hq).2; omega
      have e : (es.eraseIdxIfInBounds i).toList.map (·.born) = (es.toList.map (·.born)).eraseIdx i := by
        rw [← map_erase]
        congr 1
        simp [Array.eraseIdxIfInBounds, hi2]
      rw [e]
      exact ⟨fun n hn => hst0.1 n (List.mem_of_mem_eraseIdx hn), hst0.2.sublist (List.eraseIdx_sublist _ _)⟩
end
end Go.Proofs.YtldlljobofnmmaaDoor.M
namespace Go.Proofs.YtldlljobofnmmaaDoor
open Go.RowKit
set_option linter.unusedVariables false
set_option linter.unusedSimpArgs false
structure IdK where
  h : List UInt8
  n : Int
  deriving DecidableEq
structure IdK.ok (k : IdK) : Prop where
  l : k.h.length = 32
  lo : -9223372036854775808 ≤ k.n
  hi : k.n ≤ 9223372036854775807
def IdK.c (k : IdK) : List Value := hcs k.h ++ [.int .i64 k.n]
def IdK.v (k : IdK) : Value := .agg k.c.toArray
def zId : IdK := ⟨List.replicate 32 0, 0⟩
theorem zId_ok : zId.ok := ⟨by simp [zId], by simp [zId], by simp [zId]⟩
theorem IdK.len {k : IdK} (h : k.ok) : k.c.length = 33 := by simp [IdK.c, hcs_len, h.l]
theorem IdK.one (k : IdK) : ∀ v ∈ k.c, v.oneCell' = true := by
  intro v hv
  simp only [IdK.c, List.mem_append, List.mem_singleton] at hv
  rcases hv with h | rfl
  · exact hcs_one _ v h
  · rfl
theorem m_sub {xs A B C : List Value} {off n : Nat} (e : xs = A ++ (B ++ C)) (hA : A.length = off) (hB : B.length = n) : xs.toArray.extract off (off + n) = B.toArray := by
  subst e hA hB
  apply Array.toList_inj.1
  simp
theorem m_get {xs A C : List Value} {v : Value} {off : Nat} (e : xs = A ++ (v :: C)) (hA : A.length = off) : xs.toArray[off]? = some v := by
  subst e hA
  simp
section
variable {w : World}
theorem m_agg {t : TypeId} {xs : Array Value} {off n : Nat} {B : Array Value} (hu : (isAgg t).run Tryd.prog w = .ok true w) (hs : (sizeOf t).run Tryd.prog w = .ok n w) (e : xs.extract off (off + n) = B) : (Go.part t xs off).run Tryd.prog w = .ok (.agg B) w := by
  simp only [Go.part, Sem.run_bind, hu, Result.andThen_ok, if_true, hs, Sem.run_pure, e]
theorem m_one {t : TypeId} {xs : Array Value} {off : Nat} {v : Value} (hu : (isAgg t).run Tryd.prog w = .ok false w) (e : xs[off]? = some v) : (Go.part t xs off).run Tryd.prog w = .ok v w := by
  simp only [Go.part, Sem.run_bind, hu, Result.andThen_ok, Bool.false_eq_true, if_false, e, Sem.run_pure]
theorem m_eqF {d : Nat} {xs ys : Array Value} {f : Field} {fs : List Field} {a b : Value} {r r' : Bool} (hn : f.name ≠ "_") (h1 : (Go.part f.type xs f.offset).run Tryd.prog w = .ok a w) (h2 : (Go.part f.type ys f.offset).run Tryd.prog w = .ok b w)
    (h3 : (Op.equalIn d f.type a b).run Tryd.prog w = .ok r w) (h4 : (Op.eqFields d xs ys fs).run Tryd.prog w = .ok r' w) : (Op.eqFields d xs ys (f :: fs)).run Tryd.prog w = .ok (r && r') w := by
  unfold Op.eqFields
  rw [if_pos hn]
  simp only [Sem.run_bind, h1, h2, h3, Result.andThen_ok]
  cases r with
  | false => simp
  | true => simp [h4]
end
theorem m_sz {t n : Nat} (h : (Tryd.prog.info? t).map (·.size) = some n) (w : World) : (sizeOf t).run Tryd.prog w = .ok n w := by
  cases hq : Tryd.prog.info? t with
  | none => rw [hq] at h; simp at h
  | some i =>
    rw [hq] at h
    simp at h
    simp [sizeOf, typeInfo, hq, h]
theorem agHash (w : World) : (isAgg 36).run Tryd.prog w = .ok true w := by simp [isAgg, run_underlying Tryd.underlying36]
theorem szHash (w : World) : (sizeOf 36).run Tryd.prog w = .ok 32 w := m_sz (by kernel_rfl) w
theorem agInt (w : World) : (isAgg 3).run Tryd.prog w = .ok false w := by simp [isAgg, run_underlying Tryd.underlying3]
theorem flId : (Tryd.prog.fieldsOf 38).toList = [⟨"Hash", 36, 0, false, "", "", 0⟩, ⟨"N", 3, 32, false, "", "", 32⟩] := by simp [Program.fieldsOf, Tryd.underlying38]
theorem m_eqHash (d : Nat) (a b : List UInt8) (ha : a.length = 32) (hb : b.length = 32) (w : World) : (Op.equalIn (d + 2) 36 (.agg (hcs a).toArray) (.agg (hcs b).toArray)).run Tryd.prog w = .ok (decide (a = b)) w := by
  rw [hcs_arr, hcs_arr]
  obtain ⟨i, hi⟩ : ∃ i, Tryd.prog.info? 5 = some i := by
    cases h : Tryd.prog.info? 5 with
    | none => have : (Tryd.prog.info? 5).isSome = true := by kernel_rfl
              rw [h] at this; cases this
    | some i => exact ⟨i, rfl⟩
  exact eq_bytes d Tryd.underlying36 hi (by kernel_rfl) Tryd.underlying5 a b ha hb w
theorem eqId (d : Nat) (a b : IdK) (ha : a.ok) (hb : b.ok) (w : World) : (Op.equalIn (d + 3) 38 a.v b.v).run Tryd.prog w = .ok (decide (a = b)) w := by
  unfold IdK.v
  rw [run_equalIn_agg w (d + 2) 38 _ _ (by simp [Program.fieldsOf, Tryd.underlying38]) (by kernel_rfl), flId]
  have e : decide (a = b) = (decide (a.h = b.h) && (a.n == b.n && true)) := by
    rw [Bool.eq_iff_iff]
    obtain ⟨h1, n1⟩ := a
    obtain ⟨h2, n2⟩ := b
    simp
  rw [e]
  refine m_eqF (by decide) (m_agg (agHash w) (szHash w) (m_sub (A := []) (B := hcs a.h) (C := [.int .i64 a.n]) rfl rfl (by rw [hcs_len, ha.l]))) (m_agg (agHash w) (szHash w) (m_sub (A := []) (B := hcs b.h) (C := [.int .i64 b.n]) rfl rfl (by rw [hcs_len, hb.l]))) (m_eqHash d _ _ ha.l hb.l w) ?_
  refine m_eqF (by decide) (m_one (agInt w) (m_get (A := hcs a.h) (C := []) rfl (by simp [hcs_len, ha.l]))) (m_one (agInt w) (m_get (A := hcs b.h) (C := []) rfl (by simp [hcs_len, hb.l]))) (run_equalIn_int w (d + 1) 3 .i64 .i64 _ _ Tryd.underlying3) ?_
  simp [Op.eqFields]
theorem same_bits : ∀ (l : List Value), (∀ v ∈ l, ∃ q n, v = .int q n) → ((l.zip l).all fun x => Instr.sameBits 9999 x.1 x.2) = true := by
  intro l hl
  rw [List.all_eq_true]
  intro x hx
  obtain ⟨i, hi⟩ := List.getElem?_of_mem hx
  rw [List.getElem?_zip_eq_some] at hi
  have e : x.1 = x.2 := Option.some.inj (hi.1.symm.trans hi.2)
  obtain ⟨q, n, hv⟩ := hl x.1 (List.mem_of_getElem? hi.1)
  rw [← e, hv]
  simp [Instr.sameBits]
theorem hcs_int (h : List UInt8) : ∀ v ∈ hcs h, ∃ n : Nat, n < 256 ∧ v = .int .u8 (n : Int) := by
  intro v hv
  simp only [hcs, bs, List.mem_map, List.mem_toArray, Array.mem_toList_iff] at hv
  obtain ⟨b, _, rfl⟩ := hv
  exact ⟨b.toNat, b.toNat_lt, rfl⟩
theorem id_bits (k : IdK) : Instr.sameBits 10000 k.v k.v = true := by
  unfold IdK.v
  rw [Instr.sameBits]
  simp only [BEq.rfl, Bool.true_and]
  refine same_bits _ (fun v hv => ?_)
  simp only [IdK.c, List.mem_append, List.mem_singleton] at hv
  rcases hv with h | rfl
  · obtain ⟨n, _, e⟩ := hcs_int _ v h
    exact ⟨_, _, e⟩
  · exact ⟨_, _, rfl⟩
theorem mapM_some {α β : Type} (f : α → Option β) : ∀ (l : List α), (∀ x ∈ l, ∃ y, f x = some y) → ∃ ys, l.mapM f = some ys
  | [], _ => ⟨[], rfl⟩
  | a :: l, h => by
    obtain ⟨y, hy⟩ := h a (by simp)
    obtain ⟨ys, hys⟩ := mapM_some f l (fun x hx => h x (List.mem_cons_of_mem _ hx))
    exact ⟨y :: ys, by simp [List.mapM_cons, hy, hys]⟩
theorem hash_lits (D : Nat) (h : List UInt8) (hl : h.length = 32) : ∃ la, Tryd.prog.keyLits (D + 2) 36 (hcs h) = some la := by
  have hc : Tryd.prog.cellsOf 36 = 32 := by kernel_rfl
  have hc5 : Tryd.prog.cellsOf 5 = 1 := by kernel_rfl
  unfold Program.keyLits
  simp only [Tryd.underlying36]
  rw [if_pos (by rw [hcs_len, hl, hc])]
  obtain ⟨ys, hys⟩ := mapM_some (fun i => Tryd.prog.keyLits (D + 1) 5 (((hcs h).drop (i * Tryd.prog.cellsOf 5)).take (Tryd.prog.cellsOf 5))) (List.range 32) (fun i hi => by
    have hi' := List.mem_range.1 hi
    have hlen : i < (hcs h).length := by rw [hcs_len, hl]; exact hi'
    rw [hc5, Nat.mul_one, List.drop_eq_getElem_cons hlen, List.take_succ_cons, List.take_zero]
    obtain ⟨n, hn, e⟩ := hcs_int h _ (List.getElem_mem hlen)
    rw [e]
    unfold Program.keyLits
    simp only [Tryd.underlying5]
    rw [if_pos (by simp [Lit.wf, IntKind.min, IntKind.max, IntKind.bits, IntKind.signed]; omega)]
    exact ⟨_, rfl⟩)
  rw [hys]
  exact ⟨_, rfl⟩
theorem id_lits (D : Nat) (k : IdK) (hk : k.ok) : ∃ la, Tryd.prog.keyLits (D + 3) 38 k.c = some la := by
  have hc : Tryd.prog.cellsOf 38 = 33 := by kernel_rfl
  have hch : Tryd.prog.cellsOf 36 = 32 := by kernel_rfl
  have hc3 : Tryd.prog.cellsOf 3 = 1 := by kernel_rfl
  obtain ⟨la, hla⟩ := hash_lits D k.h hk.l
  have e1 : (k.c.drop 0).take 32 = hcs k.h := by
    rw [List.drop_zero, IdK.c, ← hk.l, ← hcs_len, List.take_left]
  have e2 : (k.c.drop 32).take 1 = [.int .i64 k.n] := by
    have hl : (hcs k.h).length = 32 := by rw [hcs_len, hk.l]
    rw [IdK.c, ← hl, List.drop_left]
    rfl
  have e3 : Tryd.prog.keyLits (D + 2) 3 [.int .i64 k.n] = some [.int .i64 k.n] := by
    unfold Program.keyLits
    simp only [Tryd.underlying3]
    have := hk.lo
    have := hk.hi
    rw [if_pos (by simp [Lit.wf, IntKind.min, IntKind.max, IntKind.bits, IntKind.signed]; omega)]
  unfold Program.keyLits
  simp only [Tryd.underlying38]
  rw [if_pos ⟨by rw [IdK.len hk, hc], by simp⟩]
  rw [List.drop_zero] at e1
  simp [hch, hc3, e1, e2, hla, e3]
theorem id_chk (b : Bool) (k : IdK) (w : World) (hk : k.ok) : (Instr.checkKey b 10000 38 k.v).run Tryd.prog w = .ok () w := by
  obtain ⟨la, h⟩ := id_lits 0 k hk
  have hf : k.v.formed Tryd.prog 38 = true := by
    unfold IdK.v Value.formed
    simp only [Tryd.underlying38]
    rw [List.size_toArray, IdK.len hk]
    kernel_rfl
  exact run_checkKey_deep b 9990 10 38 (by kernel_rfl) w 3 k.v la hf (by simpa [IdK.v, Value.cells] using h)
theorem idKey : M.KeyOk Tryd.prog 38 IdK.v IdK.ok := {
  chk := fun b k w hk => id_chk b k w hk
  eq := fun a b w ha hb => eqId 9997 a b ha hb w
  und := ⟨_, Tryd.underlying38, .inl fun a b => rfl⟩
  bits := id_bits }
section
variable {P : Program} {w w2 : World} {a : Act} {o : Oper}
theorem exec_move {x : Operand} {v : Value} (ho : o.op = .move x) (hp : a.eval x = v) : (execOp a.eval o).run P w = .ok (.value v) w := by
  unfold execOp; simp only [ho, hp, Sem.run_pure]
theorem exec_assign {x : Operand} {v : Value} (ho : o.op = .assign x) (hp : a.eval x = v) : (execOp a.eval o).run P w = .ok (.value v) w := by
  unfold execOp; simp only [ho, hp, Sem.run_pure]
theorem exec_nilCheck {x : Operand} {p : Addr} (ho : o.op = .nilCheck x) (hp : a.eval x = .pointer (some p)) : (execOp a.eval o).run P w = .ok (.value (.pointer (some p))) w := by
  unfold execOp; simp only [ho, hp, Sem.run_pure]
theorem exec_fieldAt {s i : Nat} {x : Operand} {u v : Value} (ho : o.op = .fieldAddr s x i) (hp : a.eval x = u) (hl : (Instr.fieldAt s u i).run P w = .ok v w) : (execOp a.eval o).run P w = .ok (.value v) w := by
  unfold execOp; simp only [ho, hp, Sem.run_bind, hl, Result.andThen_ok, Sem.run_pure]
theorem exec_load {t : TypeId} {x : Operand} {u v : Value} (ho : o.op = .load t x) (hp : a.eval x = u) (hl : (Instr.loadAt t u).run P w = .ok v w) : (execOp a.eval o).run P w = .ok (.value v) w := by
  unfold execOp; simp only [ho, hp, Sem.run_bind, hl, Result.andThen_ok, Sem.run_pure]
theorem exec_lookup {t : TypeId} {m x : Operand} {c : Bool} {mv xv v : Value} (ho : o.op = .lookup t m x c) (hm : a.eval m = mv) (hx : a.eval x = xv) (hl : (Instr.lookup t mv xv c).run P w = .ok v w) : (execOp a.eval o).run P w = .ok (.value v) w := by
  unfold execOp; simp only [ho, hm, hx, Sem.run_bind, hl, Result.andThen_ok, Sem.run_pure]
theorem exec_extract {x : Operand} {i : Nat} {vs : Array Value} {v : Value} (ho : o.op = .extract x i) (hx : a.eval x = .tuple vs) (hv : vs[i]? = some v) : (execOp a.eval o).run P w = .ok (.value v) w := by
  unfold execOp; simp only [ho, hx, Instr.extract, hv, Sem.run_bind, Result.andThen_ok, Sem.run_pure]
theorem exec_build0 {t : TypeId} {v : Value} (ho : o.op = .build t #[]) (hl : (Instr.build t #[]).run P w = .ok v w) : (execOp a.eval o).run P w = .ok (.value v) w := by
  unfold execOp; simp only [ho, List.map_toArray, List.map_nil, Sem.run_bind, hl, Result.andThen_ok, Sem.run_pure]
theorem exec_binOp {b : BinOp} {t t2 : TypeId} {x y : Operand} {xv yv v : Value} (ho : o.op = .binOp b t x y t2) (hx : a.eval x = xv) (hy : a.eval y = yv) (hg : (eqGuard b t x y xv yv).run P w = .ok () w) (hl : (binOp b t xv yv).run P w = .ok v w) : (execOp a.eval o).run P w = .ok (.value v) w := by
  unfold execOp; simp only [ho, hx, hy, Sem.run_bind, hg, hl, Result.andThen_ok, Sem.run_pure]
theorem exec_len {x : Operand} {ts : Array TypeId} {xv v : Value} (ho : o.op = .call { callee := .builtin .len, args := #[x], argTypes := ts }) (hx : a.eval x = xv) (hl : (Builtin.len_ ts o.type #[xv]).run P w = .ok v w) : (execOp a.eval o).run P w = .ok (.value v) w := by
  unfold execOp
  simp only [ho, resolve, invoke, builtin, List.map_toArray, List.map_cons, List.map_nil, hx, Sem.run_bind, Sem.run_pure, hl, Result.andThen_ok]
theorem exec_delete {x y : Operand} {ts : Array TypeId} {xv yv : Value} (ho : o.op = .call { callee := .builtin .delete, args := #[x, y], argTypes := ts }) (hx : a.eval x = xv) (hy : a.eval y = yv) (hl : (Builtin.delete_ ts o.type #[xv, yv]).run P w = .ok (.tuple #[]) w2) : (execOp a.eval o).run P w = .ok (.value (.tuple #[])) w2 := by
  unfold execOp
  simp only [ho, resolve, invoke, builtin, List.map_toArray, List.map_cons, List.map_nil, hx, hy, Sem.run_bind, Sem.run_pure, hl, Result.andThen_ok]
theorem exec_alloc {t : TypeId} {v : Value} (ho : o.op = .alloc t) (hl : (Instr.alloc t true (.tuple #[])).run P w = .ok v w2) : (execOp a.eval o).run P w = .ok (.value v) w2 := by
  unfold execOp; simp only [ho, Sem.run_bind, hl, Result.andThen_ok, Sem.run_pure]
theorem exec_makeMap {t : TypeId} {v : Value} (ho : o.op = .makeMap t none) (hl : (Instr.makeMap t none).run P w = .ok v w2) : (execOp a.eval o).run P w = .ok (.value v) w2 := by
  unfold execOp; simp only [ho, Option.map_none, Sem.run_bind, hl, Result.andThen_ok, Sem.run_pure]
theorem exec_store {t : TypeId} {x y : Operand} {xv yv : Value} (ho : o.op = .store t x y) (hx : a.eval x = xv) (hy : a.eval y = yv) (hl : (Instr.storeAt t xv yv).run P w = .ok () w2) : (execOp a.eval o).run P w = .ok .skip w2 := by
  unfold execOp; simp only [ho, hx, hy, Sem.run_bind, hl, Result.andThen_ok, Sem.run_pure]
theorem exec_mapUpdate {t : TypeId} {m x y : Operand} {mv xv yv : Value} (ho : o.op = .mapUpdate t m x y) (hm : a.eval m = mv) (hx : a.eval x = xv) (hy : a.eval y = yv) (hl : (Instr.mapUpdate t mv xv yv).run P w = .ok () w2) : (execOp a.eval o).run P w = .ok .skip w2 := by
  unfold execOp; simp only [ho, hm, hx, hy, Sem.run_bind, hl, Result.andThen_ok, Sem.run_pure]
variable {ops : Array Oper} {K : Act → World → Prop} {Q : Exit → Act → World → Prop} {E : Prop}
end
theorem put_same (a : Act) (d : Nat) (v : Value) (h : d < a.tmps.size) : (a.put (some d) v).tmps.getD d undef = v := by
  simp [Act.put, Array.getD_eq_getD_getElem?, h]
theorem put_ne (a : Act) (d e : Nat) (v : Value) (h : d ≠ e) : (a.put (some d) v).tmps.getD e undef = a.tmps.getD e undef := by
  simp [Act.put, Array.getD_eq_getD_getElem?, Array.getElem?_setIfInBounds, h]
theorem put_size (a : Act) (d : Option Nat) (v : Value) : (a.put d v).tmps.size = a.tmps.size := by
  cases d <;> simp [Act.put]
theorem range_box (w : World) (cs : List Value) (t : TypeId) : (w.alloc (.cells cs.toArray t)).rangeAt w.heap.size 0 cs := fun j v hv => by
  rw [Nat.zero_add, cell_of_row _ _ j _ _ _ (heap_alloc_new _ _)]
  simpa using hv
theorem szId : (Tryd.prog.info? 38).map (·.size) = some 33 := by kernel_rfl
structure Tch (O : Nat → Prop) (w w' : World) : Prop where
  os : w'.os = w.os
  tape : w'.tape = w.tape
  output : w'.output = w.output
  size : w.heap.size ≤ w'.heap.size
  block : ∀ k, k < w.heap.size → ¬ O k → w'.heap[k]? = w.heap[k]?
theorem Tch.refl (O : Nat → Prop) (w : World) : Tch O w w := ⟨rfl, rfl, rfl, Nat.le_refl _, fun _ _ _ => rfl⟩
theorem Tch.trans {O : Nat → Prop} {a b c : World} (h : Tch O a b) (k : Tch O b c) : Tch O a c :=
  ⟨k.os.trans h.os, k.tape.trans h.tape, k.output.trans h.output, Nat.le_trans h.size k.size, fun i hi ho => (k.block i (Nat.lt_of_lt_of_le hi h.size) ho).trans (h.block i hi ho)⟩
theorem Tch.trans' {O O' : Nat → Prop} {a b c : World} (h : Tch O a b) (k : Tch O' b c) (ho : ∀ i, i < a.heap.size → O' i → O i) : Tch O a c :=
  ⟨k.os.trans h.os, k.tape.trans h.tape, k.output.trans h.output, Nat.le_trans h.size k.size, fun i hi hn => (k.block i (Nat.lt_of_lt_of_le hi h.size) (fun q => hn (ho i hi q))).trans (h.block i hi hn)⟩
theorem Tch.of_below {B : Nat} {O : Nat → Prop} {w w' : World} (h : Below B w w') (ho : ∀ k, k < w.heap.size → B ≤ k → O k) : Tch O w w' :=
  ⟨h.os, h.tape, h.output, h.size, fun k hk hn => h.block k (Nat.lt_of_not_le (fun q => hn (ho k hk q)))⟩
theorem Tch.below {O : Nat → Prop} {w w' : World} (h : Tch O w w') {B : Nat} (hB : B ≤ w.heap.size) (ho : ∀ k, O k → B ≤ k) : Below B w w' :=
  ⟨h.os, h.tape, h.output, h.size, fun k hk => h.block k (by omega) (fun q => by have := ho k q; omega)⟩
theorem Tch.mono {O O' : Nat → Prop} {w w' : World} (h : Tch O w w') (ho : ∀ k, k < w.heap.size → O k → O' k) : Tch O' w w' :=
  ⟨h.os, h.tape, h.output, h.size, fun k hk hn => h.block k hk (fun q => hn (ho k hk q))⟩
theorem Tch.drew {O : Nat → Prop} {a w : World} (h : Tch O a w) : Tch O a w.drew := ⟨h.os, h.tape, h.output, h.size, h.block⟩
theorem Tch.alloc {O : Nat → Prop} {a w : World} (h : Tch O a w) (o : Obj) : Tch O a (w.alloc o) :=
  h.trans ⟨rfl, rfl, rfl, by simp, fun k hk _ => Below.heap_alloc _ _ _ hk⟩
theorem Tch.setM {O : Nat → Prop} {a w : World} (h : Tch O a w) {b : Nat} (hb : a.heap.size ≤ b ∨ O b) (o : Obj) : Tch O a (M.setM w b o) :=
  ⟨h.os, h.tape, h.output, by rw [M.setM_size]; exact h.size, fun k hk hn => by
    rw [M.setM_other o (fun e => by subst e; rcases hb with q | q; · omega
                                    · exact hn q)]
    exact h.block k hk hn⟩
def IdAt (w : World) (b : Nat) (k : IdK) : Prop := w.heap[b]? = some (.cells k.c.toArray 38 (0, 0))
theorem cells_range {w : World} {b : Nat} {cs : List Value} {t : TypeId} {z : Nat × Nat} (h : w.heap[b]? = some (.cells cs.toArray t z)) : w.rangeAt b 0 cs := fun j v hv => by
  rw [Nat.zero_add, cell_of_row _ _ j _ _ _ h]
  simpa using hv
theorem load_id {w : World} {b : Nat} {k : IdK} (hk : k.ok) (h : IdAt w b k) : (Instr.loadAt 38 (.pointer (some ⟨b, 0, none⟩))).run Tryd.prog w = .ok k.v w :=
  run_loadAt_mid (P := Tryd.prog) w b 0 38 k.c _ (cells_range h) Tryd.underlying38 rfl (by rw [IdK.len hk]; exact szId)
theorem wpList_val {P : Program} {ops : Array Oper} {rest : List Oper} {o : Oper} {a : Act} {w : World} {Q : Exit → Act → World → Prop} {v : Value} (hw : Region.wanted o (yielded ops a.tmps) = true) (hr : (execOp a.eval o).run P w = .ok (.value v) w) (h : wpList P ops Q rest (a.put o.dst v) w) : wpList P ops Q (o :: rest) a w :=
  wpList_step fun K hK => by
    rw [if_pos hw]
    unfold Oper.wp
    rw [hr]
    exact hK _ _ h
theorem wpList_skip {P : Program} {ops : Array Oper} {rest : List Oper} {o : Oper} {a : Act} {w w2 : World} {Q : Exit → Act → World → Prop} (hw : Region.wanted o (yielded ops a.tmps) = true) (hd : o.dst = none) (hr : (execOp a.eval o).run P w = .ok .skip w2) (h : wpList P ops Q rest a w2) : wpList P ops Q (o :: rest) a w :=
  wpList_step fun K hK => by
    rw [if_pos hw]
    unfold Oper.wp
    rw [hr]
    show K (a.put o.dst undef) w2
    rw [hd]
    exact hK _ _ h
theorem wpList_run {P : Program} {ops : Array Oper} {rest : List Oper} {o : Oper} {a : Act} {w w2 : World} {Q : Exit → Act → World → Prop} {v : Value} (hw : Region.wanted o (yielded ops a.tmps) = true) (hr : (execOp a.eval o).run P w = .ok (.value v) w2) (h : wpList P ops Q rest (a.put o.dst v) w2) : wpList P ops Q (o :: rest) a w :=
  wpList_step fun K hK => by
    rw [if_pos hw]
    unfold Oper.wp
    rw [hr]
    exact hK _ _ h
theorem exec_build {P : Program} {w : World} {a : Act} {o : Oper} {t : TypeId} {parts : Array (Nat × Operand)} {pv : Array (Nat × Value)} {v : Value} (ho : o.op = .build t parts) (hp : (parts.map fun (i, x) => (i, a.eval x)) = pv) (hl : (Instr.build t pv).run P w = .ok v w) : (execOp a.eval o).run P w = .ok (.value v) w := by
  unfold execOp; simp only [ho, hp, Sem.run_bind, hl, Result.andThen_ok, Sem.run_pure]
section
variable {P : Program} {w w2 : World} {a : Act} {o : Oper}
theorem exec_buildSlice {t n : Nat} {x : Operand} {xv v : Value} (ho : o.op = .buildSlice t n #[(0, x)]) (hx : a.eval x = xv) (hl : (Instr.buildSlice t n #[(0, xv)]).run P w = .ok v w2) : (execOp a.eval o).run P w = .ok (.value v) w2 := by
  unfold execOp; simp only [ho, List.map_toArray, List.map_cons, List.map_nil, hx, Sem.run_bind, hl, Result.andThen_ok, Sem.run_pure]
theorem exec_append {x y : Operand} {ts : Array TypeId} {xv yv v : Value} (ho : o.op = .call { callee := .builtin .append, args := #[x, y], argTypes := ts }) (hx : a.eval x = xv) (hy : a.eval y = yv) (hl : (Builtin.append_ ts o.type #[xv, yv]).run P w = .ok v w2) : (execOp a.eval o).run P w = .ok (.value v) w2 := by
  unfold execOp
  simp only [ho, resolve, invoke, builtin, List.map_toArray, List.map_cons, List.map_nil, hx, hy, Sem.run_bind, Sem.run_pure, hl, Result.andThen_ok]
theorem exec_makeSlice {t : TypeId} {x y : Operand} {xv yv v : Value} (ho : o.op = .makeSlice t x y) (hx : a.eval x = xv) (hy : a.eval y = yv) (hl : (Instr.makeSlice t xv yv).run P w = .ok v w2) : (execOp a.eval o).run P w = .ok (.value v) w2 := by
  unfold execOp; simp only [ho, hx, hy, Sem.run_bind, hl, Result.andThen_ok, Sem.run_pure]
theorem exec_range {t : TypeId} {x : Operand} {xv v : Value} (ho : o.op = .range t x) (hx : a.eval x = xv) (hl : (Instr.range t xv).run P w = .ok v w2) : (execOp a.eval o).run P w = .ok (.value v) w2 := by
  unfold execOp; simp only [ho, hx, Sem.run_bind, hl, Result.andThen_ok, Sem.run_pure]
theorem exec_next {x : Operand} {b : Bool} {xv v : Value} (ho : o.op = .next x b) (hx : a.eval x = xv) (hl : (Instr.next xv b o.type).run P w = .ok v w2) : (execOp a.eval o).run P w = .ok (.value v) w2 := by
  unfold execOp; simp only [ho, hx, Sem.run_bind, hl, Result.andThen_ok, Sem.run_pure]
theorem exec_entry {x : Operand} {xv v : Value} (ho : o.op = .entry x) (hx : a.eval x = xv) (hl : (Instr.entry xv).run P w = .ok v w2) : (execOp a.eval o).run P w = .ok (.value v) w2 := by
  unfold execOp; simp only [ho, hx, Sem.run_bind, hl, Result.andThen_ok, Sem.run_pure]
theorem exec_slice {t : TypeId} {x : Operand} {lo hi mx : Option Operand} {xv v : Value} {lov hiv mxv : Option Value} (ho : o.op = .slice t x lo hi mx) (hx : a.eval x = xv) (h1 : lo.map a.eval = lov) (h2 : hi.map a.eval = hiv) (h3 : mx.map a.eval = mxv) (hl : (Instr.sliceAt t xv lov hiv mxv).run P w = .ok v w) : (execOp a.eval o).run P w = .ok (.value v) w := by
  unfold execOp; simp only [ho, hx, h1, h2, h3, Sem.run_bind, hl, Result.andThen_ok, Sem.run_pure]
theorem exec_indexAt {t : TypeId} {x y : Operand} {xv yv v : Value} (ho : o.op = .indexAddr t x y) (hx : a.eval x = xv) (hy : a.eval y = yv) (hl : (Instr.indexAt t xv yv).run P w = .ok v w) : (execOp a.eval o).run P w = .ok (.value v) w := by
  unfold execOp; simp only [ho, hx, hy, Sem.run_bind, hl, Result.andThen_ok, Sem.run_pure]
end
theorem rangeAt_keep {w w' : World} {b o : Nat} {cs : List Value} (h : w.rangeAt b o cs) (e : w'.heap[b]? = w.heap[b]?) : w'.rangeAt b o cs := fun j v hj => (World.cell?_of_block (a := ⟨b, o + j, none⟩) e).trans (h j v hj)
theorem cell_new (w : World) (l : List Value) (t : TypeId) (j : Nat) (v : Value) (h : l[j]? = some v) : (w.alloc (.cells l.toArray t)).cell? ⟨w.heap.size, j, none⟩ = some v := by
  rw [cell_of_row _ w.heap.size j _ _ _ (heap_alloc_new w _)]
  simpa using h
theorem app_at {P : Program} (w : World) (base : Nat) (t ty e : TypeId) (i : TypeInfo) (z : Value) (size bytes : Nat) (ht : P.underlying t = some (.slice e)) (hi : P.info? e = some i) (hz : i.zero = some z)
    (hsize : i.size = size) (hby : i.bytes = bytes) (hzs : z.cells.size = size) (hsz : 0 < size) (v : Value) (n : Nat) (xs : List Value) (hown : w.ownsRow base e size v n xs)
    (a : Addr) (m c : Nat) (news : List Value) (hl : news.length = m * size) (hnews : ∀ j u, news[j]? = some u → w.cell? (a.add j) = some u) (h1 : ∀ u ∈ news, u.oneCell' = true)
    (h63 : n + m ≤ maxLen) (hbytes : ((n + m) + (n + m) / 4 + 192) * bytes ≤ 281474976710656) (hbase : base ≤ w.heap.size) :
    ∃ v' w', (Builtin.append_ #[t, t] ty #[v, .slice (some a) m c]).run P w = .ok v' w' ∧ w'.ownsRow base e size v' (n + m) (xs ++ news) ∧ w.grownBy w' v.ownBlock ∧ (v'.ownBlock = v.ownBlock ∨ v'.ownBlock = some w.heap.size) := by
  obtain ⟨v', w', hr, h2, h3, h4⟩ := run_append_own_wide (P := P) w base t ty e i z size bytes ht hi hz hsize hby hzs hsz v n xs hown a m c news hl hnews h1 h63 hbytes hbase
  refine ⟨v', w', hr, h2, h3, ?_⟩
  have hx := hown.1
  subst hsize
  subst hby
  have hbig : n + m ≤ 9223372036854775807 := by simp only [maxLen] at h63; omega
  rcases hown.2 with ⟨rfl, rfl⟩ | ⟨g, cap, cur, rfl, hbg, hg, hnc, hcm, hcs, htake⟩
  · by_cases hm : m = 0
    · left; rw [(h4.2 ⟨rfl, hm⟩)]
    · have hk := run_append_nil (P := P) w t ty e i z ht hi hz a m c news hl hnews (by omega) (by omega) (Nat.le_trans (Nat.mul_le_mul_right _ (by omega)) hbytes)
      rw [hr] at hk
      simp only [Result.ok.injEq] at hk
      rw [hk.1]
      exact .inr rfl
  · by_cases hroom : n + m ≤ cap
    · have hk := run_append_room (P := P) w t ty e i ht hi g n cap cur hg a m c news hl hnews h1 hroom (by rw [hl, hcs, ← Nat.add_mul]; exact Nat.mul_le_mul_right _ hroom)
      rw [hr] at hk
      simp only [Result.ok.injEq] at hk
      rw [hk.1]
      exact .inl rfl
    · have hk := run_append_grow (P := P) w t ty e i z ht hi hz ⟨g, 0, none⟩ n cap xs hx (hown.cells (g := g) rfl) a m c news hl hnews (by omega) (by omega) (growslice_fits_wide (by omega) hbytes)
      rw [hr] at hk
      simp only [Result.ok.injEq] at hk
      rw [hk.1]
      exact .inr rfl
theorem take_seg {α : Type} {cur FA y FB x : List α} {N o : Nat} (h : cur.take N = FA ++ y ++ FB) (hN : N = FA.length + y.length + FB.length) (ho : FA.length = o) (hx : x.length = y.length) : (cur.take o ++ x ++ cur.drop (o + x.length)).take N = FA ++ x ++ FB := by
  obtain ⟨R, hR⟩ : ∃ R, cur = FA ++ y ++ FB ++ R := ⟨cur.drop N, by rw [← h, List.take_append_drop]⟩
  subst hR
  have e1 : (FA ++ y ++ FB ++ R).take o = FA := by rw [← ho]; simp [List.append_assoc]
  have e2 : (FA ++ y ++ FB ++ R).drop (o + x.length) = FB ++ R := by
    rw [← ho, hx, ← List.length_append, List.append_assoc (FA ++ y), List.drop_left]
  rw [e1, e2, hN]
  rw [show FA ++ x ++ (FB ++ R) = (FA ++ x ++ FB) ++ R by simp]
  rw [show FA.length + y.length + FB.length = (FA ++ x ++ FB).length by simp [hx]; omega]
  exact List.take_left
theorem setRow_tch (w : World) (g : Nat) (cs : Array Value) : Tch (fun j => some g = some j) w (w.setRow g cs) :=
  ⟨rfl, rfl, rfl, by simp [World.setRow], fun k hk hn => by
    have hne : g ≠ k := fun e => hn (by rw [e])
    simp [World.setRow, Array.getElem?_modify, hne]⟩
theorem grown_below {w w' : World} (h : w.grownBy w' none) : Below w.heap.size w w' := ⟨h.os, h.tape, h.output, h.size, fun k hk => h.block k hk (by simp)⟩
theorem pk {a a' : Act} {i j : Nat} {u v : Value} (e : a' = a.put (some j) v) (h : a.tmps.getD i undef = u) (hij : i ≠ j := by decide) : a'.tmps.getD i undef = u := by
  rw [e, put_ne _ _ _ _ (Ne.symm hij)]; exact h
theorem pz {a a' : Act} {j n : Nat} {v : Value} (e : a' = a.put (some j) v) (h : a.tmps.size = n) : a'.tmps.size = n := by
  rw [e, put_size]; exact h
theorem pq {a a' : Act} {j n : Nat} {v : Value} (e : a' = a.put (some j) v) (h : a.tmps.size = n) (hj : j < n := by decide) : a'.tmps.getD j undef = v := by
  rw [e]; exact put_same _ _ _ (by omega)
theorem tk {P : Program} {md : Region.Mode} {ops : Array Oper} {Q : Exit → Act → World → Prop} {S : World → Prop} {fuel : Nat} {listed : Array Bool} {a : Act} {w : World} (i : Nat) (oi : Oper) (v : Value) {d : Nat} (hy : Region.wanted oi (yielded ops a.tmps) = true) (he : ∀ w1, S w1 → (execOp a.eval oi).run P w1 = .ok (.value v) w1) (hS : S w)
    (h : ∀ a', a' = a.put (some d) v → wpAnyH P md ops Q S fuel (listed.setIfInBounds i true) a' w) (hd : oi.dst = some d := by rfl) (hi : ops[i]? = some oi := by rfl) (hs : Region.noSelect ops = true := by kernel_rfl) (hf : Region.free md ops listed i = true := by kernel_rfl) (hr : (Region.ready md ops listed).contains i = true := by kernel_rfl)
    (hQ : ∀ c a w, Q (.panic c) (a.put oi.dst v) w → Q (.panic c) a w := by exact fun _ _ _ h => h) : wpAnyH P md ops Q S (fuel + 1) listed a w :=
  wpAnyH_take hi hs hf hr hQ (Or.inl ⟨hy, he⟩) hS (by rw [hd]; exact h _ rfl)
section
variable {P : Program} {ops : Array Oper} {rest : List Oper} {o : Oper} {a : Act} {w w2 : World} {Q : Exit → Act → World → Prop}
theorem qk {v : Value} {d : Nat} (hw : Region.wanted o (yielded ops a.tmps) = true) (hr : (execOp a.eval o).run P w = .ok (.value v) w2) (h : ∀ a', a' = a.put (some d) v → wpList P ops Q rest a' w2) (hd : o.dst = some d := by rfl) : wpList P ops Q (o :: rest) a w :=
  wpList_step fun K hK => by
    rw [if_pos hw]
    unfold Oper.wp
    rw [hr]
    exact hK _ _ (by rw [hd]; exact h _ rfl)
theorem qs (hw : Region.wanted o (yielded ops a.tmps) = true) (hr : (execOp a.eval o).run P w = .ok .skip w2) (h : wpList P ops Q rest a w2) (hd : o.dst = none := by rfl) : wpList P ops Q (o :: rest) a w :=
  wpList_step fun K hK => by
    rw [if_pos hw]
    unfold Oper.wp
    rw [hr]
    exact hK _ _ (by rw [hd]; exact h)
end
section
variable {P : Program} {ops : Array Oper} {rest : List Oper} {o : Oper} {a : Act} {w w2 : World} {Q : Exit → Act → World → Prop}
theorem qn {d : Nat} (hw : Region.wanted o (yielded ops a.tmps) = false) (h : ∀ a', a' = a.put (some d) undef → wpList P ops Q rest a' w) (hd : o.dst = some d := by rfl) : wpList P ops Q (o :: rest) a w :=
  wpList_step fun K hK => by
    rw [if_neg (by rw [hw]; decide), hd]
    exact hK _ _ (h _ rfl)
theorem qc {F : Nat} {vs : Array Value} {R : Ending → World → Prop} {d : Nat} (hw : Region.wanted o (yielded ops a.tmps) = true) (hr : (execOp a.eval o).run P w = .ok (.enter F vs) w) (hC : Calls P F vs w R) (h : ∀ e w', R e w' → ∃ v, e = .returned v ∧ ∀ a', a' = a.put (some d) v → wpList P ops Q rest a' w') (hd : o.dst = some d := by rfl) : wpList P ops Q (o :: rest) a w :=
  wpList_step fun K hK => by
    rw [if_pos hw]
    unfold Oper.wp
    rw [hr, Oper.upon_enter]
    refine hC.mono ?_
    intro e w' hp
    obtain ⟨v, rfl, hh⟩ := h e w' hp
    exact hK _ _ (by rw [hd]; exact hh _ rfl)
end
/- Steps of a list of operations: what kind of operation it is comes first, so that one that does not fit fails at once. -/
section
variable {P : Program} {ops : Array Oper} {rest : List Oper} {o : Oper} {a : Act} {w w2 : World} {Q : Exit → Act → World → Prop}
end
def putsR (a : Act) : List (Nat × Value) → Act
  | [] => a
  | (k, u) :: L => (putsR a L).put (some k) u
def lkp : List (Nat × Value) → Nat → Option Value
  | [], _ => none
  | (k, u) :: L, i => cond (Nat.beq k i) (some u) (lkp L i)
section
variable {a : Act} {n : Nat} {L : List (Nat × Value)} {i : Nat} {v : Value}
theorem putsR_size (z : a.tmps.size = n) : ∀ L, (putsR a L).tmps.size = n
  | [] => z
  | (k, u) :: L => pz (a := putsR a L) rfl (putsR_size z L)
theorem zgD (z : a.tmps.size = n) (hi : Nat.blt i n = true) : ∀ {L : List (Nat × Value)}, lkp L i = some v → (putsR a L).tmps.getD i undef = v
  | [], h => by cases h
  | (k, u) :: L, h => by
    unfold lkp at h
    by_cases e : k = i
    · rw [show Nat.beq k i = true by rw [e]; exact Nat.beq_refl i] at h
      have h' : some u = some v := h
      cases h'
      subst e
      exact pq (a := putsR a L) rfl (putsR_size z L) (Nat.le_of_ble_eq_true hi)
    · rw [show Nat.beq k i = false by cases q : Nat.beq k i with | false => rfl | true => exact absurd (Nat.eq_of_beq_eq_true q) e] at h
      exact pk (a := putsR a L) rfl (zgD z hi h) (Ne.symm e)
theorem zg (z : a.tmps.size = n) (h : lkp L i = some v) (hi : Nat.blt i n = true := by rfl) : (putsR a L).eval (.tmp i) = v := zgD z hi h
theorem ziD (h0 : a.tmps.getD i undef = v) : ∀ {L : List (Nat × Value)}, lkp L i = none → (putsR a L).tmps.getD i undef = v
  | [], _ => h0
  | (k, u) :: L, h => by
    unfold lkp at h
    by_cases e : k = i
    · rw [show Nat.beq k i = true by rw [e]; exact Nat.beq_refl i] at h
      cases h
    · rw [show Nat.beq k i = false by cases q : Nat.beq k i with | false => rfl | true => exact absurd (Nat.eq_of_beq_eq_true q) e] at h
      exact pk (a := putsR a L) rfl (ziD h0 h) (Ne.symm e)
theorem zi (h0 : a.tmps.getD i undef = v) (h : lkp L i = none) : (putsR a L).eval (.tmp i) = v := ziD h0 h
def notB : Value → Bool → Bool
  | .bool c, b => c != b
  | _, _ => true
variable {ops : Array Oper} {o og : Oper} {k d : Nat} {b : Bool}
theorem zw (z : a.tmps.size = n) (hg : o.guard = some (k, b)) (ho : ops[k]? = some og) (hd : og.dst = some d) (h : (putsR a L).eval (.tmp d) = .bool b) (hi : Nat.blt d n = true := by rfl) : Region.wanted o (yielded ops (putsR a L).tmps) = true := by
  have hd2 : d < (putsR a L).tmps.size := by rw [putsR_size z L]; exact Nat.le_of_ble_eq_true hi
  have e : (putsR a L).tmps[d]? = some (.bool b) := by
    have h' : (putsR a L).tmps.getD d undef = .bool b := h
    rw [Array.getD_eq_getD_getElem?, Array.getElem?_eq_getElem hd2] at h'
    rw [Array.getElem?_eq_getElem hd2]
    exact congrArg some h'
  simp [Region.wanted, hg, yielded, ho, hd, e]
theorem zx (z : a.tmps.size = n) (hg : o.guard = some (k, b)) (ho : ops[k]? = some og) (hd : og.dst = some d) (h : (putsR a L).eval (.tmp d) = v) (hv : notB v b = true := by rfl) (hi : Nat.blt d n = true := by rfl) : Region.wanted o (yielded ops (putsR a L).tmps) = false := by
  have hd2 : d < (putsR a L).tmps.size := by rw [putsR_size z L]; exact Nat.le_of_ble_eq_true hi
  have e : (putsR a L).tmps[d]? = some v := by
    have h' : (putsR a L).tmps.getD d undef = v := h
    rw [Array.getD_eq_getD_getElem?, Array.getElem?_eq_getElem hd2] at h'
    rw [Array.getElem?_eq_getElem hd2]
    exact congrArg some h'
  unfold Region.wanted yielded
  rw [hg]
  simp only [ho, Option.bind_some, hd, e]
  cases v with
  | bool c => cases c <;> cases b <;> first | rfl | cases hv
  | _ => rfl
end
structure ZL (P : Program) (ops : Array Oper) (Q : Exit → Act → World → Prop) (rest : List Oper) (a : Act) (L : List (Nat × Value)) (w : World) : Prop where
  out : wpList P ops Q rest (putsR a L) w
structure YL (P : Program) (md : Region.Mode) (ops : Array Oper) (Q : Exit → Act → World → Prop) (S : World → Prop) (fuel : Nat) (listed : Array Bool) (a : Act) (L : List (Nat × Value)) (w : World) : Prop where
  out : wpAnyH P md ops (NoPanic Q) S fuel listed (putsR a L) w
structure XL (P : Program) (md : Region.Mode) (ops : Array Oper) (Q : Exit → Act → World → Prop) (S : World → Prop) (m fuel : Nat) (listed : Array Bool) (a : Act) (L : List (Nat × Value)) (w : World) : Prop where
  out : wpAnyE P md ops (NoPanic Q) S m fuel listed (putsR a L) w
section
variable {P : Program} {ops : Array Oper} {rest : List Oper} {o : Oper} {a : Act} {w w2 : World} {Q : Exit → Act → World → Prop} {L : List (Nat × Value)} {d : Nat} {v : Value}
theorem z0 {ops' : List Oper} {id : Nat} (hl : ops.toList = ops') (h : ZL P ops Q ops' a [] w) : (Code.region id ops false).wp P Q a w := wp_region_list (by rw [hl]; exact h.out)
theorem ze {a' : Act} (e : putsR a L = a') (h : Q .normal a' w) : ZL P ops Q [] a L w := ⟨wpList_nil (by rw [e]; exact h)⟩
theorem zv (hw : Region.wanted o (yielded ops (putsR a L).tmps) = true) (hr : (execOp (putsR a L).eval o).run P w = .ok (.value v) w2) (h : ZL P ops Q rest a ((d, v) :: L) w2) (hd : o.dst = some d := by rfl) : ZL P ops Q (o :: rest) a L w := ⟨qk hw hr (fun a' e => by subst e; exact h.out) hd⟩
theorem zn (hw : Region.wanted o (yielded ops (putsR a L).tmps) = false) (h : ZL P ops Q rest a ((d, undef) :: L) w) (hd : o.dst = some d := by rfl) : ZL P ops Q (o :: rest) a L w := ⟨qn hw (fun a' e => by subst e; exact h.out) hd⟩
theorem zs (hw : Region.wanted o (yielded ops (putsR a L).tmps) = true) (hr : (execOp (putsR a L).eval o).run P w = .ok .skip w2) (h : ZL P ops Q rest a L w2) (hd : o.dst = none := by rfl) : ZL P ops Q (o :: rest) a L w := ⟨qs hw hr h.out hd⟩
theorem zc {F : Nat} {vs : Array Value} {R : Ending → World → Prop} (hw : Region.wanted o (yielded ops (putsR a L).tmps) = true) (hr : (execOp (putsR a L).eval o).run P w = .ok (.enter F vs) w) (hC : Calls P F vs w R) (h : ∀ e w', R e w' → ∃ v, e = .returned v ∧ ZL P ops Q rest a ((d, v) :: L) w') (hd : o.dst = some d := by rfl) : ZL P ops Q (o :: rest) a L w :=
  ⟨qc hw hr hC (fun e w' r => by obtain ⟨v, e1, h1⟩ := h e w' r; exact ⟨v, e1, fun a' q => by subst q; exact h1.out⟩) hd⟩
end
section
variable {P : Program} {w : World} {a : Act} {o : Oper} {F : Nat} {ts : Array TypeId}
theorem exec_c1 {x1 : Operand} {v1 : Value} (ho : o.op = .call { callee := .value (.func F), args := #[x1], argTypes := ts }) (h1 : a.eval x1 = v1) (hf : (callFunc F #[v1]).run P w = .ok (.enter F #[v1]) w := by go_simp) : (execOp a.eval o).run P w = .ok (.enter F #[v1]) w := by
  have e0 : a.eval (.func F) = .func (.func F) #[] #[] := rfl
  unfold execOp; simp [ho, resolve, invoke, h1, e0, Deferred.ofValue, Result.andThen, hf]
theorem exec_c2 {x1 x2 : Operand} {v1 v2 : Value} (ho : o.op = .call { callee := .value (.func F), args := #[x1, x2], argTypes := ts }) (h1 : a.eval x1 = v1) (h2 : a.eval x2 = v2) (hf : (callFunc F #[v1, v2]).run P w = .ok (.enter F #[v1, v2]) w := by go_simp) : (execOp a.eval o).run P w = .ok (.enter F #[v1, v2]) w := by
  have e0 : a.eval (.func F) = .func (.func F) #[] #[] := rfl
  unfold execOp; simp [ho, resolve, invoke, h1, h2, e0, Deferred.ofValue, Result.andThen, hf]
theorem exec_c3 {x1 x2 x3 : Operand} {v1 v2 v3 : Value} (ho : o.op = .call { callee := .value (.func F), args := #[x1, x2, x3], argTypes := ts }) (h1 : a.eval x1 = v1) (h2 : a.eval x2 = v2) (h3 : a.eval x3 = v3) (hf : (callFunc F #[v1, v2, v3]).run P w = .ok (.enter F #[v1, v2, v3]) w := by go_simp) : (execOp a.eval o).run P w = .ok (.enter F #[v1, v2, v3]) w := by
  have e0 : a.eval (.func F) = .func (.func F) #[] #[] := rfl
  unfold execOp; simp [ho, resolve, invoke, h1, h2, h3, e0, Deferred.ofValue, Result.andThen, hf]
theorem exec_c4 {x1 x2 x3 x4 : Operand} {v1 v2 v3 v4 : Value} (ho : o.op = .call { callee := .value (.func F), args := #[x1, x2, x3, x4], argTypes := ts }) (h1 : a.eval x1 = v1) (h2 : a.eval x2 = v2) (h3 : a.eval x3 = v3) (h4 : a.eval x4 = v4) (hf : (callFunc F #[v1, v2, v3, v4]).run P w = .ok (.enter F #[v1, v2, v3, v4]) w := by go_simp) : (execOp a.eval o).run P w = .ok (.enter F #[v1, v2, v3, v4]) w := by
  have e0 : a.eval (.func F) = .func (.func F) #[] #[] := rfl
  unfold execOp; simp [ho, resolve, invoke, h1, h2, h3, h4, e0, Deferred.ofValue, Result.andThen, hf]
theorem exec_not {t : TypeId} {x : Operand} {b : Bool} (ho : o.op = .unOp .not t x) (hx : a.eval x = .bool b) : (execOp a.eval o).run P w = .ok (.value (.bool (!b))) w := by
  unfold execOp; simp only [ho, hx]; go_simp
theorem exec_pickT {c x y : Operand} {v : Value} (ho : o.op = .pick c x y) (hc : a.eval c = .bool true) (hx : a.eval x = v) : (execOp a.eval o).run P w = .ok (.value v) w := by
  unfold execOp; simp only [ho, hc, hx]; go_simp
theorem exec_pickF {c x y : Operand} {v : Value} (ho : o.op = .pick c x y) (hc : a.eval c = .bool false) (hy : a.eval y = v) : (execOp a.eval o).run P w = .ok (.value v) w := by
  unfold execOp; simp only [ho, hc, hy]; go_simp
end
section
variable {P : Program} {md : Region.Mode} {ops : Array Oper} {Q : Exit → Act → World → Prop} {S : World → Prop} {fuel : Nat} {listed : Array Bool} {a : Act} {w w2 : World} {L : List (Nat × Value)} {o : Oper} {d : Nat} {v : Value}
theorem y0 {id n : Nat} {rep : Array Bool} (S : World → Prop) (hS : S w.drew) (h : S w.drew → YL P .any ops Q S n rep a [] w.drew) (hn : ops.size = n := by rfl) (hr : Array.replicate n false = rep := by rfl) (hm : P.follows .mixedOrders = true := by kernel_rfl) : (Code.region id ops true).wp P Q a w :=
  wp_region_noPanic (wp_region_held_drew hm hS (fun q => by rw [hn, hr]; exact (h q).out))
theorem x0 {id n : Nat} {rep : Array Bool} (m : Nat) (S : World → Prop) (hS : S w.drew) (h : S w.drew → XL P .any ops Q S m n rep a [] w.drew) (hn : ops.size = n := by rfl) (hr : Array.replicate n false = rep := by rfl) (hm : P.follows .mixedOrders = true := by kernel_rfl) : (Code.region id ops true).wp P Q a w :=
  wp_region_noPanic (wp_region_E m hm hS (fun q => by rw [hn, hr]; exact (h q).out))
theorem yv (i : Nat) (hi : ops[i]? = some o) (hw : Region.wanted o (yielded ops (putsR a L).tmps) = true) (hr : ∀ w1, S w1 → (execOp (putsR a L).eval o).run P w1 = .ok (.value v) w1) (hS : S w) (h : YL P md ops Q S fuel (listed.setIfInBounds i true) a ((d, v) :: L) w)
    (hd : o.dst = some d := by rfl) (hs : Region.noSelect ops = true := by kernel_rfl) (hf : Region.free md ops listed i = true := by kernel_rfl) (hy : (Region.ready md ops listed).contains i = true := by kernel_rfl) : YL P md ops Q S (fuel + 1) listed a L w :=
  ⟨wpAnyH_take hi hs hf hy (fun _ _ _ h => h) (Or.inl ⟨hw, hr⟩) hS (by rw [hd]; exact h.out)⟩
theorem yn (i : Nat) (hi : ops[i]? = some o) (hw : Region.wanted o (yielded ops (putsR a L).tmps) = false) (hS : S w) (h : YL P md ops Q S fuel (listed.setIfInBounds i true) a ((d, undef) :: L) w)
    (hd : o.dst = some d := by rfl) (hs : Region.noSelect ops = true := by kernel_rfl) (hf : Region.free md ops listed i = true := by kernel_rfl) (hy : (Region.ready md ops listed).contains i = true := by kernel_rfl) : YL P md ops Q S (fuel + 1) listed a L w :=
  ⟨wpAnyH_take (v := undef) hi hs hf hy (fun _ _ _ h => h) (Or.inr ⟨hw, rfl⟩) hS (by rw [hd]; exact h.out)⟩
theorem yc (i : Nat) (hi : ops[i]? = some o) {F : Nat} {vs : Array Value} {R : Ending → World → Prop} (hw : Region.wanted o (yielded ops (putsR a L).tmps) = true) (hr : (execOp (putsR a L).eval o).run P w = .ok (.enter F vs) w) (hC : Calls P F vs w R) (h : ∀ e w', R e w' → ∃ v, e = .returned v ∧ S w' ∧ (S w' → YL P md ops Q S fuel (listed.setIfInBounds i true) a ((d, v) :: L) w'))
    (hd : o.dst = some d := by rfl) (hy : Region.ready md ops listed = [i] := by kernel_rfl) : YL P md ops Q S (fuel + 1) listed a L w :=
  ⟨wpAnyH_ready hy (by simp) (AllReadyH.cons hi (fun K hK => by
    rw [if_pos hw]
    unfold Oper.wp
    rw [hr, Oper.upon_enter]
    refine hC.mono ?_
    intro e w' hp
    obtain ⟨v, rfl, hs, hh⟩ := h e w' hp
    exact hK.out _ _ hs (fun q => by rw [hd]; exact (hh q).out)) AllReadyH.nil)⟩
theorem yr (i : Nat) (hi : ops[i]? = some o) (hw : Region.wanted o (yielded ops (putsR a L).tmps) = true) (hr : (execOp (putsR a L).eval o).run P w = .ok (.value v) w2) (hs : S w2) (h : S w2 → YL P md ops Q S fuel (listed.setIfInBounds i true) a ((d, v) :: L) w2)
    (hd : o.dst = some d := by rfl) (hy : Region.ready md ops listed = [i] := by kernel_rfl) : YL P md ops Q S (fuel + 1) listed a L w :=
  ⟨wpAnyH_ready hy (by simp) (AllReadyH.cons hi (fun K hK => by
    rw [if_pos hw]
    unfold Oper.wp
    rw [hr]
    exact hK.out _ _ hs (fun q => by rw [hd]; exact (h q).out)) AllReadyH.nil)⟩
theorem ys (i : Nat) (hi : ops[i]? = some o) (hw : Region.wanted o (yielded ops (putsR a L).tmps) = true) (hr : (execOp (putsR a L).eval o).run P w = .ok .skip w2) (hs : S w2) (h : S w2 → YL P md ops Q S fuel (listed.setIfInBounds i true) a L w2)
    (hd : o.dst = none := by rfl) (hy : Region.ready md ops listed = [i] := by kernel_rfl) : YL P md ops Q S (fuel + 1) listed a L w :=
  ⟨wpAnyH_ready hy (by simp) (AllReadyH.cons hi (fun K hK => by
    rw [if_pos hw]
    unfold Oper.wp
    rw [hr]
    exact hK.out _ _ hs (fun q => by rw [hd]; exact (h q).out)) AllReadyH.nil)⟩
theorem ye {a' : Act} (e : putsR a L = a') (h : Q .normal a' w) (hy : Region.ready md ops listed = [] := by kernel_rfl) : YL P md ops Q S fuel listed a L w := ⟨wpAnyH_done hy (NoPanic.normal (by rw [e]; exact h)) _⟩
/- The same where S need not hold behind the operation m. -/
variable {m : Nat}
theorem xv (i : Nat) (hi : ops[i]? = some o) (hw : Region.wanted o (yielded ops (putsR a L).tmps) = true) (hr : ∀ w1, S w1 → (execOp (putsR a L).eval o).run P w1 = .ok (.value v) w1) (hS : S w) (h : XL P md ops Q S m fuel (listed.setIfInBounds i true) a ((d, v) :: L) w)
    (hd : o.dst = some d := by rfl) (hs : Region.noSelect ops = true := by kernel_rfl) (hf : Region.free md ops listed i = true := by kernel_rfl) (hy : (Region.ready md ops listed).contains i = true := by kernel_rfl) (ht : waitsB md ops listed ops.size i m = true := by kernel_rfl) : XL P md ops Q S m (fuel + 1) listed a L w :=
  ⟨wpAnyE_take ops.size hi hs hf hy ht (fun _ _ _ h => h) (Or.inl ⟨hw, hr⟩) hS (by rw [hd]; exact h.out)⟩
theorem xn (i : Nat) (hi : ops[i]? = some o) (hw : Region.wanted o (yielded ops (putsR a L).tmps) = false) (hS : S w) (h : XL P md ops Q S m fuel (listed.setIfInBounds i true) a ((d, undef) :: L) w)
    (hd : o.dst = some d := by rfl) (hs : Region.noSelect ops = true := by kernel_rfl) (hf : Region.free md ops listed i = true := by kernel_rfl) (hy : (Region.ready md ops listed).contains i = true := by kernel_rfl) (ht : waitsB md ops listed ops.size i m = true := by kernel_rfl) : XL P md ops Q S m (fuel + 1) listed a L w :=
  ⟨wpAnyE_take (v := undef) ops.size hi hs hf hy ht (fun _ _ _ h => h) (Or.inr ⟨hw, rfl⟩) hS (by rw [hd]; exact h.out)⟩
theorem xc (i : Nat) (hi : ops[i]? = some o) {F : Nat} {vs : Array Value} {R : Ending → World → Prop} (hw : Region.wanted o (yielded ops (putsR a L).tmps) = true) (hr : (execOp (putsR a L).eval o).run P w = .ok (.enter F vs) w) (hC : Calls P F vs w R) (h : ∀ e w', R e w' → ∃ v, e = .returned v ∧ (i ≠ m → S w') ∧ ((i ≠ m → S w') → XL P md ops Q S m fuel (listed.setIfInBounds i true) a ((d, v) :: L) w'))
    (hd : o.dst = some d := by rfl) (hy : Region.ready md ops listed = [i] := by kernel_rfl) : XL P md ops Q S m (fuel + 1) listed a L w :=
  ⟨wpAnyE_one hy hi (fun K hK => by
    rw [if_pos hw]
    unfold Oper.wp
    rw [hr, Oper.upon_enter]
    refine hC.mono ?_
    intro e w' hp
    obtain ⟨v, rfl, hs, hh⟩ := h e w' hp
    exact hK.out _ _ hs (fun q => by rw [hd]; exact (hh q).out))⟩
theorem xr (i : Nat) (hi : ops[i]? = some o) (hw : Region.wanted o (yielded ops (putsR a L).tmps) = true) (hr : (execOp (putsR a L).eval o).run P w = .ok (.value v) w2) (hs : i ≠ m → S w2) (h : (i ≠ m → S w2) → XL P md ops Q S m fuel (listed.setIfInBounds i true) a ((d, v) :: L) w2)
    (hd : o.dst = some d := by rfl) (hy : Region.ready md ops listed = [i] := by kernel_rfl) : XL P md ops Q S m (fuel + 1) listed a L w :=
  ⟨wpAnyE_one hy hi (fun K hK => by
    rw [if_pos hw]
    unfold Oper.wp
    rw [hr]
    exact hK.out _ _ hs (fun q => by rw [hd]; exact (h q).out))⟩
theorem xs (i : Nat) (hi : ops[i]? = some o) (hw : Region.wanted o (yielded ops (putsR a L).tmps) = true) (hr : (execOp (putsR a L).eval o).run P w = .ok .skip w2) (hs : i ≠ m → S w2) (h : (i ≠ m → S w2) → XL P md ops Q S m fuel (listed.setIfInBounds i true) a L w2)
    (hd : o.dst = none := by rfl) (hy : Region.ready md ops listed = [i] := by kernel_rfl) : XL P md ops Q S m (fuel + 1) listed a L w :=
  ⟨wpAnyE_one hy hi (fun K hK => by
    rw [if_pos hw]
    unfold Oper.wp
    rw [hr]
    exact hK.out _ _ hs (fun q => by rw [hd]; exact (h q).out))⟩
theorem xd (i : Nat) (hi : ops[i]? = some o) (hw : Region.wanted o (yielded ops (putsR a L).tmps) = true) (hr : (execOp (putsR a L).eval o).run P w = .ok (.value v) w2) (hs : i ≠ m → S w2) (h : (i ≠ m → S w2) → XL P md ops Q S m fuel (listed.setIfInBounds i true) a L w2)
    (hd : o.dst = none := by rfl) (hy : Region.ready md ops listed = [i] := by kernel_rfl) : XL P md ops Q S m (fuel + 1) listed a L w :=
  ⟨wpAnyE_one hy hi (fun K hK => by
    rw [if_pos hw]
    unfold Oper.wp
    rw [hr]
    exact hK.out _ _ hs (fun q => by rw [hd]; exact (h q).out))⟩
theorem xe {a' : Act} (e : putsR a L = a') (h : Q .normal a' w) (hy : Region.ready md ops listed = [] := by kernel_rfl) : XL P md ops Q S m fuel listed a L w := ⟨wpAnyE_done hy (NoPanic.normal (by rw [e]; exact h)) _⟩
end
end Go.Proofs.YtldlljobofnmmaaDoor
namespace Go.Proofs.YtldlljobofnmmaaDoor
open Go.ChangeShapes Go.WideShapes Go.ChangeAt Go.RowKit
set_option linter.unusedVariables false
set_option linter.unusedSimpArgs false
theorem own : ownKnob Tryd.prog.godebug = none := by kernel_rfl
theorem laidOut : laidOutB Tryd.prog = true := by kernel_rfl
end Go.Proofs.YtldlljobofnmmaaDoor
namespace Go.Proofs.YtldlljobofnmmaaDoor
open Go.RowKit
set_option linter.unusedVariables false
set_option linter.unusedSimpArgs false
def IdsAt (w : World) (a : Option Addr) (L : List IdK) : Prop := L = [] ∨ ∃ b off, a = some ⟨b, off, none⟩ ∧ b < w.heap.size ∧ ∀ i h, L[i]? = some h → w.rangeAt b (off + 33 * i) (IdK.c h)
theorem IdsAt.below {w w' : World} {a : Option Addr} {L : List IdK} (h : IdsAt w a L) (hb : Below w.heap.size w w') : IdsAt w' a L := by
  rcases h with h | ⟨b, off, e, hl, hr⟩
  · exact .inl h
  · exact .inr ⟨b, off, e, Nat.lt_of_lt_of_le hl hb.size, fun i x hx => rangeAt_keep (hr i x hx) (hb.block b hl)⟩
def flatI (L : List IdK) : List Value := L.flatMap IdK.c
theorem flatI_get : ∀ {L : List IdK}, (∀ h ∈ L, h.ok) → ∀ {i : Nat} {h : IdK}, L[i]? = some h → ∀ {j : Nat} {v : Value}, (IdK.c h)[j]? = some v → (flatI L)[33 * i + j]? = some v
  | x :: L, ok, 0, h, hi, j, v, hj => by
    simp only [List.getElem?_cons_zero, Option.some.injEq] at hi
    subst hi
    have hl := (List.getElem?_eq_some_iff.1 hj).1
    rw [Nat.mul_zero, Nat.zero_add, flatI, List.flatMap_cons, List.getElem?_append_left hl]
    exact hj
  | x :: L, ok, i + 1, h, hi, j, v, hj => by
    simp only [List.getElem?_cons_succ] at hi
    have := flatI_get (L := L) (fun h hh => ok h (by simp [hh])) hi hj
    have l := IdK.len (ok x (by simp))
    rw [flatI, List.flatMap_cons, List.getElem?_append_right (by omega), l, show 33 * (i + 1) + j - 33 = 33 * i + j by omega]
    exact this
  | [], _, i, h, hi, _, _, _ => by simp at hi
def OwnI (w : World) (base : Nat) (v : Value) (L : List IdK) : Prop := w.ownsRow base 38 33 v L.length (flatI L)
theorem OwnI.below {w w' : World} {base : Nat} {v : Value} {L : List IdK} (h : OwnI w base v L) (hb : Below w.heap.size w w') : OwnI w' base v L := by
  refine ⟨h.1, ?_⟩
  rcases h.2 with hn | ⟨g, cap, cur, rfl, hbg, hg, rest⟩
  · exact .inl hn
  · exact .inr ⟨g, cap, cur, rfl, hbg, by rw [hb.block g (Array.getElem?_eq_some_iff.1 hg).1]; exact hg, rest⟩
theorem OwnI.keep {w w' : World} {base : Nat} {v : Value} {L : List IdK} (h : OwnI w base v L) (hk : ∀ k, v.ownBlock = some k → w'.heap[k]? = w.heap[k]?) : OwnI w' base v L := by
  refine ⟨h.1, ?_⟩
  rcases h.2 with hn | ⟨g, cap, cur, rfl, hbg, hg, rest⟩
  · exact .inl hn
  · exact .inr ⟨g, cap, cur, rfl, hbg, by rw [hk g rfl]; exact hg, rest⟩
theorem OwnI.open {w : World} {base : Nat} {v : Value} {L : List IdK} (h : OwnI w base v L) (ok : ∀ h ∈ L, h.ok) : ∃ a c, v = .slice a L.length c ∧ IdsAt w a L ∧ L.length ≤ c := by
  rcases h.2 with ⟨rfl, hn⟩ | ⟨g, cap, cur, rfl, hbg, hg, hnc, hcm, hcs, htake⟩
  · obtain rfl : L = [] := List.eq_nil_of_length_eq_zero hn
    exact ⟨none, 0, rfl, .inl rfl, Nat.le_refl _⟩
  · refine ⟨some ⟨g, 0, none⟩, cap, rfl, .inr ⟨g, 0, rfl, (Array.getElem?_eq_some_iff.1 hg).1, fun i x hx j u hj => ?_⟩, hnc⟩
    have e := flatI_get ok hx hj
    rw [Nat.zero_add, cell_of_row w g _ cur 38 (0, 0) hg]
    rw [← htake, List.getElem?_take] at e
    split at e
    · simpa using e
    · cases e
section
variable {ops : Array Oper} {rest : List Oper} {o : Oper} {a : Act} {w : World} {Q : Exit → Act → World → Prop} {K : Act → World → Prop} {E : Prop}
end
structure RowT (κ : Type) where
  c : κ → List Value
  ok : κ → Prop
  k : Nat
  bytes : Nat
  e : TypeId
  t : TypeId
  z : κ
structure RowT.Is {κ : Type} (R : RowT κ) : Prop where
  zok : R.ok R.z
  len : ∀ x, R.ok x → (R.c x).length = R.k
  one : ∀ x, ∀ v ∈ R.c x, v.oneCell' = true
  und : Tryd.prog.underlying R.t = some (.slice R.e)
  info : (Tryd.prog.info? R.e).map (fun i => (i.zero, i.size, i.bytes)) = some (some (.agg (R.c R.z).toArray), R.k, R.bytes)
  row : ∃ d, Tryd.prog.underlying R.e = some d ∧ d.isRow = true
  kpos : 0 < R.k
  kmax : R.k ≤ 100000
section
variable {κ : Type} {R : RowT κ}
def RowT.At (R : RowT κ) (w : World) (a : Option Addr) (L : List κ) : Prop := L = [] ∨ ∃ b off, a = some ⟨b, off, none⟩ ∧ b < w.heap.size ∧ ∀ i h, L[i]? = some h → w.rangeAt b (off + R.k * i) (R.c h)
theorem RowT.At.keepB {w w' : World} {a : Option Addr} {L : List κ} (h : R.At w a L) (hs : w.heap.size ≤ w'.heap.size) (hk : ∀ b o, a = some ⟨b, o, none⟩ → b < w.heap.size → w'.heap[b]? = w.heap[b]?) : R.At w' a L := by
  rcases h with h | ⟨b, off, e, hl, hr⟩
  · exact .inl h
  · exact .inr ⟨b, off, e, Nat.lt_of_lt_of_le hl hs, fun i x hx => rangeAt_keep (hr i x hx) (hk b off e hl)⟩
theorem RowT.At.below {w w' : World} {a : Option Addr} {L : List κ} (h : R.At w a L) (hb : Below w.heap.size w w') : R.At w' a L := h.keepB hb.size (fun b _ _ hl => hb.block b hl)
theorem RowT.At.get {w : World} {a : Option Addr} {L : List κ} (h : R.At w a L) {i : Nat} (hi : i < L.length) : ∃ b o, a = some ⟨b, o, none⟩ ∧ b < w.heap.size ∧ w.rangeAt b (o + R.k * i) (R.c L[i]) := by
  rcases h with h | ⟨b, off, e, hl, hr⟩
  · subst h; cases hi
  · exact ⟨b, off, e, hl, hr i _ (List.getElem?_eq_getElem hi)⟩
def RowT.flat (R : RowT κ) (L : List κ) : List Value := L.flatMap R.c
theorem RowT.flat_app (L M : List κ) : R.flat (L ++ M) = R.flat L ++ R.flat M := by simp [RowT.flat]
theorem RowT.flat_cons (x : κ) (L : List κ) : R.flat (x :: L) = R.c x ++ R.flat L := rfl
theorem RowT.flat_len (I : R.Is) : ∀ {L : List κ}, (∀ h ∈ L, R.ok h) → (R.flat L).length = R.k * L.length
  | [], _ => rfl
  | x :: L, ok => by
    have := RowT.flat_len I (L := L) (fun h hh => ok h (by simp [hh]))
    rw [RowT.flat_cons, List.length_append, I.len x (ok x (by simp)), this, List.length_cons, Nat.mul_succ, Nat.add_comm]
theorem RowT.flat_get (I : R.Is) : ∀ {L : List κ}, (∀ h ∈ L, R.ok h) → ∀ {i : Nat} {h : κ}, L[i]? = some h → ∀ {j : Nat} {v : Value}, (R.c h)[j]? = some v → (R.flat L)[R.k * i + j]? = some v
  | x :: L, ok, 0, h, hi, j, v, hj => by
    simp only [List.getElem?_cons_zero, Option.some.injEq] at hi
    subst hi
    have hl := (List.getElem?_eq_some_iff.1 hj).1
    rw [Nat.mul_zero, Nat.zero_add, RowT.flat_cons, List.getElem?_append_left hl]
    exact hj
  | x :: L, ok, i + 1, h, hi, j, v, hj => by
    simp only [List.getElem?_cons_succ] at hi
    have := RowT.flat_get I (L := L) (fun h hh => ok h (by simp [hh])) hi hj
    have l := I.len x (ok x (by simp))
    rw [RowT.flat_cons, List.getElem?_append_right (by rw [l, Nat.mul_succ]; omega), l, show R.k * (i + 1) + j - R.k = R.k * i + j by rw [Nat.mul_succ]; omega]
    exact this
  | [], _, i, h, hi, _, _, _ => by simp at hi
theorem RowT.flat_inv (I : R.Is) : ∀ {L : List κ}, (∀ h ∈ L, R.ok h) → ∀ {p : Nat} {u : Value}, (R.flat L)[p]? = some u → ∃ i h j, p = R.k * i + j ∧ L[i]? = some h ∧ (R.c h)[j]? = some u
  | [], _, p, u, hp => by simp [RowT.flat] at hp
  | x :: L, ok, p, u, hp => by
    have l := I.len x (ok x (by simp))
    rw [RowT.flat_cons, List.getElem?_append] at hp
    by_cases h : p < (R.c x).length
    · rw [if_pos h] at hp
      exact ⟨0, x, p, by simp, rfl, hp⟩
    · rw [if_neg h] at hp
      obtain ⟨i, y, j, e, hi, hj⟩ := RowT.flat_inv I (L := L) (fun h hh => ok h (by simp [hh])) hp
      exact ⟨i + 1, y, j, by rw [Nat.mul_succ]; omega, hi, hj⟩
theorem RowT.flat_one (I : R.Is) (L : List κ) : ∀ u ∈ R.flat L, u.oneCell' = true := by
  intro u hu
  simp only [RowT.flat, List.mem_flatMap] at hu
  obtain ⟨h, _, hv⟩ := hu
  exact I.one h u hv
def RowT.Own (R : RowT κ) (w : World) (base : Nat) (v : Value) (L : List κ) : Prop := w.ownsRow base R.e R.k v L.length (R.flat L)
theorem RowT.Own.keep {w w' : World} {base : Nat} {v : Value} {L : List κ} (h : R.Own w base v L) (hk : ∀ k, v.ownBlock = some k → w'.heap[k]? = w.heap[k]?) : R.Own w' base v L := by
  refine ⟨h.1, ?_⟩
  rcases h.2 with hn | ⟨g, cap, cur, rfl, hbg, hg, rest⟩
  · exact .inl hn
  · exact .inr ⟨g, cap, cur, rfl, hbg, by rw [hk g rfl]; exact hg, rest⟩
theorem RowT.Own.cells {w : World} {base : Nat} {v : Value} {L : List κ} (h : R.Own w base v L) {k : Nat} (hk : v.ownBlock = some k) : base ≤ k ∧ ∃ c, w.heap[k]? = some (.cells c R.e (0, 0)) := by
  rcases h.2 with ⟨rfl, _⟩ | ⟨g, cap, cur, rfl, hb, hg, _⟩
  · cases hk
  · simp only [Value.ownBlock, Option.some.injEq] at hk
    subst hk
    exact ⟨hb, _, hg⟩
theorem RowT.Own.lt {w : World} {base : Nat} {v : Value} {L : List κ} (h : R.Own w base v L) {k : Nat} (hk : v.ownBlock = some k) : k < w.heap.size := by
  obtain ⟨_, c, e⟩ := h.cells hk
  exact (Array.getElem?_eq_some_iff.1 e).1
theorem RowT.Own.below {w w' : World} {base : Nat} {v : Value} {L : List κ} (h : R.Own w base v L) (hb : Below w.heap.size w w') : R.Own w' base v L := h.keep (fun k hk => hb.block k (h.lt hk))
theorem RowT.Own.open {w : World} {base : Nat} {v : Value} {L : List κ} (I : R.Is) (h : R.Own w base v L) (ok : ∀ h ∈ L, R.ok h) : ∃ a c, v = .slice a L.length c ∧ R.At w a L ∧ L.length ≤ c ∧ (∀ b o, a = some ⟨b, o, none⟩ → v.ownBlock = some b) := by
  rcases h.2 with ⟨rfl, hn⟩ | ⟨g, cap, cur, rfl, hbg, hg, hnc, hcm, hcs, htake⟩
  · obtain rfl : L = [] := List.eq_nil_of_length_eq_zero hn
    exact ⟨none, 0, rfl, .inl rfl, Nat.le_refl _, fun b o e => by cases e⟩
  · refine ⟨some ⟨g, 0, none⟩, cap, rfl, .inr ⟨g, 0, rfl, (Array.getElem?_eq_some_iff.1 hg).1, fun i x hx j u hj => ?_⟩, hnc, fun b o e => by cases e; rfl⟩
    have e := RowT.flat_get I ok hx hj
    rw [Nat.zero_add, cell_of_row w g _ cur R.e (0, 0) hg]
    rw [← htake, List.getElem?_take] at e
    split at e
    · simpa using e
    · cases e
theorem RowT.own_nil (R : RowT κ) (w : World) (base : Nat) : R.Own w base (.slice none 0 0) [] := ⟨by simp [RowT.flat], .inl ⟨rfl, rfl⟩⟩
theorem RowT.Own.mono {w : World} {base b2 : Nat} {v : Value} {L : List κ} (h : R.Own w base v L) (hb : b2 ≤ base) : R.Own w b2 v L := by
  refine ⟨h.1, ?_⟩
  rcases h.2 with hn | ⟨g, cap, cur, rfl, hbg, rest⟩
  · exact .inl hn
  · exact .inr ⟨g, cap, cur, rfl, Nat.le_trans hb hbg, rest⟩
theorem RowT.run_app (I : R.Is) (w : World) (base : Nat) (v : Value) (L : List κ) (a : Option Addr) (M : List κ) (c : Nat) (hown : R.Own w base v L) (hb : R.At w a M) (ok : ∀ h ∈ M, R.ok h) (h63 : L.length + M.length ≤ maxLen) (h : ((L.length + M.length) + (L.length + M.length) / 4 + 192) * R.bytes ≤ 281474976710656) (hbase : base ≤ w.heap.size) :
    ∃ v' w', (Builtin.append_ #[R.t, R.t] R.t #[v, .slice a M.length c]).run Tryd.prog w = .ok v' w' ∧ R.Own w' base v' (L ++ M) ∧ w.grownBy w' v.ownBlock ∧ (v'.ownBlock = v.ownBlock ∨ v'.ownBlock = some w.heap.size) := by
  obtain ⟨i, hi, hz, hs, hby⟩ := info_parts I.info
  have zc : (Value.agg (R.c R.z).toArray).cells.size = R.k := by
    show (R.c R.z).toArray.size = R.k
    rw [List.size_toArray, I.len _ I.zok]
  cases a with
  | some ad =>
    have hnews : ∀ j u, (R.flat M)[j]? = some u → w.cell? (ad.add j) = some u := fun j u hj => by
      rcases hb with rfl | ⟨b, off, e, _, hc⟩
      · simp [RowT.flat] at hj
      · cases e
        obtain ⟨k, x, r, rfl, hx, hr⟩ := RowT.flat_inv I ok hj
        rw [Addr.add_mid, ← Nat.add_assoc]
        exact hc k x hx r u hr
    obtain ⟨v', w', hr, h2, h3, h5⟩ := app_at (P := Tryd.prog) w base R.t R.t R.e i _ R.k R.bytes I.und hi hz hs hby zc I.kpos v L.length (R.flat L) hown ad M.length c (R.flat M) (by rw [RowT.flat_len I ok, Nat.mul_comm]) hnews (RowT.flat_one I M) h63 h hbase
    refine ⟨v', w', hr, ?_, h3, h5⟩
    unfold RowT.Own
    rw [List.length_append, RowT.flat_app]
    exact h2
  | none =>
    obtain rfl : M = [] := by
      rcases hb with rfl | ⟨b, off, e, _⟩
      · rfl
      · cases e
    rcases hown.2 with ⟨rfl, hn⟩ | ⟨g, cap, cur, rfl, hbg, hg, hnc, rest⟩
    · refine ⟨.slice none 0 0, w, ?_, by rw [List.append_nil]; exact hown, ⟨rfl, rfl, rfl, Nat.le_refl _, fun _ _ _ => rfl⟩, .inl rfl⟩
      simp [Builtin.append_, run_underlying I.und, sizeOf, typeInfo, hi, Builtin.lenOf, Builtin.firstCells, loadCells, loadCellsFrom]
    · refine ⟨.slice (some ⟨g, 0, none⟩) L.length cap, w, ?_, by rw [List.append_nil]; exact hown, ⟨rfl, rfl, rfl, Nat.le_refl _, fun _ _ _ => rfl⟩, .inl rfl⟩
      simp [Builtin.append_, run_underlying I.und, sizeOf, typeInfo, hi, Builtin.lenOf, Builtin.firstCells, hnc, storeCells]
theorem RowT.lit (R : RowT κ) (w : World) (h : κ) (t : TypeId) : R.At (w.alloc (.cells (R.c h).toArray t)) (some ⟨w.heap.size, 0, none⟩) [h] :=
  .inr ⟨w.heap.size, 0, rfl, by simp, fun i x hx j v hj => by
    have hl := (List.getElem?_eq_some_iff.1 hx).1
    obtain rfl : i = 0 := by simp at hl; omega
    simp at hx
    subst hx
    rw [Nat.mul_zero, Nat.add_zero, Nat.zero_add]
    exact cell_new w (R.c h) t j v hj⟩
theorem RowT.run_bs (I : R.Is) (h : κ) (ok : R.ok h) (w : World) : (Instr.buildSlice R.t 1 #[(0, .agg (R.c h).toArray)]).run Tryd.prog w = .ok (.slice (some ⟨w.heap.size, 0, none⟩) 1 1) (w.alloc (.cells (R.c h).toArray R.e)) := by
  obtain ⟨ie, hi, hz, hs, hby⟩ := info_parts I.info
  refine run_buildSlice w R.t R.e 1 _ (R.c h).toArray ie _ I.und hi hz (by rw [hs]; have := I.kmax; have := I.kpos; omega) (by rw [hs]; have := I.kmax; have := I.kpos; omega) ?_
  rw [hs]
  have := Go.Great.fill_whole (s := R.k) I.kpos [.agg (R.c h).toArray] ((Array.range (1 * R.k)).map ((Value.agg (R.c R.z).toArray).cells[· % (Value.agg (R.c R.z).toArray).cells.size]!)) (by intro v hv; simp at hv; subst hv; show (R.c h).toArray.size = R.k; rw [List.size_toArray, I.len _ ok]) (by simp)
  simpa [Value.cells] using this
theorem RowT.run_push (I : R.Is) (w : World) (base : Nat) (v : Value) (L : List κ) (x : κ) (hown : R.Own w base v L) (ok : R.ok x) (h63 : L.length + 1 ≤ maxLen) (h : ((L.length + 1) + (L.length + 1) / 4 + 192) * R.bytes ≤ 281474976710656) (hbase : base ≤ w.heap.size) :
    ∃ sv w1 v' w', (Instr.buildSlice R.t 1 #[(0, .agg (R.c x).toArray)]).run Tryd.prog w = .ok sv w1 ∧ (Builtin.append_ #[R.t, R.t] R.t #[v, sv]).run Tryd.prog w1 = .ok v' w' ∧ R.Own w' base v' (L ++ [x]) ∧ Below w.heap.size w w1 ∧ w1.heap.size = w.heap.size + 1 ∧ w1.grownBy w' v.ownBlock ∧ (v'.ownBlock = v.ownBlock ∨ v'.ownBlock = some w1.heap.size) := by
  have b1 : Below w.heap.size w (w.alloc (.cells (R.c x).toArray R.e)) := (Below.refl _ _).alloc (Nat.le_refl _) _
  obtain ⟨v', w', e, o, g, q⟩ := RowT.run_app I _ base v L _ [x] 1 (hown.below b1) (RowT.lit R w x R.e) (fun y hy => by rw [List.mem_singleton.1 hy]; exact ok) h63 h (Nat.le_trans hbase b1.size)
  exact ⟨_, _, v', w', RowT.run_bs I x ok w, e, o, b1, by simp, g, q⟩
theorem RowT.sz (I : R.Is) : (Tryd.prog.info? R.e).map (·.size) = some R.k := by
  have := I.info
  cases q : Tryd.prog.info? R.e with
  | none => rw [q] at this; cases this
  | some i => rw [q] at this; simp at this ⊢; exact this.2.1
theorem RowT.ld (I : R.Is) {w : World} {b o : Nat} {x : κ} (hx : R.ok x) (h : w.rangeAt b o (R.c x)) : (Instr.loadAt R.e (.pointer (some ⟨b, o, none⟩))).run Tryd.prog w = .ok (.agg (R.c x).toArray) w := by
  obtain ⟨d, hd, hr⟩ := I.row
  exact run_loadAt_mid (P := Tryd.prog) w b o R.e (R.c x) d h hd hr (by rw [I.len x hx]; exact RowT.sz I)
theorem RowT.take_seg {α : Type} {cur FA y FB x : List α} {N o : Nat} (h : cur.take N = FA ++ y ++ FB) (hN : N = FA.length + y.length + FB.length) (ho : FA.length = o) (hx : x.length = y.length) : (cur.take o ++ x ++ cur.drop (o + x.length)).take N = FA ++ x ++ FB := by
  obtain ⟨R, hR⟩ : ∃ R, cur = FA ++ y ++ FB ++ R := ⟨cur.drop N, by rw [← h, List.take_append_drop]⟩
  subst hR
  have e1 : (FA ++ y ++ FB ++ R).take o = FA := by rw [← ho]; simp [List.append_assoc]
  have e2 : (FA ++ y ++ FB ++ R).drop (o + x.length) = FB ++ R := by
    rw [← ho, hx, ← List.length_append, List.append_assoc (FA ++ y), List.drop_left]
  rw [e1, e2, hN]
  rw [show FA ++ x ++ (FB ++ R) = (FA ++ x ++ FB) ++ R by simp]
  rw [show FA.length + y.length + FB.length = (FA ++ x ++ FB).length by simp [hx]; omega]
  exact List.take_left
end
section
variable {κ : Type} {R : RowT κ}
def RowT.Lo (R : RowT κ) (w : World) (base : Nat) (v : Value) (L : List κ) : Prop :=
  (v = .slice none 0 0 ∧ L = []) ∨ ∃ g cap cur, v = .slice (some ⟨g, 0, none⟩) L.length cap ∧ base ≤ g ∧ w.heap[g]? = some (.cells cur R.e (0, 0)) ∧ L.length ≤ cap ∧ cap ≤ maxLen ∧ cap * R.k ≤ cur.size ∧ cur.toList.take (L.length * R.k) = R.flat L
theorem RowT.Own.lo {w : World} {base : Nat} {v : Value} {L : List κ} (h : R.Own w base v L) : R.Lo w base v L := by
  rcases h.2 with ⟨rfl, hn⟩ | ⟨g, cap, cur, rfl, hbg, hg, hnc, hcm, hcs, ht⟩
  · exact .inl ⟨rfl, List.eq_nil_of_length_eq_zero hn⟩
  · exact .inr ⟨g, cap, cur, rfl, hbg, hg, hnc, hcm, by omega, ht⟩
theorem RowT.lo_nil (R : RowT κ) (w : World) (base : Nat) : R.Lo w base (.slice none 0 0) [] := .inl ⟨rfl, rfl⟩
theorem RowT.Lo.keep {w w' : World} {base : Nat} {v : Value} {L : List κ} (h : R.Lo w base v L) (hk : ∀ k, v.ownBlock = some k → w'.heap[k]? = w.heap[k]?) : R.Lo w' base v L := by
  rcases h with hn | ⟨g, cap, cur, rfl, hbg, hg, rest⟩
  · exact .inl hn
  · exact .inr ⟨g, cap, cur, rfl, hbg, by rw [hk g rfl]; exact hg, rest⟩
theorem RowT.Lo.cells {w : World} {base : Nat} {v : Value} {L : List κ} (h : R.Lo w base v L) {k : Nat} (hk : v.ownBlock = some k) : base ≤ k ∧ ∃ c, w.heap[k]? = some (.cells c R.e (0, 0)) := by
  rcases h with ⟨rfl, _⟩ | ⟨g, cap, cur, rfl, hb, hg, _⟩
  · cases hk
  · simp only [Value.ownBlock, Option.some.injEq] at hk
    subst hk
    exact ⟨hb, _, hg⟩
theorem RowT.Lo.lt {w : World} {base : Nat} {v : Value} {L : List κ} (h : R.Lo w base v L) {k : Nat} (hk : v.ownBlock = some k) : k < w.heap.size := by
  obtain ⟨_, c, e⟩ := h.cells hk
  exact (Array.getElem?_eq_some_iff.1 e).1
theorem RowT.Lo.below {w w' : World} {base : Nat} {v : Value} {L : List κ} (h : R.Lo w base v L) (hb : Below w.heap.size w w') : R.Lo w' base v L := h.keep (fun k hk => hb.block k (h.lt hk))
theorem RowT.Lo.mono {w : World} {base b2 : Nat} {v : Value} {L : List κ} (h : R.Lo w base v L) (hb : b2 ≤ base) : R.Lo w b2 v L := by
  rcases h with hn | ⟨g, cap, cur, rfl, hbg, rest⟩
  · exact .inl hn
  · exact .inr ⟨g, cap, cur, rfl, Nat.le_trans hb hbg, rest⟩
theorem RowT.Lo.open {w : World} {base : Nat} {v : Value} {L : List κ} (I : R.Is) (h : R.Lo w base v L) (ok : ∀ h ∈ L, R.ok h) : ∃ a c, v = .slice a L.length c ∧ R.At w a L ∧ L.length ≤ c ∧ c ≤ maxLen ∧ (∀ b o, a = some ⟨b, o, none⟩ → v.ownBlock = some b) := by
  rcases h with ⟨rfl, rfl⟩ | ⟨g, cap, cur, rfl, hbg, hg, hnc, hcm, hcs, htake⟩
  · exact ⟨none, 0, rfl, .inl rfl, Nat.le_refl _, by decide, fun b o e => by cases e⟩
  · refine ⟨some ⟨g, 0, none⟩, cap, rfl, .inr ⟨g, 0, rfl, (Array.getElem?_eq_some_iff.1 hg).1, fun i x hx j u hj => ?_⟩, hnc, hcm, fun b o e => by cases e; rfl⟩
    have e := RowT.flat_get I ok hx hj
    rw [Nat.zero_add, cell_of_row w g _ cur R.e (0, 0) hg]
    rw [← htake, List.getElem?_take] at e
    split at e
    · simpa using e
    · cases e
theorem RowT.lo_app (I : R.Is) (w : World) (base : Nat) (v : Value) (L : List κ) (okL : ∀ h ∈ L, R.ok h) (a : Option Addr) (M : List κ) (c : Nat) (hown : R.Lo w base v L) (hb : R.At w a M) (ok : ∀ h ∈ M, R.ok h) (h63 : L.length + M.length ≤ maxLen) (h : ((L.length + M.length) + (L.length + M.length) / 4 + 192) * R.bytes ≤ 281474976710656) (hbase : base ≤ w.heap.size) :
    ∃ v' w', (Builtin.append_ #[R.t, R.t] R.t #[v, .slice a M.length c]).run Tryd.prog w = .ok v' w' ∧ R.Lo w' base v' (L ++ M) ∧ w.grownBy w' v.ownBlock ∧ (v'.ownBlock = v.ownBlock ∨ v'.ownBlock = some w.heap.size) ∧ R.Lo w' base v L := by
  have hown0 := hown
  rcases hown with ⟨rfl, rfl⟩ | ⟨g, cap, cur, rfl, hbg, hg, hnc, hcm, hcs, htake⟩
  · obtain ⟨v', w', e, o, g, q⟩ := RowT.run_app I w base (.slice none 0 0) [] a M c (RowT.own_nil R w base) hb ok h63 h hbase
    exact ⟨v', w', e, o.lo, g, q, .inl ⟨rfl, rfl⟩⟩
  · obtain ⟨i, hi, hz, hs, hby⟩ := info_parts I.info
    have zc : (Value.agg (R.c R.z).toArray).cells.size = R.k := by
      show (R.c R.z).toArray.size = R.k
      rw [List.size_toArray, I.len _ I.zok]
    have lL := RowT.flat_len I okL
    have lM := RowT.flat_len I ok
    have fa : R.flat (L ++ M) = R.flat L ++ R.flat M := RowT.flat_app L M
    have hbig : L.length + M.length ≤ 9223372036854775807 := by simp only [maxLen] at h63; omega
    cases a with
    | none =>
      obtain rfl : M = [] := by
        rcases hb with rfl | ⟨b, off, e, _⟩
        · rfl
        · cases e
      refine ⟨.slice (some ⟨g, 0, none⟩) L.length cap, w, ?_, by rw [List.append_nil]; exact .inr ⟨g, cap, cur, rfl, hbg, hg, hnc, hcm, hcs, htake⟩, ⟨rfl, rfl, rfl, Nat.le_refl _, fun _ _ _ => rfl⟩, .inl rfl, hown0⟩
      simp [Builtin.append_, run_underlying I.und, sizeOf, typeInfo, hi, Builtin.lenOf, Builtin.firstCells, hnc, storeCells]
    | some ad =>
      have hnews : ∀ j u, (R.flat M)[j]? = some u → w.cell? (ad.add j) = some u := fun j u hj => by
        rcases hb with rfl | ⟨b, off, e, _, hc⟩
        · simp [RowT.flat] at hj
        · cases e
          obtain ⟨k, x, r, rfl, hx, hr⟩ := RowT.flat_inv I ok hj
          rw [Addr.add_mid, ← Nat.add_assoc]
          exact hc k x hx r u hr
      by_cases hroom : L.length + M.length ≤ cap
      · have hfit : L.length * i.size + (R.flat M).length ≤ cur.size := by
          rw [lM, hs, Nat.mul_comm R.k, ← Nat.add_mul]
          exact Nat.le_trans (Nat.mul_le_mul_right _ hroom) hcs
        have hr := run_append_room (P := Tryd.prog) w R.t R.t R.e i I.und hi g L.length cap cur hg ad M.length c (R.flat M) (by rw [lM, hs, Nat.mul_comm]) hnews (RowT.flat_one I M) hroom hfit
        refine ⟨_, _, hr, .inr ⟨g, cap, _, by rw [List.length_append], hbg, setRow_heap w g cur _ R.e _ hg, by rw [List.length_append]; exact hroom, hcm, ?_, ?_⟩, ⟨rfl, rfl, rfl, by simp, fun k _ hk => setRow_other w g k _ (fun e => hk (by simp [Value.ownBlock, e]))⟩, .inl rfl, .inr ⟨g, cap, _, rfl, hbg, setRow_heap w g cur _ R.e _ hg, hnc, hcm, ?_, ?_⟩⟩
        · simp only [List.size_toArray, List.length_append, List.length_take, List.length_drop, Array.length_toList]
          omega
        · rw [List.toList_toArray, hs, htake, fa, List.length_append, Nat.add_mul, show L.length * R.k + M.length * R.k = (R.flat L ++ R.flat M).length by rw [List.length_append, lL, lM, Nat.mul_comm R.k, Nat.mul_comm R.k]]
          exact List.take_left
        · simp only [List.size_toArray, List.length_append, List.length_take, List.length_drop, Array.length_toList]
          omega
        · rw [List.toList_toArray, hs, htake, List.append_assoc, show L.length * R.k = (R.flat L).length by rw [lL, Nat.mul_comm]]
          exact List.take_left
      · have holds : ∀ j u, (R.flat L)[j]? = some u → w.cell? ((⟨g, 0, none⟩ : Addr).add j) = some u := fun j u hj => by
          rw [Addr.add_mid, Nat.zero_add, cell_of_row w g _ cur R.e (0, 0) hg]
          rw [← htake, List.getElem?_take] at hj
          split at hj
          · simpa using hj
          · cases hj
        have hr := run_append_grow (P := Tryd.prog) w R.t R.t R.e i _ I.und hi hz ⟨g, 0, none⟩ L.length cap (R.flat L) (by rw [lL, hs, Nat.mul_comm]) holds ad M.length c (R.flat M) (by rw [lM, hs, Nat.mul_comm]) hnews (by omega) (by omega) (by rw [hby]; exact growslice_fits_wide (by omega) h)
        have hge := grownCap_ge w (L.length + M.length) cap R.e
        have hcm2 : grownCap w (L.length + M.length) cap R.e ≤ maxLen := grownCap_le_maxLen w (L.length + M.length) cap R.e h63
        refine ⟨_, _, hr, .inr ⟨w.heap.size, _, _, by rw [List.length_append], hbase, heap_alloc_new w.drew _, by rw [List.length_append]; exact hge, hcm2, ?_, ?_⟩, ⟨rfl, rfl, rfl, by simp, fun k hk _ => heap_alloc_old w.drew _ hk⟩, .inr rfl, hown0.keep (fun k hk => heap_alloc_old w.drew _ (hown0.lt hk))⟩
        · simp only [Array.size_append, List.size_toArray, size_zeroCells, zc, lL, lM]
          rw [Nat.mul_comm R.k, Nat.mul_comm R.k, ← Nat.add_mul, ← Nat.add_mul]
          refine Nat.mul_le_mul_right _ ?_
          omega
        · simp only [Array.toList_append, List.append_assoc]
          rw [← List.append_assoc, fa, List.length_append, Nat.add_mul, show L.length * R.k + M.length * R.k = (R.flat L ++ R.flat M).length by rw [List.length_append, lL, lM, Nat.mul_comm R.k, Nat.mul_comm R.k]]
          exact List.take_left
theorem RowT.Lo.cut (I : R.Is) {w : World} {base : Nat} {v : Value} {L : List κ} (okL : ∀ h ∈ L, R.ok h) (h : R.Lo w base v L) {n : Nat} (hn : n ≤ L.length) : ∃ v', (∀ a c, v = .slice a L.length c → v' = .slice a n n) ∧ R.Lo w base v' (L.take n) ∧ v'.ownBlock = v.ownBlock := by
  rcases h with ⟨rfl, rfl⟩ | ⟨g, cap, cur, rfl, hbg, hg, hnc, hcm, hcs, htake⟩
  · have : n = 0 := by simpa using hn
    subst this
    exact ⟨.slice none 0 0, fun a c e => by cases e; rfl, .inl ⟨rfl, rfl⟩, rfl⟩
  · have hl : (L.take n).length = n := by simp; omega
    refine ⟨.slice (some ⟨g, 0, none⟩) n n, fun a c e => by cases e; rfl, .inr ⟨g, n, cur, by rw [hl], hbg, hg, by omega, by omega, Nat.le_trans (Nat.mul_le_mul_right _ (by omega)) hcs, ?_⟩, rfl⟩
    have hf : R.flat L = R.flat (L.take n) ++ R.flat (L.drop n) := by rw [← RowT.flat_app, List.take_append_drop]
    have lt := RowT.flat_len I (L := L.take n) (fun x hx => okL x (List.mem_of_mem_take hx))
    rw [hl] at lt
    rw [hl]
    have h1 : cur.toList.take (n * R.k) = (cur.toList.take (L.length * R.k)).take (n * R.k) := by rw [List.take_take, Nat.min_eq_left (Nat.mul_le_mul_right _ hn)]
    rw [h1, htake, hf, show n * R.k = (R.flat (L.take n)).length by rw [lt, Nat.mul_comm]]
    exact List.take_left
end
end Go.Proofs.YtldlljobofnmmaaDoor
namespace Go.Proofs.YtldlljobofnmmaaDoor
set_option linter.unusedVariables false
set_option linter.unusedSimpArgs false
namespace Rg
section
variable {α : Type}
def hadI (sn : α → Bool) : Nat → List α → List (Nat × α)
  | _, [] => []
  | i, x :: L => if sn x then (i, x) :: hadI sn (i + 1) L else hadI sn (i + 1) L
theorem hadI_snoc (sn : α → Bool) (x : α) : ∀ (L : List α) (i : Nat), hadI sn i (L ++ [x]) = hadI sn i L ++ (if sn x then [(i + L.length, x)] else [])
  | [], i => by simp [hadI]
  | y :: L, i => by
    have ih := hadI_snoc sn x L (i + 1)
    rw [List.cons_append]
    unfold hadI
    rw [ih, show i + 1 + L.length = i + (y :: L).length by simp; omega]
    split <;> simp
theorem hadI_mem (sn : α → Bool) : ∀ {L : List α} {i : Nat} {t : Nat × α}, t ∈ hadI sn i L → i ≤ t.1 ∧ L[t.1 - i]? = some t.2 ∧ sn t.2 = true
  | [], i, t, h => by simp [hadI] at h
  | y :: L, i, t, h => by
    unfold hadI at h
    have rcc : t ∈ hadI sn (i + 1) L → i ≤ t.1 ∧ (y :: L)[t.1 - i]? = some t.2 ∧ sn t.2 = true := fun h => by
      obtain ⟨h1, h2, h3⟩ := hadI_mem sn h
      refine ⟨by omega, ?_, h3⟩
      rw [show t.1 - i = (t.1 - (i + 1)) + 1 by omega, List.getElem?_cons_succ]
      exact h2
    split at h
    · next hs =>
      rcases List.mem_cons.1 h with rfl | h
      · exact ⟨Nat.le_refl _, by simp, hs⟩
      · exact rcc h
    · exact rcc h
theorem hadI_len (sn : α → Bool) : ∀ (L : List α) (i : Nat), (hadI sn i L).length ≤ L.length
  | [], i => by simp [hadI]
  | y :: L, i => by
    have := hadI_len sn L (i + 1)
    unfold hadI
    split <;> simp <;> omega
theorem hadI_nil (sn : α → Bool) : ∀ {L : List α} {i : Nat}, hadI sn i L = [] → ∀ x ∈ L, sn x = false
  | [], i, h, x, hx => by cases hx
  | y :: L, i, h, x, hx => by
    unfold hadI at h
    split at h
    · cases h
    · next hs =>
      rcases List.mem_cons.1 hx with rfl | hx
      · simpa using hs
      · exact hadI_nil sn h x hx
def res (sn : α → Bool) (L : List α) : List α := L.filter (fun x => !sn x)
theorem res_len (sn : α → Bool) (L : List α) (i : Nat) : (res sn L).length + (hadI sn i L).length = L.length := by
  induction L generalizing i with
  | nil => simp [res, hadI]
  | cons y L ih =>
    have := ih (i + 1)
    unfold hadI
    unfold res at *
    by_cases h : sn y = true
    · rw [if_pos h, List.filter_cons_of_neg (by simp [h])]; simp only [List.length_cons]; omega
    · rw [if_neg h, List.filter_cons_of_pos (by simp [h])]; simp only [List.length_cons]; omega
theorem res_nil (sn : α → Bool) {L : List α} {i : Nat} (h : hadI sn i L = []) : res sn L = L := List.filter_eq_self.2 fun x hx => by rw [hadI_nil sn h x hx]; rfl
def wo (L : List α) : List α → Nat → List (Nat × α) → List α
  | out, frm, [] => out ++ L.drop frm
  | out, frm, t :: T => wo L (out ++ (L.take t.1).drop frm) (t.1 + 1) T
theorem wo_had (sn : α → Bool) (C : List α) : ∀ (A B out : List α), wo (A ++ B ++ C) out A.length (hadI sn (A.length + B.length) C) = out ++ B ++ res sn C := by
  induction C with
  | nil =>
    intro A B out
    simp [hadI, wo, res]
  | cons y C ih =>
    intro A B out
    unfold hadI
    by_cases h : sn y = true
    · rw [if_pos h]
      unfold wo
      have e1 : ((A ++ B ++ y :: C).take (A.length + B.length)).drop A.length = B := by
        rw [show A.length + B.length = (A ++ B).length by simp, List.take_left, List.drop_left]
      have := ih (A ++ B ++ [y]) [] (out ++ B)
      rw [show A ++ B ++ [y] ++ [] ++ C = A ++ B ++ y :: C by simp, show (A ++ B ++ [y]).length = A.length + B.length + 1 by simp; omega, show A.length + B.length + 1 + ([] : List α).length = A.length + B.length + 1 by simp] at this
      rw [e1, this]
      unfold res
      rw [List.filter_cons_of_neg (by simp [h])]
      simp
    · rw [if_neg h]
      have := ih A (B ++ [y]) out
      rw [show A ++ (B ++ [y]) ++ C = A ++ B ++ y :: C by simp, show A.length + (B ++ [y]).length = A.length + B.length + 1 by simp; omega] at this
      rw [this]
      unfold res
      rw [List.filter_cons_of_pos (by simp [h])]
      simp
theorem wo_all (sn : α → Bool) (L : List α) : wo L [] 0 (hadI sn 0 L) = res sn L := by
  have := wo_had sn L [] [] []
  simpa using this
def WoOk (n : Nat) : Nat → List (Nat × α) → Prop
  | f, [] => f ≤ n
  | f, t :: T => f ≤ t.1 ∧ t.1 < n ∧ WoOk n (t.1 + 1) T
theorem wo_ok (sn : α → Bool) (C : List α) : ∀ (f i : Nat), f ≤ i → WoOk (i + C.length) f (hadI sn i C) := by
  induction C with
  | nil => intro f i h; simpa [hadI, WoOk] using h
  | cons y C ih =>
    intro f i h
    unfold hadI
    have e : i + (y :: C).length = i + 1 + C.length := by simp; omega
    rw [e]
    by_cases hs : sn y = true
    · rw [if_pos hs]
      exact ⟨h, by show i < _; omega, ih (i + 1) (i + 1) (Nat.le_refl _)⟩
    · rw [if_neg hs]
      exact ih f (i + 1) (by omega)
theorem wo_ok_all (sn : α → Bool) (L : List α) : WoOk L.length 0 (hadI sn 0 L) := by
  have := wo_ok sn L 0 0 (Nat.le_refl _)
  simpa using this
def wi : List α → List α → List (Nat × α) → List α
  | l, rest, [] => l ++ rest
  | l, rest, t :: T => wi (l ++ rest.take (t.1 - l.length) ++ [t.2]) (rest.drop (t.1 - l.length)) T
theorem wi_had (sn : α → Bool) (C : List α) : ∀ (l B : List α), wi l (B ++ res sn C) (hadI sn (l.length + B.length) C) = l ++ B ++ C := by
  induction C with
  | nil => intro l B; simp [hadI, wi, res]
  | cons y C ih =>
    intro l B
    unfold hadI
    by_cases h : sn y = true
    · rw [if_pos h]
      unfold wi
      have e1 : l.length + B.length - l.length = B.length := by omega
      have e2 : res sn (y :: C) = res sn C := by unfold res; rw [List.filter_cons_of_neg (by simp [h])]
      have := ih (l ++ B ++ [y]) []
      rw [show (l ++ B ++ [y]).length + ([] : List α).length = l.length + B.length + 1 by simp; omega] at this
      rw [show ((l.length + B.length, y) : Nat × α).1 = l.length + B.length from rfl, e1, e2, List.take_left, List.drop_left]
      simpa using this
    · rw [if_neg h]
      have e2 : res sn (y :: C) = y :: res sn C := by unfold res; rw [List.filter_cons_of_pos (by simp [h])]
      have := ih l (B ++ [y])
      rw [show l.length + (B ++ [y]).length = l.length + B.length + 1 by simp; omega] at this
      rw [e2, show B ++ y :: res sn C = B ++ [y] ++ res sn C by simp, this]
      simp
theorem wi_all (sn : α → Bool) (L : List α) : wi [] (res sn L) (hadI sn 0 L) = L := by
  have := wi_had sn L [] []
  simpa using this
inductive WiOk : List α → List α → List (Nat × α) → Prop
  | nil (l rest) : WiOk l rest []
  | cons {l rest : List α} {t : Nat × α} {T : List (Nat × α)} : l.length ≤ t.1 → t.1 - l.length ≤ rest.length → WiOk (l ++ rest.take (t.1 - l.length) ++ [t.2]) (rest.drop (t.1 - l.length)) T → WiOk l rest (t :: T)
theorem wi_ok (sn : α → Bool) (C : List α) : ∀ (l B : List α), WiOk l (B ++ res sn C) (hadI sn (l.length + B.length) C) := by
  induction C with
  | nil => intro l B; exact WiOk.nil _ _
  | cons y C ih =>
    intro l B
    unfold hadI
    by_cases h : sn y = true
    · rw [if_pos h]
      have e1 : l.length + B.length - l.length = B.length := by omega
      have e2 : res sn (y :: C) = res sn C := by unfold res; rw [List.filter_cons_of_neg (by simp [h])]
      refine WiOk.cons (by show l.length ≤ l.length + B.length; omega) (by show l.length + B.length - l.length ≤ _; rw [e1]; simp) ?_
      have := ih (l ++ B ++ [y]) []
      rw [show (l ++ B ++ [y]).length + ([] : List α).length = l.length + B.length + 1 by simp; omega] at this
      rw [show ((l.length + B.length, y) : Nat × α).1 = l.length + B.length from rfl, e1, e2, List.take_left, List.drop_left]
      simpa using this
    · rw [if_neg h]
      have e2 : res sn (y :: C) = y :: res sn C := by unfold res; rw [List.filter_cons_of_pos (by simp [h])]
      have := ih l (B ++ [y])
      rw [show l.length + (B ++ [y]).length = l.length + B.length + 1 by simp; omega] at this
      rw [e2, show B ++ y :: res sn C = B ++ [y] ++ res sn C by simp]
      exact this
theorem wi_ok_all (sn : α → Bool) (L : List α) : WiOk [] (res sn L) (hadI sn 0 L) := by
  have := wi_ok sn L [] []
  simpa using this
def ch (g : α → α → α) : List α → List (Nat × α) → List α
  | l, [] => l
  | l, t :: T => ch g (match l[t.1]? with | some y => l.set t.1 (g y t.2) | none => l) T
theorem ch_had (sn : α → Bool) (g : α → α → α) (c : α → α) (C : List α) : ∀ (A : List α), ch g (A ++ C.map c) (hadI sn A.length C) = A ++ C.map (fun x => if sn x then g (c x) x else c x) := by
  induction C with
  | nil => intro A; simp [hadI, ch]
  | cons y C ih =>
    intro A
    unfold hadI
    have hA : (A ++ (y :: C).map c)[A.length]? = some (c y) := by simp
    by_cases h : sn y = true
    · rw [if_pos h]
      unfold ch
      rw [show ((A.length, y) : Nat × α).1 = A.length from rfl, hA]
      simp only
      have := ih (A ++ [g (c y) y])
      rw [show (A ++ [g (c y) y]).length = A.length + 1 by simp] at this
      rw [show (A ++ (y :: C).map c).set A.length (g (c y) y) = A ++ [g (c y) y] ++ C.map c by simp [List.set_append_right], this]
      simp [h]
    · rw [if_neg h]
      have := ih (A ++ [c y])
      rw [show (A ++ [c y]).length = A.length + 1 by simp] at this
      rw [show A ++ (y :: C).map c = A ++ [c y] ++ C.map c by simp, this]
      simp [h]
end
end Rg
end Go.Proofs.YtldlljobofnmmaaDoor
namespace Go.Proofs.YtldlljobofnmmaaDoor
open Go.RowKit
set_option linter.unusedVariables false
set_option linter.unusedSimpArgs false
structure VaV where
  k : Int
  n : Int
  f : Nat
  s : ByteArray
  deriving DecidableEq
structure VaV.ok (x : VaV) : Prop where
  k0 : 0 ≤ x.k
  k1 : x.k ≤ 255
  lo : -9223372036854775808 ≤ x.n
  hi : x.n ≤ 9223372036854775807
  ff : x.f < 18446744073709551616
  ss : x.s.size ≤ maxLen
def VaV.c (x : VaV) : List Value := [.int .u8 x.k, .int .i64 x.n, .float .f64 x.f, .string x.s]
def VaV.v (x : VaV) : Value := .agg x.c.toArray
def zVa : VaV := ⟨0, 0, 0, ⟨#[]⟩⟩
theorem zVa_ok : zVa.ok := ⟨by decide, by decide, by decide, by decide, by decide, by decide⟩
theorem VaV.len (x : VaV) : x.c.length = 4 := rfl
theorem VaV.one (x : VaV) : ∀ v ∈ x.c, v.oneCell' = true := by
  intro v hv
  simp only [VaV.c, List.mem_cons, List.not_mem_nil, or_false] at hv
  rcases hv with rfl | rfl | rfl | rfl <;> rfl
structure EnV where
  id : IdK
  v : VaV
  deriving DecidableEq
structure EnV.ok (x : EnV) : Prop where
  i : x.id.ok
  w : x.v.ok
def EnV.c (x : EnV) : List Value := x.id.c ++ x.v.c
def EnV.a (x : EnV) : Value := .agg x.c.toArray
def zEn : EnV := ⟨zId, zVa⟩
theorem zEn_ok : zEn.ok := ⟨zId_ok, zVa_ok⟩
theorem EnV.len {x : EnV} (h : x.ok) : x.c.length = 37 := by simp [EnV.c, IdK.len h.i, VaV.len]
theorem EnV.one (x : EnV) : ∀ v ∈ x.c, v.oneCell' = true := by
  intro v hv
  rcases List.mem_append.1 hv with h | h
  · exact x.id.one v h
  · exact x.v.one v h
def RN : RowT EnV := ⟨EnV.c, EnV.ok, 37, 80, 63, 60, zEn⟩
theorem RN_is : RN.Is := ⟨zEn_ok, fun _ h => EnV.len h, EnV.one, Tryd.underlying60, by kernel_rfl, ⟨_, Tryd.underlying63, rfl⟩, by decide, by decide⟩
def sdC (x : Nat × EnV) : List Value := .int .i64 (x.1 : Int) :: x.2.c
def RD : RowT (Nat × EnV) := ⟨sdC, fun x => x.2.ok ∧ x.1 ≤ 9223372036854775807, 38, 88, 125, 101, (0, zEn)⟩
theorem RD_is : RD.Is := ⟨⟨zEn_ok, by decide⟩, fun x h => by show (sdC x).length = 38; simp [sdC, EnV.len h.1], fun x v hv => by
  rcases List.mem_cons.1 hv with rfl | hv
  · rfl
  · exact x.2.one v hv, Tryd.underlying101, by kernel_rfl, ⟨_, Tryd.underlying125, rfl⟩, by decide, by decide⟩
structure PlK where
  o : IdK
  k : ByteArray
  a : IdK
  deriving DecidableEq
structure PlK.ok (x : PlK) : Prop where
  o : x.o.ok
  k : x.k.size ≤ maxLen
  a : x.a.ok
def PlK.c (x : PlK) : List Value := x.o.c ++ (.string x.k :: x.a.c)
def PlK.v (x : PlK) : Value := .agg x.c.toArray
def zPl : PlK := ⟨zId, ⟨#[]⟩, zId⟩
theorem zPl_ok : zPl.ok := ⟨zId_ok, by decide, zId_ok⟩
theorem PlK.len {x : PlK} (h : x.ok) : x.c.length = 67 := by simp [PlK.c, IdK.len h.o, IdK.len h.a]
theorem PlK.one (x : PlK) : ∀ v ∈ x.c, v.oneCell' = true := by
  intro v hv
  rcases List.mem_append.1 hv with h | h
  · exact x.o.one v h
  · rcases List.mem_cons.1 h with rfl | h
    · rfl
    · exact x.a.one v h
theorem agId (w : World) : (isAgg 38).run Tryd.prog w = .ok true w := by simp [isAgg, run_underlying Tryd.underlying38]
theorem agStr (w : World) : (isAgg 9).run Tryd.prog w = .ok false w := by simp [isAgg, run_underlying Tryd.underlying9]
theorem szIdS (w : World) : (sizeOf 38).run Tryd.prog w = .ok 33 w := m_sz (by kernel_rfl) w
theorem flPl : (Tryd.prog.fieldsOf 52).toList = [⟨"Obj", 38, 0, false, "", "", 0⟩, ⟨"Key", 9, 33, false, "", "", 40⟩, ⟨"At", 38, 34, false, "", "", 56⟩] := by simp [Program.fieldsOf, Tryd.underlying52]
theorem eqPl (d : Nat) (a b : PlK) (ha : a.ok) (hb : b.ok) (w : World) : (Op.equalIn (d + 4) 52 a.v b.v).run Tryd.prog w = .ok (decide (a = b)) w := by
  unfold PlK.v
  rw [run_equalIn_agg w (d + 3) 52 _ _ (by simp [Program.fieldsOf, Tryd.underlying52]) (by kernel_rfl), flPl]
  have e : decide (a = b) = (decide (a.o = b.o) && ((a.k.toList == b.k.toList) && (decide (a.a = b.a) && true))) := by
    rw [Bool.eq_iff_iff]
    obtain ⟨o1, k1, a1⟩ := a
    obtain ⟨o2, k2, a2⟩ := b
    simp only [decide_eq_true_eq, PlK.mk.injEq, Bool.and_eq_true, beq_iff_eq, Bool.and_true]
    constructor
    · rintro ⟨rfl, rfl, rfl⟩; exact ⟨rfl, rfl, rfl⟩
    · rintro ⟨rfl, h, rfl⟩
      refine ⟨rfl, ?_, rfl⟩
      rw [ByteArray.toList_eq, ByteArray.toList_eq] at h
      cases k1; cases k2
      congr 1
      exact Array.toList_inj.1 h
  rw [e]
  refine m_eqF (by decide) (m_agg (agId w) (szIdS w) (m_sub (A := []) (B := a.o.c) rfl rfl (IdK.len ha.o))) (m_agg (agId w) (szIdS w) (m_sub (A := []) (B := b.o.c) rfl rfl (IdK.len hb.o))) (eqId d a.o b.o ha.o hb.o w) ?_
  refine m_eqF (by decide) (m_one (agStr w) (m_get (A := a.o.c) rfl (IdK.len ha.o))) (m_one (agStr w) (m_get (A := b.o.c) rfl (IdK.len hb.o))) (run_equalIn_string w (d + 2) 9 _ _ Tryd.underlying9) ?_
  refine m_eqF (by decide) (m_agg (agId w) (szIdS w) (m_sub (A := a.o.c ++ [.string a.k]) (B := a.a.c) (C := []) (by simp [PlK.c]) (by simp [IdK.len ha.o]) (IdK.len ha.a))) (m_agg (agId w) (szIdS w) (m_sub (A := b.o.c ++ [.string b.k]) (B := b.a.c) (C := []) (by simp [PlK.c]) (by simp [IdK.len hb.o]) (IdK.len hb.a))) (eqId d a.a b.a ha.a hb.a w) ?_
  simp [Op.eqFields]
theorem same_bits2 : ∀ (l : List Value), (∀ v ∈ l, (∃ q n, v = .int q n) ∨ ∃ s, v = .string s) → ((l.zip l).all fun x => Instr.sameBits 9999 x.1 x.2) = true := by
  intro l hl
  rw [List.all_eq_true]
  intro x hx
  obtain ⟨i, hi⟩ := List.getElem?_of_mem hx
  rw [List.getElem?_zip_eq_some] at hi
  have e : x.1 = x.2 := Option.some.inj (hi.1.symm.trans hi.2)
  rcases hl x.1 (List.mem_of_getElem? hi.1) with ⟨q, n, hv⟩ | ⟨s, hv⟩
  · rw [← e, hv]; simp [Instr.sameBits]
  · rw [← e, hv]; simp only [Instr.sameBits]; exact (MapKept.bytes_beq s s).2 rfl
theorem id_ints (k : IdK) : ∀ v ∈ k.c, (∃ q n, v = .int q n) := by
  intro v hv
  simp only [IdK.c, List.mem_append, List.mem_singleton] at hv
  rcases hv with h | rfl
  · obtain ⟨n, _, e⟩ := hcs_int _ v h
    exact ⟨_, _, e⟩
  · exact ⟨_, _, rfl⟩
theorem pl_bits (k : PlK) : Instr.sameBits 10000 k.v k.v = true := by
  unfold PlK.v
  rw [Instr.sameBits]
  simp only [BEq.rfl, Bool.true_and]
  refine same_bits2 _ (fun v hv => ?_)
  rcases List.mem_append.1 hv with h | h
  · exact .inl (id_ints _ v h)
  · rcases List.mem_cons.1 h with rfl | h
    · exact .inr ⟨_, rfl⟩
    · exact .inl (id_ints _ v h)
theorem pl_lits (D : Nat) (k : PlK) (hk : k.ok) : ∃ la, Tryd.prog.keyLits (D + 4) 52 k.c = some la := by
  have hc : Tryd.prog.cellsOf 52 = 67 := by kernel_rfl
  have hci : Tryd.prog.cellsOf 38 = 33 := by kernel_rfl
  have hcs : Tryd.prog.cellsOf 9 = 1 := by kernel_rfl
  obtain ⟨l1, h1⟩ := id_lits D k.o hk.o
  obtain ⟨l2, h2⟩ := id_lits D k.a hk.a
  have lo := IdK.len hk.o
  have la := IdK.len hk.a
  have e1 : k.c.take 33 = k.o.c := by rw [PlK.c, ← lo, List.take_left]
  have e2 : (k.c.drop 33).take 1 = [.string k.k] := by rw [PlK.c, ← lo, List.drop_left]; rfl
  have e3 : (k.c.drop 34).take 33 = k.a.c := by
    rw [PlK.c, show k.o.c ++ (Value.string k.k :: k.a.c) = (k.o.c ++ [.string k.k]) ++ k.a.c by simp, show 34 = (k.o.c ++ [Value.string k.k]).length by simp [lo], List.drop_left, ← la, List.take_length]
  have e4 : Tryd.prog.keyLits (D + 3) 9 [.string k.k] = some [.string k.k.data.toList] := by
    unfold Program.keyLits
    simp only [Tryd.underlying9]
    rw [if_pos hk.k]
  unfold Program.keyLits
  simp only [Tryd.underlying52]
  rw [if_pos ⟨by rw [PlK.len hk, hc], by simp⟩]
  simp [hci, hcs, e1, e2, e3, h1, h2, e4]
theorem pl_chk (b : Bool) (k : PlK) (w : World) (hk : k.ok) : (Instr.checkKey b 10000 52 k.v).run Tryd.prog w = .ok () w := by
  obtain ⟨la, h⟩ := pl_lits 0 k hk
  have hf : k.v.formed Tryd.prog 52 = true := by
    unfold PlK.v Value.formed
    simp only [Tryd.underlying52]
    rw [List.size_toArray, PlK.len hk]
    kernel_rfl
  exact run_checkKey_deep b 9990 10 52 (by kernel_rfl) w 4 k.v la hf (by simpa [PlK.v, Value.cells] using h)
theorem plKey : M.KeyOk Tryd.prog 52 PlK.v PlK.ok := {
  chk := fun b k w hk => pl_chk b k w hk
  eq := fun a b w ha hb => eqPl 9996 a b ha hb w
  und := ⟨_, Tryd.underlying52, .inl fun a b => rfl⟩
  bits := pl_bits }
theorem ba_inj {a b : ByteArray} (h : a.toList = b.toList) : a = b := by
  rw [ByteArray.toList_eq, ByteArray.toList_eq] at h
  cases a; cases b
  congr 1
  exact Array.toList_inj.1 h
def tx (s : ByteArray) : Value := .string s
theorem txKey : M.KeyOk Tryd.prog 9 tx (fun s => s.size ≤ maxLen) := {
  chk := fun b k w hk => MapKept.run_checkKey (d := .string) (k := .string k) Tryd.underlying9 trivial b 9999
  eq := fun a b w ha hb => by
    have : (Op.equal 9 (.string a) (.string b)).run Tryd.prog w = .ok (a.toList == b.toList) w := by
      unfold Op.equal Op.maxDepth
      exact run_equalIn_string w 9999 9 _ _ Tryd.underlying9
    have e : decide (a = b) = (a.toList == b.toList) := by
      rw [Bool.eq_iff_iff]
      simp only [decide_eq_true_eq, beq_iff_eq]
      constructor
      · rintro rfl; rfl
      · exact ba_inj
    rw [e]
    exact this
  und := ⟨_, Tryd.underlying9, .inr fun a b => by
    have e : (a == b) = decide (a = b) := by rw [Bool.eq_iff_iff, MapKept.bytes_beq, decide_eq_true_eq]
    rw [← e]
    rfl⟩
  bits := fun k => by
    simp only [tx, Instr.sameBits]
    exact (MapKept.bytes_beq k k).2 rfl }
theorem hidMk {p : Prop} (h : p) : Hid p := h
section
variable {P : Program} {w w2 : World} {a : Act} {o : Oper} {F : Nat} {ts : Array TypeId} {caps : Array Value}
theorem exec_mkf2 {x1 x2 : Operand} {v1 v2 : Value} (ho : o.op = .makeFunc (.func F) #[] #[x1, x2]) (h1 : a.eval x1 = v1) (h2 : a.eval x2 = v2) : (execOp a.eval o).run P w = .ok (.value (.func (.func F) #[] #[v1, v2])) w := by
  unfold execOp; simp [ho, h1, h2, Result.andThen, Instr.makeFunc]
theorem exec_mkf1 {x1 : Operand} {v1 : Value} (ho : o.op = .makeFunc (.func F) #[] #[x1]) (h1 : a.eval x1 = v1) : (execOp a.eval o).run P w = .ok (.value (.func (.func F) #[] #[v1])) w := by
  unfold execOp; simp [ho, h1, Result.andThen, Instr.makeFunc]
theorem exec_bs0 {t : TypeId} {v : Value} (ho : o.op = .buildSlice t 0 #[]) (hl : (Instr.buildSlice t 0 #[]).run P w = .ok v w2) : (execOp a.eval o).run P w = .ok (.value v) w2 := by
  unfold execOp; simp only [ho, List.map_toArray, List.map_nil, Sem.run_bind, hl, Result.andThen_ok, Sem.run_pure]
theorem exec_cv1 {x0 x1 : Operand} {v1 : Value} (ho : o.op = .call { callee := .value x0, args := #[x1], argTypes := ts }) (h0 : a.eval x0 = .func (.func F) #[] caps) (h1 : a.eval x1 = v1) (hf : ∀ vs (W : World), (callFunc F vs).run P W = .ok (.enter F vs) W) : (execOp a.eval o).run P w = .ok (.enter F (#[v1] ++ caps)) w := by
  unfold execOp; simp [ho, resolve, invoke, h1, h0, Deferred.ofValue, Result.andThen, hf]
end
structure Tells (w : World) (F : Nat) (caps : Array Value) (sn : IdK → Bool) : Prop where
  en : ∀ vs (W : World), (callFunc F vs).run Tryd.prog W = .ok (.enter F vs) W
  an : ∀ W, Below w.heap.size w W → ∀ k : IdK, k.ok → Calls Tryd.prog F (#[k.v] ++ caps) W fun e W' => e = .returned (.bool (sn k)) ∧ Below W.heap.size W W'
theorem Tells.below {w w' : World} {F : Nat} {caps : Array Value} {sn : IdK → Bool} (h : Tells w F caps sn) (b : Below w.heap.size w w') : Tells w' F caps sn := ⟨h.en, fun W bW => h.an W (b.trans (bW.mono b.size))⟩
section
variable {w : World} {b o : Nat} {x : EnV}
theorem ld_en (hx : x.ok) (h : w.rangeAt b o x.c) : (Instr.loadAt 63 (.pointer (some ⟨b, o, none⟩))).run Tryd.prog w = .ok x.a w := RowT.ld RN_is hx h
theorem rng_id (hx : x.ok) (h : w.rangeAt b o x.c) : w.rangeAt b o x.id.c := fun j v hv => h j v (by rw [EnV.c, List.getElem?_append_left (List.getElem?_eq_some_iff.1 hv).1]; exact hv)
theorem rng_va (hx : x.ok) (h : w.rangeAt b o x.c) : w.rangeAt b (o + 33) x.v.c := fun j v hv => by
  rw [Nat.add_assoc]
  exact h (33 + j) v (by rw [EnV.c, List.getElem?_append_right (by rw [IdK.len hx.i]; omega), IdK.len hx.i, show 33 + j - 33 = j by omega]; exact hv)
theorem en_id (hx : x.ok) (h : w.rangeAt b o x.c) : (Instr.loadAt 38 (.pointer (some ⟨b, o + 0, none⟩))).run Tryd.prog w = .ok x.id.v w :=
  run_loadAt_mid (P := Tryd.prog) w b o 38 x.id.c _ (rng_id hx h) Tryd.underlying38 rfl (by rw [IdK.len hx.i]; exact szId)
theorem szVa : (Tryd.prog.info? 42).map (·.size) = some 4 := by kernel_rfl
theorem ld_va {x : VaV} (h : w.rangeAt b o x.c) : (Instr.loadAt 42 (.pointer (some ⟨b, o, none⟩))).run Tryd.prog w = .ok x.v w :=
  run_loadAt_mid (P := Tryd.prog) w b o 42 x.c _ h Tryd.underlying42 rfl (by rw [VaV.len]; exact szVa)
theorem en_va (hx : x.ok) (h : w.rangeAt b o x.c) : (Instr.loadAt 42 (.pointer (some ⟨b, o + 33, none⟩))).run Tryd.prog w = .ok x.v.v w := ld_va (rng_va hx h)
variable {t : Nat × EnV}
theorem ld_sd (hx : RD.ok t) (h : w.rangeAt b o (sdC t)) : (Instr.loadAt 125 (.pointer (some ⟨b, o, none⟩))).run Tryd.prog w = .ok (.agg (sdC t).toArray) w := RowT.ld RD_is hx h
theorem rng_sd (h : w.rangeAt b o (sdC t)) : w.rangeAt b (o + 1) t.2.c := fun j v hv => by rw [Nat.add_assoc, Nat.add_comm 1 j]; exact h (j + 1) v (by rw [sdC, List.getElem?_cons_succ]; exact hv)
theorem sd_at (h : w.rangeAt b o (sdC t)) : (Instr.loadAt 3 (.pointer (some ⟨b, o + 0, none⟩))).run Tryd.prog w = .ok (.int .i64 (t.1 : Int)) w := by
  have hc : w.cell? ⟨b, o, none⟩ = some (.int .i64 (t.1 : Int)) := h 0 _ rfl
  go_simp
theorem sd_en (hx : RD.ok t) (h : w.rangeAt b o (sdC t)) : (Instr.loadAt 63 (.pointer (some ⟨b, o + 1, none⟩))).run Tryd.prog w = .ok t.2.a w := ld_en hx.1 (rng_sd h)
theorem sd_va (hx : RD.ok t) (h : w.rangeAt b o (sdC t)) : (Instr.loadAt 42 (.pointer (some ⟨b, o + 1 + 33, none⟩))).run Tryd.prog w = .ok t.2.v.v w := en_va hx.1 (rng_sd h)
theorem szPl : (Tryd.prog.info? 52).map (·.size) = some 67 := by kernel_rfl
theorem ld_pl {x : PlK} (hx : x.ok) (h : w.rangeAt b o x.c) : (Instr.loadAt 52 (.pointer (some ⟨b, o, none⟩))).run Tryd.prog w = .ok x.v w :=
  run_loadAt_mid (P := Tryd.prog) w b o 52 x.c _ h Tryd.underlying52 rfl (by rw [PlK.len hx]; exact szPl)
theorem pl_o {x : PlK} (hx : x.ok) (h : w.rangeAt b o x.c) : (Instr.loadAt 38 (.pointer (some ⟨b, o + 0, none⟩))).run Tryd.prog w = .ok x.o.v w :=
  run_loadAt_mid (P := Tryd.prog) w b o 38 x.o.c _ (fun j v hv => h j v (by rw [PlK.c, List.getElem?_append_left (List.getElem?_eq_some_iff.1 hv).1]; exact hv)) Tryd.underlying38 rfl (by rw [IdK.len hx.o]; exact szId)
theorem pl_k {x : PlK} (hx : x.ok) (h : w.rangeAt b o x.c) : (Instr.loadAt 9 (.pointer (some ⟨b, o + 33, none⟩))).run Tryd.prog w = .ok (.string x.k) w := by
  have hc : w.cell? ⟨b, o + 33, none⟩ = some (.string x.k) := h 33 _ (by rw [PlK.c, List.getElem?_append_right (by rw [IdK.len hx.o]; omega), IdK.len hx.o]; rfl)
  go_simp
theorem pl_a {x : PlK} (hx : x.ok) (h : w.rangeAt b o x.c) : (Instr.loadAt 38 (.pointer (some ⟨b, o + 34, none⟩))).run Tryd.prog w = .ok x.a.v w :=
  run_loadAt_mid (P := Tryd.prog) w b (o + 34) 38 x.a.c _ (fun j v hv => by
    rw [Nat.add_assoc]
    exact h (34 + j) v (by rw [PlK.c, List.getElem?_append_right (by rw [IdK.len hx.o]; omega), IdK.len hx.o, show 34 + j - 33 = j + 1 by omega, List.getElem?_cons_succ]; exact hv)) Tryd.underlying38 rfl (by rw [IdK.len hx.a]; exact szId)
end
theorem ix_en {b o m c i : Nat} (hi : i < m) (hm : m ≤ 9223372036854775807) (W : World) : (Instr.indexAt 60 (.slice (some ⟨b, o, none⟩) m c) (.int .i64 (i : Int))).run Tryd.prog W = .ok (.pointer (some ⟨b, o + 37 * i, none⟩)) W := by
  have := Nat.mul_comm 37 i
  go_simp
theorem ix_sd {b o m c i : Nat} (hi : i < m) (hm : m ≤ 9223372036854775807) (W : World) : (Instr.indexAt 101 (.slice (some ⟨b, o, none⟩) m c) (.int .i64 (i : Int))).run Tryd.prog W = .ok (.pointer (some ⟨b, o + 38 * i, none⟩)) W := by
  have := Nat.mul_comm 38 i
  go_simp
theorem len_en (a : Option Addr) (n c : Nat) (W : World) (ty : TypeId) : (Builtin.len_ #[60] ty #[.slice a n c]).run Tryd.prog W = .ok (.int .i64 (n : Int)) W := by go_simp
theorem len_sd (a : Option Addr) (n c : Nat) (W : World) (ty : TypeId) : (Builtin.len_ #[101] ty #[.slice a n c]).run Tryd.prog W = .ok (.int .i64 (n : Int)) W := by go_simp
end Go.Proofs.YtldlljobofnmmaaDoor
namespace Go.Proofs.YtldlljobofnmmaaDoor
open Go.RowKit
theorem fg_63_0 (b o : Nat) (w : World) : (Instr.fieldAt 63 (.pointer (some ⟨b, o, none⟩)) 0).run Tryd.prog w = .ok (.pointer (some ⟨b, o + 0, none⟩)) w := by go_simp
theorem fg_63_1 (b o : Nat) (w : World) : (Instr.fieldAt 63 (.pointer (some ⟨b, o, none⟩)) 1).run Tryd.prog w = .ok (.pointer (some ⟨b, o + 33, none⟩)) w := by go_simp
theorem fg_125_0 (b o : Nat) (w : World) : (Instr.fieldAt 125 (.pointer (some ⟨b, o, none⟩)) 0).run Tryd.prog w = .ok (.pointer (some ⟨b, o + 0, none⟩)) w := by go_simp
theorem fg_125_1 (b o : Nat) (w : World) : (Instr.fieldAt 125 (.pointer (some ⟨b, o, none⟩)) 1).run Tryd.prog w = .ok (.pointer (some ⟨b, o + 1, none⟩)) w := by go_simp
theorem fg_52_0 (b o : Nat) (w : World) : (Instr.fieldAt 52 (.pointer (some ⟨b, o, none⟩)) 0).run Tryd.prog w = .ok (.pointer (some ⟨b, o + 0, none⟩)) w := by go_simp
theorem fg_52_1 (b o : Nat) (w : World) : (Instr.fieldAt 52 (.pointer (some ⟨b, o, none⟩)) 1).run Tryd.prog w = .ok (.pointer (some ⟨b, o + 33, none⟩)) w := by go_simp
theorem fg_52_2 (b o : Nat) (w : World) : (Instr.fieldAt 52 (.pointer (some ⟨b, o, none⟩)) 2).run Tryd.prog w = .ok (.pointer (some ⟨b, o + 34, none⟩)) w := by go_simp
theorem fg_84_0 (b o : Nat) (w : World) : (Instr.fieldAt 84 (.pointer (some ⟨b, o, none⟩)) 0).run Tryd.prog w = .ok (.pointer (some ⟨b, o + 0, none⟩)) w := by go_simp
theorem fg_84_1 (b o : Nat) (w : World) : (Instr.fieldAt 84 (.pointer (some ⟨b, o, none⟩)) 1).run Tryd.prog w = .ok (.pointer (some ⟨b, o + 1, none⟩)) w := by go_simp
theorem fg_84_2 (b o : Nat) (w : World) : (Instr.fieldAt 84 (.pointer (some ⟨b, o, none⟩)) 2).run Tryd.prog w = .ok (.pointer (some ⟨b, o + 2, none⟩)) w := by go_simp
theorem fg_111_0 (b o : Nat) (w : World) : (Instr.fieldAt 111 (.pointer (some ⟨b, o, none⟩)) 0).run Tryd.prog w = .ok (.pointer (some ⟨b, o + 0, none⟩)) w := by go_simp
theorem fg_111_1 (b o : Nat) (w : World) : (Instr.fieldAt 111 (.pointer (some ⟨b, o, none⟩)) 1).run Tryd.prog w = .ok (.pointer (some ⟨b, o + 1, none⟩)) w := by go_simp
theorem fg_42_1 (b o : Nat) (w : World) : (Instr.fieldAt 42 (.pointer (some ⟨b, o, none⟩)) 1).run Tryd.prog w = .ok (.pointer (some ⟨b, o + 1, none⟩)) w := by go_simp
theorem fg_42_2 (b o : Nat) (w : World) : (Instr.fieldAt 42 (.pointer (some ⟨b, o, none⟩)) 2).run Tryd.prog w = .ok (.pointer (some ⟨b, o + 2, none⟩)) w := by go_simp
theorem fg_42_3 (b o : Nat) (w : World) : (Instr.fieldAt 42 (.pointer (some ⟨b, o, none⟩)) 3).run Tryd.prog w = .ok (.pointer (some ⟨b, o + 3, none⟩)) w := by go_simp
end Go.Proofs.YtldlljobofnmmaaDoor
namespace Go.Proofs.YtldlljobofnmmaaDoor
open Go.RowKit
set_option linter.unusedVariables false
set_option linter.unusedSimpArgs false
section
variable {κ : Type} {R : RowT κ}
theorem RowT.At.take {w : World} {a : Option Addr} {L : List κ} (h : R.At w a L) (n : Nat) : R.At w a (L.take n) := by
  rcases h with rfl | ⟨b, o, e, hl, hr⟩
  · exact .inl (by simp)
  · exact .inr ⟨b, o, e, hl, fun i x hx => hr i x (by rw [List.getElem?_take] at hx; split at hx; exact hx; cases hx)⟩
theorem RowT.szR (I : R.Is) (W : World) : (sizeOf R.e).run Tryd.prog W = .ok R.k W := m_sz (RowT.sz I) W
theorem RowT.sl_upto (I : R.Is) (a : Option Addr) {n c m : Nat} (hm : m ≤ c) (W : World) : (Instr.sliceAt R.t (.slice a n c) none (some (.int .i64 (m : Int))) none).run Tryd.prog W = .ok (.slice a m c) W := by
  have h1 : (0 : Int) ≤ (m : Int) ∧ (m : Int) ≤ (c : Int) := by omega
  cases a with
  | none =>
    simp only [Instr.sliceAt, Instr.slice, Instr.sliceBounds, Instr.sliceBound, run_underlying I.und, asIntOf, Sem.run_bind, Sem.run_pure, Result.andThen_ok, RowT.szR I]
    rw [if_pos h1]
    simp only [Sem.run_bind, Sem.run_pure, Result.andThen_ok, Int.toNat_natCast]
    simp
  | some ad =>
    simp only [Instr.sliceAt, Instr.slice, Instr.sliceBounds, Instr.sliceBound, run_underlying I.und, asIntOf, Sem.run_bind, Sem.run_pure, Result.andThen_ok, RowT.szR I]
    rw [if_pos h1]
    simp only [Sem.run_bind, Sem.run_pure, Result.andThen_ok, Int.toNat_natCast]
    obtain ⟨b, o, sp⟩ := ad
    simp [Addr.add]
theorem RowT.sl_cut (I : R.Is) (a : Option Addr) {n c m : Nat} (hm : m ≤ c) (W : World) : (Instr.sliceAt R.t (.slice a n c) none (some (.int .i64 (m : Int))) (some (.int .i64 (m : Int)))).run Tryd.prog W = .ok (.slice a m m) W := by
  have h1 : (0 : Int) ≤ (m : Int) ∧ (m : Int) ≤ (c : Int) := by omega
  have h2 : (0 : Int) ≤ (m : Int) ∧ (m : Int) ≤ (m : Int) := by omega
  cases a with
  | none =>
    simp only [Instr.sliceAt, Instr.slice, Instr.sliceBounds, Instr.sliceBound, run_underlying I.und, asIntOf, Sem.run_bind, Sem.run_pure, Result.andThen_ok, RowT.szR I]
    rw [if_pos h1]
    simp only [Sem.run_bind, Sem.run_pure, Result.andThen_ok, Int.toNat_natCast]
    rw [if_pos h2]
    simp only [Sem.run_bind, Sem.run_pure, Result.andThen_ok, Int.toNat_natCast]
    simp
  | some ad =>
    simp only [Instr.sliceAt, Instr.slice, Instr.sliceBounds, Instr.sliceBound, run_underlying I.und, asIntOf, Sem.run_bind, Sem.run_pure, Result.andThen_ok, RowT.szR I]
    rw [if_pos h1]
    simp only [Sem.run_bind, Sem.run_pure, Result.andThen_ok, Int.toNat_natCast]
    rw [if_pos h2]
    simp only [Sem.run_bind, Sem.run_pure, Result.andThen_ok, Int.toNat_natCast]
    obtain ⟨b, o, sp⟩ := ad
    simp [Addr.add]
theorem RowT.At.from {w : World} {ad : Addr} {L : List κ} (hat : R.At w (some ad) L) (n : Nat) : R.At w (some (ad.add (n * R.k))) (L.drop n) := by
  rcases hat with q | ⟨b, o, e2, hl2, hr⟩
  · exact .inl (by rw [q]; simp)
  · cases e2
    refine .inr ⟨b, o + n * R.k, by rw [Addr.add_mid], hl2, fun i x hx => ?_⟩
    rw [List.getElem?_drop] at hx
    have := hr (n + i) x hx
    rw [show o + n * R.k + R.k * i = o + R.k * (n + i) by rw [Nat.mul_add, Nat.mul_comm R.k n]; omega]
    exact this
theorem RowT.sl_from (I : R.Is) {w : World} {a : Option Addr} {L : List κ} {c n : Nat} (hat : R.At w a L) (hc : L.length ≤ c) (hn : n ≤ L.length) : ∃ a' c', (∀ W, (Instr.sliceAt R.t (.slice a L.length c) (some (.int .i64 (n : Int))) none none).run Tryd.prog W = .ok (.slice a' (L.length - n) c') W) ∧ R.At w a' (L.drop n) ∧ L.length - n ≤ c' := by
  have h2 : (0 : Int) ≤ (n : Int) ∧ (n : Int) ≤ (L.length : Int) := by omega
  cases a with
  | none =>
    refine ⟨none, c - n, fun W => ?_, ?_, by omega⟩
    · simp only [Instr.sliceAt, Instr.slice, Instr.sliceBounds, Instr.sliceBound, run_underlying I.und, asIntOf, Sem.run_bind, Sem.run_pure, Result.andThen_ok, RowT.szR I]
      rw [if_pos h2]
      simp only [Sem.run_bind, Sem.run_pure, Result.andThen_ok, Int.toNat_natCast]
      simp
    · rcases hat with q | ⟨b, o, e, _⟩
      · exact .inl (by rw [q]; simp)
      · cases e
  | some ad =>
    by_cases e : c = n
    · refine ⟨some ad, c - n, fun W => ?_, .inl (List.drop_of_length_le (by omega)), by omega⟩
      simp only [Instr.sliceAt, Instr.slice, Instr.sliceBounds, Instr.sliceBound, run_underlying I.und, asIntOf, Sem.run_bind, Sem.run_pure, Result.andThen_ok, RowT.szR I]
      rw [if_pos h2]
      simp only [Sem.run_bind, Sem.run_pure, Result.andThen_ok, Int.toNat_natCast]
      rw [if_pos e]
    · refine ⟨some (ad.add (n * R.k)), c - n, fun W => ?_, hat.from n, by omega⟩
      simp only [Instr.sliceAt, Instr.slice, Instr.sliceBounds, Instr.sliceBound, run_underlying I.und, asIntOf, Sem.run_bind, Sem.run_pure, Result.andThen_ok, RowT.szR I]
      rw [if_pos h2]
      simp only [Sem.run_bind, Sem.run_pure, Result.andThen_ok, Int.toNat_natCast]
      rw [if_neg e]
      simp
theorem RowT.sl_mid (I : R.Is) {w : World} {a : Option Addr} {L : List κ} {c n m : Nat} (hat : R.At w a L) (hc : L.length ≤ c) (hn : n ≤ m) (hm : m ≤ L.length) : ∃ a' c', (∀ W, (Instr.sliceAt R.t (.slice a L.length c) (some (.int .i64 (n : Int))) (some (.int .i64 (m : Int))) none).run Tryd.prog W = .ok (.slice a' (m - n) c') W) ∧ R.At w a' ((L.take m).drop n) := by
  have h1 : (0 : Int) ≤ (m : Int) ∧ (m : Int) ≤ (c : Int) := by omega
  have h2 : (0 : Int) ≤ (n : Int) ∧ (n : Int) ≤ (m : Int) := by omega
  cases a with
  | none =>
    refine ⟨none, c - n, fun W => ?_, ?_⟩
    · simp only [Instr.sliceAt, Instr.slice, Instr.sliceBounds, Instr.sliceBound, run_underlying I.und, asIntOf, Sem.run_bind, Sem.run_pure, Result.andThen_ok, RowT.szR I]
      rw [if_pos h1]
      simp only [Sem.run_bind, Sem.run_pure, Result.andThen_ok, Int.toNat_natCast]
      rw [if_pos h2]
      simp only [Sem.run_bind, Sem.run_pure, Result.andThen_ok, Int.toNat_natCast]
      simp
    · rcases hat with q | ⟨b, o, e, _⟩
      · exact .inl (by rw [q]; simp)
      · cases e
  | some ad =>
    by_cases e : c = n
    · refine ⟨some ad, c - n, fun W => ?_, .inl (List.drop_of_length_le (by simp; omega))⟩
      simp only [Instr.sliceAt, Instr.slice, Instr.sliceBounds, Instr.sliceBound, run_underlying I.und, asIntOf, Sem.run_bind, Sem.run_pure, Result.andThen_ok, RowT.szR I]
      rw [if_pos h1]
      simp only [Sem.run_bind, Sem.run_pure, Result.andThen_ok, Int.toNat_natCast]
      rw [if_pos h2]
      simp only [Sem.run_bind, Sem.run_pure, Result.andThen_ok, Int.toNat_natCast]
      rw [if_pos e]
    · refine ⟨some (ad.add (n * R.k)), c - n, fun W => ?_, (hat.take m).from n⟩
      simp only [Instr.sliceAt, Instr.slice, Instr.sliceBounds, Instr.sliceBound, run_underlying I.und, asIntOf, Sem.run_bind, Sem.run_pure, Result.andThen_ok, RowT.szR I]
      rw [if_pos h1]
      simp only [Sem.run_bind, Sem.run_pure, Result.andThen_ok, Int.toNat_natCast]
      rw [if_pos h2]
      simp only [Sem.run_bind, Sem.run_pure, Result.andThen_ok, Int.toNat_natCast]
      rw [if_neg e]
      simp
def RowT.Bx (R : RowT κ) (w : World) (b : Nat) (x : κ) : Prop := w.heap[b]? = some (.cells (R.c x).toArray R.e (0, 0))
theorem RowT.Bx.rng {w : World} {b : Nat} {x : κ} (h : R.Bx w b x) : w.rangeAt b 0 (R.c x) := fun j v hv => by
  rw [Nat.zero_add, cell_of_row _ _ j _ _ _ h]
  simpa using hv
theorem RowT.Bx.below {w w' : World} {b : Nat} {x : κ} (h : R.Bx w b x) (hb : Below w.heap.size w w') : R.Bx w' b x := (hb.block b (Array.getElem?_eq_some_iff.1 h).1).trans h
theorem RowT.zeroR (I : R.Is) (w : World) : (zeroValue R.e).run Tryd.prog w = .ok (.agg (R.c R.z).toArray) w := by
  obtain ⟨i, hi, hz, hs, hby⟩ := info_parts I.info
  simp [zeroValue, typeInfo, hi, hz]
theorem RowT.bx_zero (I : R.Is) (w : World) : (Instr.alloc R.e true (.tuple #[])).run Tryd.prog w = .ok (.pointer (some ⟨w.heap.size, 0, none⟩)) (w.alloc (.cells (R.c R.z).toArray R.e)) := by
  simp only [Instr.alloc, newVar, newRow, newObj, Sem.run_bind, RowT.zeroR I, Result.andThen_ok, Value.cells]
  rfl
theorem RowT.bx_store (I : R.Is) {w : World} {b : Nat} {x u : κ} (hx : R.ok x) (hu : R.ok u) (h : R.Bx w b x) : (Instr.storeAt R.e (.pointer (some ⟨b, 0, none⟩)) (.agg (R.c u).toArray)).run Tryd.prog w = .ok () (w.setRow b (R.c u).toArray) := by
  have e2 := run_storeVar_row (P := Tryd.prog) w b R.e R.e (R.c x).toArray (R.c u).toArray h (by rw [List.size_toArray, I.len u hu]; exact RowT.sz I)
    (by rw [List.size_toArray, List.size_toArray, I.len u hu, I.len x hx]) (by rw [List.all_toArray, List.all_eq_true]; exact I.one u)
  simp only [Instr.storeAt, Instr.sureAddr, Sem.run_bind, Sem.run_pure, Result.andThen_ok, e2]
theorem RowT.bx_new (I : R.Is) (w : World) {u : κ} (hu : R.ok u) : (Instr.storeAt R.e (.pointer (some ⟨w.heap.size, 0, none⟩)) (.agg (R.c u).toArray)).run Tryd.prog (w.alloc (.cells (R.c R.z).toArray R.e)) = .ok () (w.alloc (.cells (R.c u).toArray R.e)) := by
  have := RowT.bx_store I (w := w.alloc (.cells (R.c R.z).toArray R.e)) (b := w.heap.size) I.zok hu (heap_alloc_new _ _)
  rw [World.setRow_alloc_new] at this
  exact this
theorem RowT.bx_is (R : RowT κ) (w : World) (u : κ) : R.Bx (w.alloc (.cells (R.c u).toArray R.e)) w.heap.size u ∧ Below w.heap.size w (w.alloc (.cells (R.c u).toArray R.e)) := ⟨heap_alloc_new _ _, (Below.refl _ _).alloc (Nat.le_refl _) _⟩
end
theorem build_sd0 (w : World) (z : Int) (a0 a1 a2 a3 a4 a5 a6 a7 a8 a9 a10 a11 a12 a13 a14 a15 a16 a17 a18 a19 a20 a21 a22 a23 a24 a25 a26 a27 a28 a29 a30 a31 a32 a33 a34 a35 a36 : Value) : (Instr.build 125 #[(0, .int .i64 z), (1, .agg [a0, a1, a2, a3, a4, a5, a6, a7, a8, a9, a10, a11, a12, a13, a14, a15, a16, a17, a18, a19, a20, a21, a22, a23, a24, a25, a26, a27, a28, a29, a30, a31, a32, a33, a34, a35, a36].toArray)]).run Tryd.prog w = .ok (.agg (Value.int .i64 z :: [a0, a1, a2, a3, a4, a5, a6, a7, a8, a9, a10, a11, a12, a13, a14, a15, a16, a17, a18, a19, a20, a21, a22, a23, a24, a25, a26, a27, a28, a29, a30, a31, a32, a33, a34, a35, a36]).toArray) w := by kernel_rfl
theorem build_sd (w : World) (n : Nat) {x : EnV} (hx : x.ok) : (Instr.build 125 #[(0, .int .i64 (n : Int)), (1, x.a)]).run Tryd.prog w = .ok (.agg (sdC (n, x)).toArray) w := by
  have h := EnV.len hx
  unfold sdC EnV.a
  simp only
  generalize x.c = l at *
  match l, h with
  | a0 :: a1 :: a2 :: a3 :: a4 :: a5 :: a6 :: a7 :: a8 :: a9 :: a10 :: a11 :: a12 :: a13 :: a14 :: a15 :: a16 :: a17 :: a18 :: a19 :: a20 :: a21 :: a22 :: a23 :: a24 :: a25 :: a26 :: a27 :: a28 :: a29 :: a30 :: a31 :: a32 :: a33 :: a34 :: a35 :: a36 :: [], _ => exact build_sd0 w n a0 a1 a2 a3 a4 a5 a6 a7 a8 a9 a10 a11 a12 a13 a14 a15 a16 a17 a18 a19 a20 a21 a22 a23 a24 a25 a26 a27 a28 a29 a30 a31 a32 a33 a34 a35 a36
theorem exec_bsd {w : World} {a : Act} {o : Oper} {x y : Operand} {n : Nat} {e : EnV} (he : e.ok) (ho : o.op = .build 125 #[(0, x), (1, y)]) (hx : a.eval x = .int .i64 (n : Int)) (hy : a.eval y = e.a) : (execOp a.eval o).run Tryd.prog w = .ok (.value (.agg (sdC (n, e)).toArray)) w :=
  exec_build ho (by simp [hx, hy]) (build_sd w n he)
section
variable {w : World} {a : Act} {o : Oper}
theorem exec_sl0 {t : TypeId} {x hi : Operand} {xv hv v : Value} (ho : o.op = .slice t x none (some hi) none) (hx : a.eval x = xv) (h2 : a.eval hi = hv) (hl : (Instr.sliceAt t xv none (some hv) none).run Tryd.prog w = .ok v w) : (execOp a.eval o).run Tryd.prog w = .ok (.value v) w := exec_slice ho hx rfl (congrArg some h2) rfl hl
theorem exec_sl1 {t : TypeId} {x lo : Operand} {xv lv v : Value} (ho : o.op = .slice t x (some lo) none none) (hx : a.eval x = xv) (h2 : a.eval lo = lv) (hl : (Instr.sliceAt t xv (some lv) none none).run Tryd.prog w = .ok v w) : (execOp a.eval o).run Tryd.prog w = .ok (.value v) w := exec_slice ho hx (congrArg some h2) rfl rfl hl
theorem exec_sl2 {t : TypeId} {x lo hi : Operand} {xv lv hv v : Value} (ho : o.op = .slice t x (some lo) (some hi) none) (hx : a.eval x = xv) (h1 : a.eval lo = lv) (h2 : a.eval hi = hv) (hl : (Instr.sliceAt t xv (some lv) (some hv) none).run Tryd.prog w = .ok v w) : (execOp a.eval o).run Tryd.prog w = .ok (.value v) w := exec_slice ho hx (congrArg some h1) (congrArg some h2) rfl hl
theorem exec_addi {x y : Operand} {n g : Nat} (ho : o.op = .binOp .add 3 x y 3) (hx : a.eval x = .int .i64 (n : Int)) (hy : a.eval y = .int .i64 1) (hg : n + 1 = g) (hs : n ≤ 9223372036854775800) : (execOp a.eval o).run Tryd.prog w = .ok (.value (.int .i64 (g : Int))) w := by
  refine exec_binOp ho hx hy ?_ ?_
  · kernel_rfl
  · subst hg
    have e : IntKind.i64.wrap ((n : Int) + 1) = ((n + 1 : Nat) : Int) := by rw [IntKind.wrap_i64]; omega
    have h : (binOp .add 3 (.int .i64 (n : Int)) (.int .i64 1)).run Tryd.prog w = .ok (.int .i64 (IntKind.i64.wrap ((n : Int) + 1))) w := by kernel_rfl
    rw [h, e]
theorem exec_addn {x y : Operand} {n m g : Nat} (ho : o.op = .binOp .add 3 x y 3) (hx : a.eval x = .int .i64 (n : Int)) (hy : a.eval y = .int .i64 (m : Int)) (hg : n + m = g) (hs : g ≤ 9223372036854775800) : (execOp a.eval o).run Tryd.prog w = .ok (.value (.int .i64 (g : Int))) w := by
  refine exec_binOp ho hx hy ?_ ?_
  · kernel_rfl
  · subst hg
    have e : IntKind.i64.wrap ((n : Int) + (m : Int)) = ((n + m : Nat) : Int) := by rw [IntKind.wrap_i64]; omega
    have h : (binOp .add 3 (.int .i64 (n : Int)) (.int .i64 (m : Int))).run Tryd.prog w = .ok (.int .i64 (IntKind.i64.wrap ((n : Int) + (m : Int)))) w := by kernel_rfl
    rw [h, e]
theorem exec_subi {x y : Operand} {n m d : Nat} (ho : o.op = .binOp .sub 3 x y 3) (hx : a.eval x = .int .i64 (n : Int)) (hy : a.eval y = .int .i64 (m : Int)) (hd : m + d = n) (hs : n ≤ 9223372036854775800) : (execOp a.eval o).run Tryd.prog w = .ok (.value (.int .i64 (d : Int))) w := by
  refine exec_binOp ho hx hy ?_ ?_
  · kernel_rfl
  · have e : IntKind.i64.wrap ((n : Int) - (m : Int)) = (d : Int) := by rw [IntKind.wrap_i64]; omega
    have h : (binOp .sub 3 (.int .i64 (n : Int)) (.int .i64 (m : Int))).run Tryd.prog w = .ok (.int .i64 (IntKind.i64.wrap ((n : Int) - (m : Int)))) w := by kernel_rfl
    rw [h, e]
end
def had6_o0 : Oper := ⟨some 14, .move (.tmp 12), 3, "stood.go:21", #[], none⟩
def had6_o1 : Oper := ⟨some 15, .indexAddr 60 (.tmp 10) (.tmp 12), 0, "stood.go:21", #[], none⟩
def had6_o2 : Oper := ⟨some 16, .load 63 (.tmp 15), 63, "stood.go:21", #[⟨1, .data⟩], none⟩
def had6_o3 : Oper := ⟨some 7, .alloc 63, 0, "stood.go:21", #[], none⟩
def had6_o4 : Oper := ⟨some 6, .assign (.tmp 14), 3, "stood.go:21", #[⟨0, .data⟩, ⟨0, .phase⟩, ⟨1, .phase⟩, ⟨2, .phase⟩, ⟨3, .phase⟩], none⟩
def had6_o5 : Oper := ⟨none, .store 63 (.tmp 7) (.tmp 16), 0, "stood.go:21", #[⟨3, .data⟩, ⟨2, .data⟩, ⟨4, .chain⟩, ⟨0, .phase⟩, ⟨1, .phase⟩, ⟨2, .phase⟩, ⟨3, .phase⟩, ⟨4, .phase⟩], none⟩
def had6_ops : Array Oper := #[had6_o0, had6_o1, had6_o2, had6_o3, had6_o4, had6_o5]
theorem had6 {eb eo n c i : Nat} {x : EnV} (a : Act) (w : World) (Q : Exit → Act → World → Prop) (zz : a.tmps.size = 29)
    (t10 : a.tmps.getD 10 undef = .slice (some ⟨eb, eo, none⟩) n c)
    (t12 : a.tmps.getD 12 undef = .int .i64 (i : Int))
    (hx : x.ok) (hi : i < n) (hm : n ≤ 9223372036854775807) (h0 : w.rangeAt eb (eo + 37 * i) x.c)
    (h : ∀ (a' : Act) (w' : World), w' = w.alloc (.cells x.c.toArray 63) → a' = (((((a).put (some 14) (.int .i64 (i : Int))).put (some 15) (.pointer (some ⟨eb, eo + 37 * i, none⟩))).put (some 16) (x.a)).put (some 7) (.pointer (some ⟨w.heap.size, 0, none⟩))).put (some 6) (.int .i64 (i : Int)) → Q .normal a' w') :
    (Code.region 6 had6_ops false).wp Tryd.prog Q a w := by
  refine z0 rfl ?_
  refine zv rfl (exec_move rfl (zi t12 rfl)) ?_
  refine zv rfl (exec_indexAt rfl (zi t10 rfl) (zi t12 rfl) (ix_en hi hm _)) ?_
  refine zv rfl (exec_load rfl (zg zz rfl) (ld_en hx h0)) ?_
  refine zv (v := .pointer (some ⟨w.heap.size, 0, none⟩)) rfl (exec_alloc rfl (RowT.bx_zero RN_is w)) ?_
  refine zv rfl (exec_assign rfl (zg zz rfl)) ?_
  refine zs rfl (exec_store rfl (zg zz rfl) (zg zz rfl) (RowT.bx_new RN_is w hx)) ?_
  exact ze rfl (h _ _ (rfl) rfl)
def had7_o0 : Oper := ⟨some 17, .move (.tmp 1), 80, "stood.go:22", #[], none⟩
def had7_o1 : Oper := ⟨some 18, .fieldAddr 63 (.tmp 7) 0, 0, "stood.go:22", #[], none⟩
def had7_o2 : Oper := ⟨some 19, .load 38 (.tmp 18), 38, "stood.go:22", #[⟨1, .data⟩], none⟩
def had7_o3 : Oper := ⟨some 20, .call { callee := Callee.value (.tmp 17), args := #[.tmp 19], argTypes := #[38] }, 4, "stood.go:22", #[⟨0, .data⟩, ⟨2, .data⟩], none⟩
def had7_ops : Array Oper := #[had7_o0, had7_o1, had7_o2, had7_o3]
theorem had7 {bx F : Nat} {caps : Array Value} {x : EnV} {r : Bool} (Fin : World → Prop) (a : Act) (w : World) (Q : Exit → Act → World → Prop) (zz : a.tmps.size = 29)
    (t1 : a.tmps.getD 1 undef = .func (.func F) #[] caps)
    (t7 : a.tmps.getD 7 undef = .pointer (some ⟨bx, 0, none⟩))
    (hx : x.ok) (h0 : w.rangeAt bx 0 x.c) (EN : ∀ vs (W : World), (callFunc F vs).run Tryd.prog W = .ok (.enter F vs) W) (CF : Calls Tryd.prog F (#[x.id.v] ++ caps) w fun e w' => e = .returned (.bool r) ∧ Fin w')
    (h : ∀ (a' : Act) (w' : World), Fin w' → a' = ((((a).put (some 17) (.func (.func F) #[] caps)).put (some 18) (.pointer (some ⟨bx, 0 + 0, none⟩))).put (some 19) (x.id.v)).put (some 20) (.bool r) → Q .normal a' w') :
    (Code.region 7 had7_ops false).wp Tryd.prog Q a w := by
  refine z0 rfl ?_
  refine zv rfl (exec_move rfl (zi t1 rfl)) ?_
  refine zv rfl (exec_fieldAt rfl (zi t7 rfl) (fg_63_0 _ _ _)) ?_
  refine zv rfl (exec_load rfl (zg zz rfl) (en_id hx h0)) ?_
  refine zc rfl (exec_cv1 rfl (zg zz rfl) (zg zz rfl) EN) (CF) (fun e x3 hx => ?_)
  obtain ⟨rfl, HF⟩ := hx
  refine ⟨_, rfl, ?_⟩
  exact ze rfl (h _ _ (HF) rfl)
def had8_o0 : Oper := ⟨some 21, .move (.tmp 5), 101, "stood.go:23", #[], none⟩
def had8_o1 : Oper := ⟨some 22, .move (.tmp 6), 3, "stood.go:23", #[], none⟩
def had8_o2 : Oper := ⟨some 23, .load 63 (.tmp 7), 63, "stood.go:23", #[], none⟩
def had8_o3 : Oper := ⟨some 24, .build 125 #[(0, .tmp 22), (1, .tmp 23)], 125, "stood.go:23", #[⟨1, .data⟩, ⟨2, .data⟩], none⟩
def had8_o4 : Oper := ⟨some 25, .buildSlice 101 1 #[(0, .tmp 24)], 101, "stood.go:23", #[⟨3, .data⟩], none⟩
def had8_o5 : Oper := ⟨some 26, .call { callee := Callee.builtin Builtin.append, args := #[.tmp 21, .tmp 25], argTypes := #[101, 101] }, 101, "stood.go:23", #[⟨0, .data⟩, ⟨4, .data⟩], none⟩
def had8_o6 : Oper := ⟨some 5, .assign (.tmp 26), 101, "stood.go:23", #[⟨5, .data⟩, ⟨5, .chain⟩, ⟨0, .phase⟩, ⟨1, .phase⟩, ⟨2, .phase⟩, ⟨3, .phase⟩, ⟨4, .phase⟩, ⟨5, .phase⟩], none⟩
def had8_ops : Array Oper := #[had8_o0, had8_o1, had8_o2, had8_o3, had8_o4, had8_o5, had8_o6]
theorem had8 {bx i : Nat} {x : EnV} {u sv u2 : Value} {w1 w2 : World} (a : Act) (w : World) (Q : Exit → Act → World → Prop) (zz : a.tmps.size = 29)
    (t5 : a.tmps.getD 5 undef = u)
    (t6 : a.tmps.getD 6 undef = .int .i64 (i : Int))
    (t7 : a.tmps.getD 7 undef = .pointer (some ⟨bx, 0, none⟩))
    (hx : x.ok) (h0 : w.rangeAt bx 0 x.c) (EB : (Instr.buildSlice 101 1 #[(0, .agg (sdC (i, x)).toArray)]).run Tryd.prog w = .ok sv w1) (EA : (Builtin.append_ #[101, 101] 101 #[u, sv]).run Tryd.prog w1 = .ok u2 w2)
    (h : ∀ (a' : Act) (w' : World), w' = w2 → a' = (((((((a).put (some 21) (u)).put (some 22) (.int .i64 (i : Int))).put (some 23) (x.a)).put (some 24) (.agg (sdC (i, x)).toArray)).put (some 25) (sv)).put (some 26) (u2)).put (some 5) (u2) → Q .normal a' w') :
    (Code.region 8 had8_ops false).wp Tryd.prog Q a w := by
  refine z0 rfl ?_
  refine zv rfl (exec_move rfl (zi t5 rfl)) ?_
  refine zv rfl (exec_move rfl (zi t6 rfl)) ?_
  refine zv rfl (exec_load rfl (zi t7 rfl) (ld_en hx h0)) ?_
  refine zv (v := .agg (sdC (i, x)).toArray) rfl (exec_bsd hx rfl (zg zz rfl) (zg zz rfl)) ?_
  refine zv (v := sv) rfl (exec_buildSlice rfl (zg zz rfl) EB) ?_
  refine zv (v := u2) rfl (exec_append rfl (zg zz rfl) (zg zz rfl) EA) ?_
  refine zv rfl (exec_assign rfl (zg zz rfl)) ?_
  exact ze rfl (h _ _ (rfl) rfl)
def wo7_o0 : Oper := ⟨some 23, .indexAddr 101 (.tmp 19) (.tmp 21), 0, "stood.go:41", #[], none⟩
def wo7_o1 : Oper := ⟨some 24, .load 125 (.tmp 23), 125, "stood.go:41", #[⟨0, .data⟩], none⟩
def wo7_o2 : Oper := ⟨some 8, .alloc 125, 0, "stood.go:41", #[], none⟩
def wo7_o3 : Oper := ⟨none, .store 125 (.tmp 8) (.tmp 24), 0, "stood.go:41", #[⟨2, .data⟩, ⟨1, .data⟩, ⟨0, .phase⟩, ⟨1, .phase⟩, ⟨2, .phase⟩], none⟩
def wo7_ops : Array Oper := #[wo7_o0, wo7_o1, wo7_o2, wo7_o3]
theorem wo7 {tb to m tc j : Nat} {t : Nat × EnV} (a : Act) (w : World) (Q : Exit → Act → World → Prop) (zz : a.tmps.size = 41)
    (t19 : a.tmps.getD 19 undef = .slice (some ⟨tb, to, none⟩) m tc)
    (t21 : a.tmps.getD 21 undef = .int .i64 (j : Int))
    (hx : RD.ok t) (hi : j < m) (hm : m ≤ 9223372036854775807) (h0 : w.rangeAt tb (to + 38 * j) (sdC t))
    (h : ∀ (a' : Act) (w' : World), w' = w.alloc (.cells (sdC t).toArray 125) → a' = (((a).put (some 23) (.pointer (some ⟨tb, to + 38 * j, none⟩))).put (some 24) (.agg (sdC t).toArray)).put (some 8) (.pointer (some ⟨w.heap.size, 0, none⟩)) → Q .normal a' w') :
    (Code.region 7 wo7_ops false).wp Tryd.prog Q a w := by
  refine z0 rfl ?_
  refine zv rfl (exec_indexAt rfl (zi t19 rfl) (zi t21 rfl) (ix_sd hi hm _)) ?_
  refine zv rfl (exec_load rfl (zg zz rfl) (ld_sd hx h0)) ?_
  refine zv (v := .pointer (some ⟨w.heap.size, 0, none⟩)) rfl (exec_alloc rfl (RowT.bx_zero RD_is w)) ?_
  refine zs rfl (exec_store rfl (zg zz rfl) (zg zz rfl) (RowT.bx_new RD_is w hx)) ?_
  exact ze rfl (h _ _ (rfl) rfl)
def wo3_o0 : Oper := ⟨some 13, .move (.tmp 0), 60, "stood.go:39", #[], none⟩
def wo3_o1 : Oper := ⟨some 14, .call { callee := Callee.builtin Builtin.len, args := #[.tmp 13], argTypes := #[60] }, 3, "stood.go:39", #[⟨0, .data⟩], none⟩
def wo3_o2 : Oper := ⟨some 15, .move (.tmp 1), 101, "stood.go:39", #[], none⟩
def wo3_o3 : Oper := ⟨some 16, .call { callee := Callee.builtin Builtin.len, args := #[.tmp 15], argTypes := #[101] }, 3, "stood.go:39", #[⟨2, .data⟩], none⟩
def wo3_o4 : Oper := ⟨some 17, .binOp BinOp.sub 3 (.tmp 14) (.tmp 16) 3, 3, "stood.go:39", #[⟨1, .data⟩, ⟨3, .data⟩], none⟩
def wo3_o5 : Oper := ⟨some 18, .makeSlice 60 (Operand.const (Value.int IntKind.i64 0)) (.tmp 17), 60, "stood.go:39", #[⟨4, .data⟩], none⟩
def wo3_o6 : Oper := ⟨some 5, .assign (.tmp 18), 60, "stood.go:39", #[⟨5, .data⟩, ⟨0, .phase⟩, ⟨1, .phase⟩, ⟨2, .phase⟩, ⟨3, .phase⟩, ⟨4, .phase⟩, ⟨5, .phase⟩], none⟩
def wo3_ops : Array Oper := #[wo3_o0, wo3_o1, wo3_o2, wo3_o3, wo3_o4, wo3_o5, wo3_o6]
theorem wo3 {n lc m tc d : Nat} {la ta : Option Addr} {mv : Value} {w2 : World} (a : Act) (w : World) (Q : Exit → Act → World → Prop) (zz : a.tmps.size = 41)
    (t0 : a.tmps.getD 0 undef = .slice la n lc)
    (t1 : a.tmps.getD 1 undef = .slice ta m tc)
    (hd : m + d = n) (hs : n ≤ 9223372036854775800) (EM : (Instr.makeSlice 60 (.int .i64 0) (.int .i64 (d : Int))).run Tryd.prog w = .ok mv w2)
    (h : ∀ (a' : Act) (w' : World), w' = w2 → a' = (((((((a).put (some 13) (.slice la n lc)).put (some 14) (.int .i64 (n : Int))).put (some 15) (.slice ta m tc)).put (some 16) (.int .i64 (m : Int))).put (some 17) (.int .i64 (d : Int))).put (some 18) (mv)).put (some 5) (mv) → Q .normal a' w') :
    (Code.region 3 wo3_ops false).wp Tryd.prog Q a w := by
  refine z0 rfl ?_
  refine zv rfl (exec_move rfl (zi t0 rfl)) ?_
  refine zv rfl (exec_len rfl (zg zz rfl) (len_en _ _ _ _ _)) ?_
  refine zv rfl (exec_move rfl (zi t1 rfl)) ?_
  refine zv rfl (exec_len rfl (zg zz rfl) (len_sd _ _ _ _ _)) ?_
  refine zv (v := .int .i64 (d : Int)) rfl (exec_subi rfl (zg zz rfl) (zg zz rfl) hd hs) ?_
  refine zv (v := mv) rfl (exec_makeSlice rfl rfl (zg zz rfl) EM) ?_
  refine zv rfl (exec_assign rfl (zg zz rfl)) ?_
  exact ze rfl (h _ _ (rfl) rfl)
def wo8_o0 : Oper := ⟨some 25, .move (.tmp 5), 60, "stood.go:42", #[], none⟩
def wo8_o1 : Oper := ⟨some 26, .move (.tmp 0), 60, "stood.go:42", #[], none⟩
def wo8_o2 : Oper := ⟨some 27, .move (.tmp 6), 3, "stood.go:42", #[], none⟩
def wo8_o3 : Oper := ⟨some 28, .fieldAddr 125 (.tmp 8) 0, 0, "stood.go:42", #[], none⟩
def wo8_o4 : Oper := ⟨some 29, .load 3 (.tmp 28), 3, "stood.go:42", #[⟨3, .data⟩], none⟩
def wo8_o5 : Oper := ⟨some 30, .slice 60 (.tmp 26) (some (.tmp 27)) (some (.tmp 29)) none, 60, "stood.go:42", #[⟨1, .data⟩, ⟨2, .data⟩, ⟨4, .data⟩], none⟩
def wo8_o6 : Oper := ⟨some 31, .call { callee := Callee.builtin Builtin.append, args := #[.tmp 25, .tmp 30], argTypes := #[60, 60] }, 60, "stood.go:42", #[⟨0, .data⟩, ⟨5, .data⟩], none⟩
def wo8_o7 : Oper := ⟨some 5, .assign (.tmp 31), 60, "stood.go:42", #[⟨6, .data⟩, ⟨6, .chain⟩, ⟨0, .phase⟩, ⟨1, .phase⟩, ⟨2, .phase⟩, ⟨3, .phase⟩, ⟨4, .phase⟩, ⟨5, .phase⟩, ⟨6, .phase⟩], none⟩
def wo8_ops : Array Oper := #[wo8_o0, wo8_o1, wo8_o2, wo8_o3, wo8_o4, wo8_o5, wo8_o6, wo8_o7]
theorem wo8 {bx f : Nat} {t : Nat × EnV} {lv u pv u2 : Value} {w2 : World} (a : Act) (w : World) (Q : Exit → Act → World → Prop) (zz : a.tmps.size = 41)
    (t0 : a.tmps.getD 0 undef = lv)
    (t5 : a.tmps.getD 5 undef = u)
    (t6 : a.tmps.getD 6 undef = .int .i64 (f : Int))
    (t8 : a.tmps.getD 8 undef = .pointer (some ⟨bx, 0, none⟩))
    (h0 : w.rangeAt bx 0 (sdC t)) (ES : (Instr.sliceAt 60 lv (some (.int .i64 (f : Int))) (some (.int .i64 (t.1 : Int))) none).run Tryd.prog w = .ok pv w) (EA : (Builtin.append_ #[60, 60] 60 #[u, pv]).run Tryd.prog w = .ok u2 w2)
    (h : ∀ (a' : Act) (w' : World), w' = w2 → a' = ((((((((a).put (some 25) (u)).put (some 26) (lv)).put (some 27) (.int .i64 (f : Int))).put (some 28) (.pointer (some ⟨bx, 0 + 0, none⟩))).put (some 29) (.int .i64 (t.1 : Int))).put (some 30) (pv)).put (some 31) (u2)).put (some 5) (u2) → Q .normal a' w') :
    (Code.region 8 wo8_ops false).wp Tryd.prog Q a w := by
  refine z0 rfl ?_
  refine zv rfl (exec_move rfl (zi t5 rfl)) ?_
  refine zv rfl (exec_move rfl (zi t0 rfl)) ?_
  refine zv rfl (exec_move rfl (zi t6 rfl)) ?_
  refine zv rfl (exec_fieldAt rfl (zi t8 rfl) (fg_125_0 _ _ _)) ?_
  refine zv rfl (exec_load rfl (zg zz rfl) (sd_at h0)) ?_
  refine zv (v := pv) rfl (exec_sl2 rfl (zg zz rfl) (zg zz rfl) (zg zz rfl) ES) ?_
  refine zv (v := u2) rfl (exec_append rfl (zg zz rfl) (zg zz rfl) EA) ?_
  refine zv rfl (exec_assign rfl (zg zz rfl)) ?_
  exact ze rfl (h _ _ (rfl) rfl)
def wo9_o0 : Oper := ⟨some 32, .fieldAddr 125 (.tmp 8) 0, 0, "stood.go:43", #[], none⟩
def wo9_o1 : Oper := ⟨some 33, .load 3 (.tmp 32), 3, "stood.go:43", #[⟨0, .data⟩], none⟩
def wo9_o2 : Oper := ⟨some 34, .binOp BinOp.add 3 (.tmp 33) (Operand.const (Value.int IntKind.i64 1)) 3, 3, "stood.go:43", #[⟨1, .data⟩], none⟩
def wo9_o3 : Oper := ⟨some 6, .assign (.tmp 34), 3, "stood.go:43", #[⟨2, .data⟩, ⟨0, .phase⟩, ⟨1, .phase⟩, ⟨2, .phase⟩], none⟩
def wo9_ops : Array Oper := #[wo9_o0, wo9_o1, wo9_o2, wo9_o3]
theorem wo9 {bx g : Nat} {t : Nat × EnV} (a : Act) (w : World) (Q : Exit → Act → World → Prop) (zz : a.tmps.size = 41)
    (t8 : a.tmps.getD 8 undef = .pointer (some ⟨bx, 0, none⟩))
    (h0 : w.rangeAt bx 0 (sdC t)) (hg : t.1 + 1 = g) (hs : t.1 ≤ 9223372036854775800)
    (h : ∀ (a' : Act) (w' : World), w' = w → a' = ((((a).put (some 32) (.pointer (some ⟨bx, 0 + 0, none⟩))).put (some 33) (.int .i64 (t.1 : Int))).put (some 34) (.int .i64 (g : Int))).put (some 6) (.int .i64 (g : Int)) → Q .normal a' w') :
    (Code.region 9 wo9_ops false).wp Tryd.prog Q a w := by
  refine z0 rfl ?_
  refine zv rfl (exec_fieldAt rfl (zi t8 rfl) (fg_125_0 _ _ _)) ?_
  refine zv rfl (exec_load rfl (zg zz rfl) (sd_at h0)) ?_
  refine zv (v := .int .i64 (g : Int)) rfl (exec_addi rfl (zg zz rfl) rfl hg hs) ?_
  refine zv rfl (exec_assign rfl (zg zz rfl)) ?_
  exact ze rfl (h _ _ (rfl) rfl)
def wo11_o0 : Oper := ⟨some 36, .move (.tmp 5), 60, "stood.go:45", #[], none⟩
def wo11_o1 : Oper := ⟨some 37, .move (.tmp 0), 60, "stood.go:45", #[], none⟩
def wo11_o2 : Oper := ⟨some 38, .move (.tmp 6), 3, "stood.go:45", #[], none⟩
def wo11_o3 : Oper := ⟨some 39, .slice 60 (.tmp 37) (some (.tmp 38)) none none, 60, "stood.go:45", #[⟨1, .data⟩, ⟨2, .data⟩], none⟩
def wo11_o4 : Oper := ⟨some 40, .call { callee := Callee.builtin Builtin.append, args := #[.tmp 36, .tmp 39], argTypes := #[60, 60] }, 60, "stood.go:45", #[⟨0, .data⟩, ⟨3, .data⟩], none⟩
def wo11_o5 : Oper := ⟨some 4, .assign (.tmp 40), 60, "stood.go:45", #[⟨4, .data⟩, ⟨4, .chain⟩, ⟨0, .phase⟩, ⟨1, .phase⟩, ⟨2, .phase⟩, ⟨3, .phase⟩, ⟨4, .phase⟩], none⟩
def wo11_ops : Array Oper := #[wo11_o0, wo11_o1, wo11_o2, wo11_o3, wo11_o4, wo11_o5]
theorem wo11 {f : Nat} {lv u pv u2 : Value} {w2 : World} (a : Act) (w : World) (Q : Exit → Act → World → Prop) (zz : a.tmps.size = 41)
    (t0 : a.tmps.getD 0 undef = lv)
    (t5 : a.tmps.getD 5 undef = u)
    (t6 : a.tmps.getD 6 undef = .int .i64 (f : Int))
    (ES : (Instr.sliceAt 60 lv (some (.int .i64 (f : Int))) none none).run Tryd.prog w = .ok pv w) (EA : (Builtin.append_ #[60, 60] 60 #[u, pv]).run Tryd.prog w = .ok u2 w2)
    (h : ∀ (a' : Act) (w' : World), w' = w2 → a' = ((((((a).put (some 36) (u)).put (some 37) (lv)).put (some 38) (.int .i64 (f : Int))).put (some 39) (pv)).put (some 40) (u2)).put (some 4) (u2) → Q .normal a' w') :
    (Code.region 11 wo11_ops false).wp Tryd.prog Q a w := by
  refine z0 rfl ?_
  refine zv rfl (exec_move rfl (zi t5 rfl)) ?_
  refine zv rfl (exec_move rfl (zi t0 rfl)) ?_
  refine zv rfl (exec_move rfl (zi t6 rfl)) ?_
  refine zv (v := pv) rfl (exec_sl1 rfl (zg zz rfl) (zg zz rfl) ES) ?_
  refine zv (v := u2) rfl (exec_append rfl (zg zz rfl) (zg zz rfl) EA) ?_
  refine zv rfl (exec_assign rfl (zg zz rfl)) ?_
  exact ze rfl (h _ _ (rfl) rfl)
def wi6_o0 : Oper := ⟨some 23, .indexAddr 101 (.tmp 19) (.tmp 21), 0, "stood.go:66", #[], none⟩
def wi6_o1 : Oper := ⟨some 24, .load 125 (.tmp 23), 125, "stood.go:66", #[⟨0, .data⟩], none⟩
def wi6_o2 : Oper := ⟨some 7, .alloc 125, 0, "stood.go:66", #[], none⟩
def wi6_o3 : Oper := ⟨none, .store 125 (.tmp 7) (.tmp 24), 0, "stood.go:66", #[⟨2, .data⟩, ⟨1, .data⟩, ⟨0, .phase⟩, ⟨1, .phase⟩, ⟨2, .phase⟩], none⟩
def wi6_ops : Array Oper := #[wi6_o0, wi6_o1, wi6_o2, wi6_o3]
theorem wi6 {tb to m tc j : Nat} {t : Nat × EnV} (a : Act) (w : World) (Q : Exit → Act → World → Prop) (zz : a.tmps.size = 46)
    (t19 : a.tmps.getD 19 undef = .slice (some ⟨tb, to, none⟩) m tc)
    (t21 : a.tmps.getD 21 undef = .int .i64 (j : Int))
    (hx : RD.ok t) (hi : j < m) (hm : m ≤ 9223372036854775807) (h0 : w.rangeAt tb (to + 38 * j) (sdC t))
    (h : ∀ (a' : Act) (w' : World), w' = w.alloc (.cells (sdC t).toArray 125) → a' = (((a).put (some 23) (.pointer (some ⟨tb, to + 38 * j, none⟩))).put (some 24) (.agg (sdC t).toArray)).put (some 7) (.pointer (some ⟨w.heap.size, 0, none⟩)) → Q .normal a' w') :
    (Code.region 6 wi6_ops false).wp Tryd.prog Q a w := by
  refine z0 rfl ?_
  refine zv rfl (exec_indexAt rfl (zi t19 rfl) (zi t21 rfl) (ix_sd hi hm _)) ?_
  refine zv rfl (exec_load rfl (zg zz rfl) (ld_sd hx h0)) ?_
  refine zv (v := .pointer (some ⟨w.heap.size, 0, none⟩)) rfl (exec_alloc rfl (RowT.bx_zero RD_is w)) ?_
  refine zs rfl (exec_store rfl (zg zz rfl) (zg zz rfl) (RowT.bx_new RD_is w hx)) ?_
  exact ze rfl (h _ _ (rfl) rfl)
def wi3_o0 : Oper := ⟨some 13, .move (.tmp 0), 60, "stood.go:65", #[], none⟩
def wi3_o1 : Oper := ⟨some 14, .call { callee := Callee.builtin Builtin.len, args := #[.tmp 13], argTypes := #[60] }, 3, "stood.go:65", #[⟨0, .data⟩], none⟩
def wi3_o2 : Oper := ⟨some 15, .move (.tmp 1), 101, "stood.go:65", #[], none⟩
def wi3_o3 : Oper := ⟨some 16, .call { callee := Callee.builtin Builtin.len, args := #[.tmp 15], argTypes := #[101] }, 3, "stood.go:65", #[⟨2, .data⟩], none⟩
def wi3_o4 : Oper := ⟨some 17, .binOp BinOp.add 3 (.tmp 14) (.tmp 16) 3, 3, "stood.go:65", #[⟨1, .data⟩, ⟨3, .data⟩], none⟩
def wi3_o5 : Oper := ⟨some 18, .makeSlice 60 (Operand.const (Value.int IntKind.i64 0)) (.tmp 17), 60, "stood.go:65", #[⟨4, .data⟩], none⟩
def wi3_o6 : Oper := ⟨some 5, .assign (.tmp 18), 60, "stood.go:65", #[⟨5, .data⟩, ⟨0, .phase⟩, ⟨1, .phase⟩, ⟨2, .phase⟩, ⟨3, .phase⟩, ⟨4, .phase⟩, ⟨5, .phase⟩], none⟩
def wi3_ops : Array Oper := #[wi3_o0, wi3_o1, wi3_o2, wi3_o3, wi3_o4, wi3_o5, wi3_o6]
theorem wi3 {n lc m tc d : Nat} {la ta : Option Addr} {mv : Value} {w2 : World} (a : Act) (w : World) (Q : Exit → Act → World → Prop) (zz : a.tmps.size = 46)
    (t0 : a.tmps.getD 0 undef = .slice la n lc)
    (t1 : a.tmps.getD 1 undef = .slice ta m tc)
    (hd : n + m = d) (hs : d ≤ 9223372036854775800) (EM : (Instr.makeSlice 60 (.int .i64 0) (.int .i64 (d : Int))).run Tryd.prog w = .ok mv w2)
    (h : ∀ (a' : Act) (w' : World), w' = w2 → a' = (((((((a).put (some 13) (.slice la n lc)).put (some 14) (.int .i64 (n : Int))).put (some 15) (.slice ta m tc)).put (some 16) (.int .i64 (m : Int))).put (some 17) (.int .i64 (d : Int))).put (some 18) (mv)).put (some 5) (mv) → Q .normal a' w') :
    (Code.region 3 wi3_ops false).wp Tryd.prog Q a w := by
  refine z0 rfl ?_
  refine zv rfl (exec_move rfl (zi t0 rfl)) ?_
  refine zv rfl (exec_len rfl (zg zz rfl) (len_en _ _ _ _ _)) ?_
  refine zv rfl (exec_move rfl (zi t1 rfl)) ?_
  refine zv rfl (exec_len rfl (zg zz rfl) (len_sd _ _ _ _ _)) ?_
  refine zv (v := .int .i64 (d : Int)) rfl (exec_addn rfl (zg zz rfl) (zg zz rfl) hd hs) ?_
  refine zv (v := mv) rfl (exec_makeSlice rfl rfl (zg zz rfl) EM) ?_
  refine zv rfl (exec_assign rfl (zg zz rfl)) ?_
  exact ze rfl (h _ _ (rfl) rfl)
def wi7_o0 : Oper := ⟨some 25, .fieldAddr 125 (.tmp 7) 0, 0, "stood.go:67", #[], none⟩
def wi7_o1 : Oper := ⟨some 26, .load 3 (.tmp 25), 3, "stood.go:67", #[⟨0, .data⟩], none⟩
def wi7_o2 : Oper := ⟨some 27, .move (.tmp 5), 60, "stood.go:67", #[], none⟩
def wi7_o3 : Oper := ⟨some 28, .call { callee := Callee.builtin Builtin.len, args := #[.tmp 27], argTypes := #[60] }, 3, "stood.go:67", #[⟨2, .data⟩], none⟩
def wi7_o4 : Oper := ⟨some 29, .binOp BinOp.sub 3 (.tmp 26) (.tmp 28) 3, 3, "stood.go:67", #[⟨1, .data⟩, ⟨3, .data⟩], none⟩
def wi7_o5 : Oper := ⟨some 8, .assign (.tmp 29), 3, "stood.go:67", #[⟨4, .data⟩, ⟨0, .phase⟩, ⟨1, .phase⟩, ⟨2, .phase⟩, ⟨3, .phase⟩, ⟨4, .phase⟩], none⟩
def wi7_ops : Array Oper := #[wi7_o0, wi7_o1, wi7_o2, wi7_o3, wi7_o4, wi7_o5]
theorem wi7 {bx ln lc d : Nat} {la : Option Addr} {t : Nat × EnV} (a : Act) (w : World) (Q : Exit → Act → World → Prop) (zz : a.tmps.size = 46)
    (t5 : a.tmps.getD 5 undef = .slice la ln lc)
    (t7 : a.tmps.getD 7 undef = .pointer (some ⟨bx, 0, none⟩))
    (h0 : w.rangeAt bx 0 (sdC t)) (hd : ln + d = t.1) (hs : t.1 ≤ 9223372036854775800)
    (h : ∀ (a' : Act) (w' : World), w' = w → a' = ((((((a).put (some 25) (.pointer (some ⟨bx, 0 + 0, none⟩))).put (some 26) (.int .i64 (t.1 : Int))).put (some 27) (.slice la ln lc)).put (some 28) (.int .i64 (ln : Int))).put (some 29) (.int .i64 (d : Int))).put (some 8) (.int .i64 (d : Int)) → Q .normal a' w') :
    (Code.region 7 wi7_ops false).wp Tryd.prog Q a w := by
  refine z0 rfl ?_
  refine zv rfl (exec_fieldAt rfl (zi t7 rfl) (fg_125_0 _ _ _)) ?_
  refine zv rfl (exec_load rfl (zg zz rfl) (sd_at h0)) ?_
  refine zv rfl (exec_move rfl (zi t5 rfl)) ?_
  refine zv rfl (exec_len rfl (zg zz rfl) (len_en _ _ _ _ _)) ?_
  refine zv (v := .int .i64 (d : Int)) rfl (exec_subi rfl (zg zz rfl) (zg zz rfl) hd hs) ?_
  refine zv rfl (exec_assign rfl (zg zz rfl)) ?_
  exact ze rfl (h _ _ (rfl) rfl)
def wi8_o0 : Oper := ⟨some 30, .move (.tmp 5), 60, "stood.go:68", #[], none⟩
def wi8_o1 : Oper := ⟨some 31, .move (.tmp 0), 60, "stood.go:68", #[], none⟩
def wi8_o2 : Oper := ⟨some 32, .move (.tmp 8), 3, "stood.go:68", #[], none⟩
def wi8_o3 : Oper := ⟨some 33, .slice 60 (.tmp 31) none (some (.tmp 32)) none, 60, "stood.go:68", #[⟨1, .data⟩, ⟨2, .data⟩], none⟩
def wi8_o4 : Oper := ⟨some 34, .call { callee := Callee.builtin Builtin.append, args := #[.tmp 30, .tmp 33], argTypes := #[60, 60] }, 60, "stood.go:68", #[⟨0, .data⟩, ⟨3, .data⟩], none⟩
def wi8_o5 : Oper := ⟨some 35, .fieldAddr 125 (.tmp 7) 1, 0, "stood.go:68", #[], none⟩
def wi8_o6 : Oper := ⟨some 36, .load 63 (.tmp 35), 63, "stood.go:68", #[⟨5, .data⟩], none⟩
def wi8_o7 : Oper := ⟨some 37, .buildSlice 60 1 #[(0, .tmp 36)], 60, "stood.go:68", #[⟨6, .data⟩], none⟩
def wi8_o8 : Oper := ⟨some 38, .call { callee := Callee.builtin Builtin.append, args := #[.tmp 34, .tmp 37], argTypes := #[60, 60] }, 60, "stood.go:68", #[⟨4, .data⟩, ⟨7, .data⟩, ⟨4, .chain⟩], none⟩
def wi8_o9 : Oper := ⟨some 5, .assign (.tmp 38), 60, "stood.go:68", #[⟨8, .data⟩, ⟨8, .chain⟩, ⟨0, .phase⟩, ⟨1, .phase⟩, ⟨2, .phase⟩, ⟨3, .phase⟩, ⟨4, .phase⟩, ⟨5, .phase⟩, ⟨6, .phase⟩, ⟨7, .phase⟩, ⟨8, .phase⟩], none⟩
def wi8_ops : Array Oper := #[wi8_o0, wi8_o1, wi8_o2, wi8_o3, wi8_o4, wi8_o5, wi8_o6, wi8_o7, wi8_o8, wi8_o9]
theorem wi8 {bx d : Nat} {t : Nat × EnV} {rv u pv v1 sv1 u1 v2 sv2 u2 : Value} {w1 w2 w3 y1 y2 y3 : World} (a : Act) (w : World) (Q : Exit → Act → World → Prop) (hsz : a.tmps.size = 46)
    (t0 : a.tmps.getD 0 undef = rv)
    (t5 : a.tmps.getD 5 undef = u)
    (t7 : a.tmps.getD 7 undef = .pointer (some ⟨bx, 0, none⟩))
    (t8 : a.tmps.getD 8 undef = .int .i64 (d : Int))
    (hx : RD.ok t) (h0 : w.drew.rangeAt bx 0 (sdC t)) (ES : ∀ W, (Instr.sliceAt 60 rv none (some (.int .i64 (d : Int))) none).run Tryd.prog W = .ok pv W) (EA1 : (Builtin.append_ #[60, 60] 60 #[u, pv]).run Tryd.prog w.drew = .ok v1 w1) (S1 : w1.rangeAt bx 0 (sdC t)) (EB1 : (Instr.buildSlice 60 1 #[(0, t.2.a)]).run Tryd.prog w1 = .ok sv1 w2) (S2 : w2.rangeAt bx 0 (sdC t)) (EC1 : (Builtin.append_ #[60, 60] 60 #[v1, sv1]).run Tryd.prog w2 = .ok u1 w3) (S5 : w3.rangeAt bx 0 (sdC t)) (EB2 : (Instr.buildSlice 60 1 #[(0, t.2.a)]).run Tryd.prog w.drew = .ok sv2 y1) (S3 : y1.rangeAt bx 0 (sdC t)) (EA2 : (Builtin.append_ #[60, 60] 60 #[u, pv]).run Tryd.prog y1 = .ok v2 y2) (S4 : y2.rangeAt bx 0 (sdC t)) (EC2 : (Builtin.append_ #[60, 60] 60 #[v2, sv2]).run Tryd.prog y2 = .ok u2 y3) (S6 : y3.rangeAt bx 0 (sdC t)) 
    (h1 : ∀ (a' : Act) (w' : World), w' = w3 → a' = ((((((((((a).put (some 30) (u)).put (some 31) (rv)).put (some 32) (.int .i64 (d : Int))).put (some 33) (pv)).put (some 35) (.pointer (some ⟨bx, 0 + 1, none⟩))).put (some 36) (t.2.a)).put (some 34) (v1)).put (some 37) (sv1)).put (some 38) (u1)).put (some 5) (u1) → Q .normal a' w')
    (h2 : ∀ (a' : Act) (w' : World), w' = y3 → a' = ((((((((((a).put (some 30) (u)).put (some 31) (rv)).put (some 32) (.int .i64 (d : Int))).put (some 33) (pv)).put (some 35) (.pointer (some ⟨bx, 0 + 1, none⟩))).put (some 36) (t.2.a)).put (some 37) (sv2)).put (some 34) (v2)).put (some 38) (u2)).put (some 5) (u2) → Q .normal a' w') :
    (Code.region 8 wi8_ops true).wp Tryd.prog Q a w := by
  refine wp_region_noPanic ?_
  refine wp_region_held_drew (S := fun w' => w'.rangeAt bx 0 (sdC t)) (by kernel_rfl) (h0) (fun hHeld => ?_)
  refine wpAnyH_take (i := 0) (oi := wi8_o0) (v := u) rfl (by kernel_rfl) (by kernel_rfl) (by kernel_rfl) (fun _ _ _ h => h) (Or.inl ⟨by rfl, fun w1 hw => exec_move rfl t5⟩) hHeld ?_
  change wpAnyH _ _ _ _ _ _ _ (a.put (some 30) (u)) _
  obtain ⟨a1, e1⟩ : ∃ act, act = a.put (some 30) (u) := ⟨_, rfl⟩
  rw [← e1] at h1 h2 ⊢
  have z1 := pz e1 hsz
  replace t0 := pk e1 t0
  replace t7 := pk e1 t7
  replace t8 := pk e1 t8
  clear t5
  have t30 := pq e1 hsz
  clear e1 hsz
  refine wpAnyH_take (i := 1) (oi := wi8_o1) (v := rv) rfl (by kernel_rfl) (by kernel_rfl) (by kernel_rfl) (fun _ _ _ h => h) (Or.inl ⟨by rfl, fun w1 hw => exec_move rfl t0⟩) hHeld ?_
  change wpAnyH _ _ _ _ _ _ _ (a1.put (some 31) (rv)) _
  obtain ⟨a2, e2⟩ : ∃ act, act = a1.put (some 31) (rv) := ⟨_, rfl⟩
  rw [← e2] at h1 h2 ⊢
  have z2 := pz e2 z1
  replace t7 := pk e2 t7
  replace t8 := pk e2 t8
  replace t30 := pk e2 t30
  clear t0
  have t31 := pq e2 z1
  clear e2 z1
  refine wpAnyH_take (i := 2) (oi := wi8_o2) (v := .int .i64 (d : Int)) rfl (by kernel_rfl) (by kernel_rfl) (by kernel_rfl) (fun _ _ _ h => h) (Or.inl ⟨by rfl, fun w1 hw => exec_move rfl t8⟩) hHeld ?_
  change wpAnyH _ _ _ _ _ _ _ (a2.put (some 32) (.int .i64 (d : Int))) _
  obtain ⟨a3, e3⟩ : ∃ act, act = a2.put (some 32) (.int .i64 (d : Int)) := ⟨_, rfl⟩
  rw [← e3] at h1 h2 ⊢
  have z3 := pz e3 z2
  replace t7 := pk e3 t7
  replace t30 := pk e3 t30
  replace t31 := pk e3 t31
  clear t8
  have t32 := pq e3 z2
  clear e3 z2
  refine wpAnyH_take (i := 3) (oi := wi8_o3) (v := pv) rfl (by kernel_rfl) (by kernel_rfl) (by kernel_rfl) (fun _ _ _ h => h) (Or.inl ⟨by rfl, fun w1 hw => exec_sl0 rfl t31 t32 (ES _)⟩) hHeld ?_
  change wpAnyH _ _ _ _ _ _ _ (a3.put (some 33) (pv)) _
  obtain ⟨a4, e4⟩ : ∃ act, act = a3.put (some 33) (pv) := ⟨_, rfl⟩
  rw [← e4] at h1 h2 ⊢
  have z4 := pz e4 z3
  replace t7 := pk e4 t7
  replace t30 := pk e4 t30
  clear t31 t32
  have t33 := pq e4 z3
  clear e4 z3
  refine wpAnyH_take (i := 5) (oi := wi8_o5) (v := .pointer (some ⟨bx, 0 + 1, none⟩)) rfl (by kernel_rfl) (by kernel_rfl) (by kernel_rfl) (fun _ _ _ h => h) (Or.inl ⟨by rfl, fun w1 hw => exec_fieldAt rfl t7 (fg_125_1 _ _ _)⟩) hHeld ?_
  change wpAnyH _ _ _ _ _ _ _ (a4.put (some 35) (.pointer (some ⟨bx, 0 + 1, none⟩))) _
  obtain ⟨a5, e5⟩ : ∃ act, act = a4.put (some 35) (.pointer (some ⟨bx, 0 + 1, none⟩)) := ⟨_, rfl⟩
  rw [← e5] at h1 h2 ⊢
  have z5 := pz e5 z4
  replace t30 := pk e5 t30
  replace t33 := pk e5 t33
  clear t7
  have t35 := pq e5 z4
  clear e5 z4
  refine wpAnyH_take (i := 6) (oi := wi8_o6) (v := t.2.a) rfl (by kernel_rfl) (by kernel_rfl) (by kernel_rfl) (fun _ _ _ h => h) (Or.inl ⟨by rfl, fun w1 hw => exec_load rfl t35 (sd_en hx hw)⟩) hHeld ?_
  change wpAnyH _ _ _ _ _ _ _ (a5.put (some 36) (t.2.a)) _
  obtain ⟨a6, e6⟩ : ∃ act, act = a5.put (some 36) (t.2.a) := ⟨_, rfl⟩
  rw [← e6] at h1 h2 ⊢
  have z6 := pz e6 z5
  replace t30 := pk e6 t30
  replace t33 := pk e6 t33
  clear t35
  have t36 := pq e6 z5
  clear e6 z5
  refine wpAnyH_ready (rs := [4, 7]) (by kernel_rfl) (by simp) ?_
  refine AllReadyH.cons (o := wi8_o4) rfl (fun K hK => ?_) (AllReadyH.cons (o := wi8_o7) rfl (fun K hK => ?_) (AllReadyH.nil))
  · clear h2
    have X := exec_append (P := Tryd.prog) (a := a6) (o := wi8_o4) rfl t30 t33 EA1
    rw [if_pos (by rfl), Oper.wp, X]
    show K _ _
    clear X
    refine hK.out _ _ (S1) (fun hHeld => ?_)
    clear hK K
    change wpAnyH _ _ _ _ _ _ _ (a6.put (some 34) (v1)) _
    obtain ⟨a7, e7⟩ : ∃ act, act = a6.put (some 34) (v1) := ⟨_, rfl⟩
    rw [← e7] at h1 ⊢
    have z7 := pz e7 z6
    replace t36 := pk e7 t36
    clear t30 t33
    have t34 := pq e7 z6
    clear e7 z6
    refine wpAnyH_ready (rs := [7]) (by kernel_rfl) (by simp) ?_
    refine AllReadyH.cons (o := wi8_o7) rfl (fun K hK => ?_) AllReadyH.nil
    have X := exec_buildSlice (P := Tryd.prog) (a := a7) (o := wi8_o7) rfl t36 EB1
    rw [if_pos (by rfl), Oper.wp, X]
    show K _ _
    clear X
    refine hK.out _ _ (S2) (fun hHeld => ?_)
    clear hK K
    change wpAnyH _ _ _ _ _ _ _ (a7.put (some 37) (sv1)) _
    obtain ⟨a8, e8⟩ : ∃ act, act = a7.put (some 37) (sv1) := ⟨_, rfl⟩
    rw [← e8] at h1 ⊢
    have z8 := pz e8 z7
    replace t34 := pk e8 t34
    clear t36
    have t37 := pq e8 z7
    clear e8 z7
    refine wpAnyH_ready (rs := [8]) (by kernel_rfl) (by simp) ?_
    refine AllReadyH.cons (o := wi8_o8) rfl (fun K hK => ?_) AllReadyH.nil
    have X := exec_append (P := Tryd.prog) (a := a8) (o := wi8_o8) rfl t34 t37 EC1
    rw [if_pos (by rfl), Oper.wp, X]
    show K _ _
    clear X
    refine hK.out _ _ (S5) (fun hHeld => ?_)
    clear hK K
    change wpAnyH _ _ _ _ _ _ _ (a8.put (some 38) (u1)) _
    obtain ⟨a9, e9⟩ : ∃ act, act = a8.put (some 38) (u1) := ⟨_, rfl⟩
    rw [← e9] at h1 ⊢
    have z9 := pz e9 z8
    clear t34 t37
    have t38 := pq e9 z8
    clear e9 z8
    refine wpAnyH_take (i := 9) (oi := wi8_o9) (v := u1) rfl (by kernel_rfl) (by kernel_rfl) (by kernel_rfl) (fun _ _ _ h => h) (Or.inl ⟨by rfl, fun w1 hw => exec_assign rfl t38⟩) hHeld ?_
    change wpAnyH _ _ _ _ _ _ _ (a9.put (some 5) (u1)) _
    obtain ⟨a10, e10⟩ : ∃ act, act = a9.put (some 5) (u1) := ⟨_, rfl⟩
    rw [← e10] at h1 ⊢
    have z10 := pz e10 z9
    clear t38
    clear e10 z9
    exact wpAnyH_done (by kernel_rfl) (NoPanic.normal (h1 _ _ (rfl) rfl)) _
  · clear h1
    have X := exec_buildSlice (P := Tryd.prog) (a := a6) (o := wi8_o7) rfl t36 EB2
    rw [if_pos (by rfl), Oper.wp, X]
    show K _ _
    clear X
    refine hK.out _ _ (S3) (fun hHeld => ?_)
    clear hK K
    change wpAnyH _ _ _ _ _ _ _ (a6.put (some 37) (sv2)) _
    obtain ⟨a11, e11⟩ : ∃ act, act = a6.put (some 37) (sv2) := ⟨_, rfl⟩
    rw [← e11] at h2 ⊢
    have z11 := pz e11 z6
    replace t30 := pk e11 t30
    replace t33 := pk e11 t33
    clear t36
    have t37 := pq e11 z6
    clear e11 z6
    refine wpAnyH_ready (rs := [4]) (by kernel_rfl) (by simp) ?_
    refine AllReadyH.cons (o := wi8_o4) rfl (fun K hK => ?_) AllReadyH.nil
    have X := exec_append (P := Tryd.prog) (a := a11) (o := wi8_o4) rfl t30 t33 EA2
    rw [if_pos (by rfl), Oper.wp, X]
    show K _ _
    clear X
    refine hK.out _ _ (S4) (fun hHeld => ?_)
    clear hK K
    change wpAnyH _ _ _ _ _ _ _ (a11.put (some 34) (v2)) _
    obtain ⟨a12, e12⟩ : ∃ act, act = a11.put (some 34) (v2) := ⟨_, rfl⟩
    rw [← e12] at h2 ⊢
    have z12 := pz e12 z11
    replace t37 := pk e12 t37
    clear t30 t33
    have t34 := pq e12 z11
    clear e12 z11
    refine wpAnyH_ready (rs := [8]) (by kernel_rfl) (by simp) ?_
    refine AllReadyH.cons (o := wi8_o8) rfl (fun K hK => ?_) AllReadyH.nil
    have X := exec_append (P := Tryd.prog) (a := a12) (o := wi8_o8) rfl t34 t37 EC2
    rw [if_pos (by rfl), Oper.wp, X]
    show K _ _
    clear X
    refine hK.out _ _ (S6) (fun hHeld => ?_)
    clear hK K
    change wpAnyH _ _ _ _ _ _ _ (a12.put (some 38) (u2)) _
    obtain ⟨a13, e13⟩ : ∃ act, act = a12.put (some 38) (u2) := ⟨_, rfl⟩
    rw [← e13] at h2 ⊢
    have z13 := pz e13 z12
    clear t37 t34
    have t38 := pq e13 z12
    clear e13 z12
    refine wpAnyH_take (i := 9) (oi := wi8_o9) (v := u2) rfl (by kernel_rfl) (by kernel_rfl) (by kernel_rfl) (fun _ _ _ h => h) (Or.inl ⟨by rfl, fun w1 hw => exec_assign rfl t38⟩) hHeld ?_
    change wpAnyH _ _ _ _ _ _ _ (a13.put (some 5) (u2)) _
    obtain ⟨a14, e14⟩ : ∃ act, act = a13.put (some 5) (u2) := ⟨_, rfl⟩
    rw [← e14] at h2 ⊢
    have z14 := pz e14 z13
    clear t38
    clear e14 z13
    exact wpAnyH_done (by kernel_rfl) (NoPanic.normal (h2 _ _ (rfl) rfl)) _
def wi9_o0 : Oper := ⟨some 39, .move (.tmp 0), 60, "stood.go:69", #[], none⟩
def wi9_o1 : Oper := ⟨some 40, .move (.tmp 8), 3, "stood.go:69", #[], none⟩
def wi9_o2 : Oper := ⟨some 41, .slice 60 (.tmp 39) (some (.tmp 40)) none none, 60, "stood.go:69", #[⟨0, .data⟩, ⟨1, .data⟩], none⟩
def wi9_o3 : Oper := ⟨some 0, .assign (.tmp 41), 60, "stood.go:69", #[⟨2, .data⟩, ⟨0, .phase⟩, ⟨1, .phase⟩, ⟨2, .phase⟩], none⟩
def wi9_ops : Array Oper := #[wi9_o0, wi9_o1, wi9_o2, wi9_o3]
theorem wi9 {d : Nat} {rv pv : Value} (a : Act) (w : World) (Q : Exit → Act → World → Prop) (zz : a.tmps.size = 46)
    (t0 : a.tmps.getD 0 undef = rv)
    (t8 : a.tmps.getD 8 undef = .int .i64 (d : Int))
    (ES : (Instr.sliceAt 60 rv (some (.int .i64 (d : Int))) none none).run Tryd.prog w = .ok pv w)
    (h : ∀ (a' : Act) (w' : World), w' = w → a' = ((((a).put (some 39) (rv)).put (some 40) (.int .i64 (d : Int))).put (some 41) (pv)).put (some 0) (pv) → Q .normal a' w') :
    (Code.region 9 wi9_ops false).wp Tryd.prog Q a w := by
  refine z0 rfl ?_
  refine zv rfl (exec_move rfl (zi t0 rfl)) ?_
  refine zv rfl (exec_move rfl (zi t8 rfl)) ?_
  refine zv (v := pv) rfl (exec_sl1 rfl (zg zz rfl) (zg zz rfl) ES) ?_
  refine zv rfl (exec_assign rfl (zg zz rfl)) ?_
  exact ze rfl (h _ _ (rfl) rfl)
def ch6_o0 : Oper := ⟨some 19, .indexAddr 101 (.tmp 15) (.tmp 17), 0, "stood.go:54", #[], none⟩
def ch6_o1 : Oper := ⟨some 20, .load 125 (.tmp 19), 125, "stood.go:54", #[⟨0, .data⟩], none⟩
def ch6_o2 : Oper := ⟨some 8, .alloc 125, 0, "stood.go:54", #[], none⟩
def ch6_o3 : Oper := ⟨none, .store 125 (.tmp 8) (.tmp 20), 0, "stood.go:54", #[⟨2, .data⟩, ⟨1, .data⟩, ⟨0, .phase⟩, ⟨1, .phase⟩, ⟨2, .phase⟩], none⟩
def ch6_ops : Array Oper := #[ch6_o0, ch6_o1, ch6_o2, ch6_o3]
theorem ch6 {tb to m tc j : Nat} {t : Nat × EnV} (a : Act) (w : World) (Q : Exit → Act → World → Prop) (zz : a.tmps.size = 33)
    (t15 : a.tmps.getD 15 undef = .slice (some ⟨tb, to, none⟩) m tc)
    (t17 : a.tmps.getD 17 undef = .int .i64 (j : Int))
    (hx : RD.ok t) (hi : j < m) (hm : m ≤ 9223372036854775807) (h0 : w.rangeAt tb (to + 38 * j) (sdC t))
    (h : ∀ (a' : Act) (w' : World), w' = w.alloc (.cells (sdC t).toArray 125) → a' = (((a).put (some 19) (.pointer (some ⟨tb, to + 38 * j, none⟩))).put (some 20) (.agg (sdC t).toArray)).put (some 8) (.pointer (some ⟨w.heap.size, 0, none⟩)) → Q .normal a' w') :
    (Code.region 6 ch6_ops false).wp Tryd.prog Q a w := by
  refine z0 rfl ?_
  refine zv rfl (exec_indexAt rfl (zi t15 rfl) (zi t17 rfl) (ix_sd hi hm _)) ?_
  refine zv rfl (exec_load rfl (zg zz rfl) (ld_sd hx h0)) ?_
  refine zv (v := .pointer (some ⟨w.heap.size, 0, none⟩)) rfl (exec_alloc rfl (RowT.bx_zero RD_is w)) ?_
  refine zs rfl (exec_store rfl (zg zz rfl) (zg zz rfl) (RowT.bx_new RD_is w hx)) ?_
  exact ze rfl (h _ _ (rfl) rfl)
def ch7_o0 : Oper := ⟨some 21, .move (.tmp 0), 60, "stood.go:55", #[], none⟩
def ch7_o1 : Oper := ⟨some 22, .fieldAddr 125 (.tmp 8) 0, 0, "stood.go:55", #[], none⟩
def ch7_o2 : Oper := ⟨some 23, .load 3 (.tmp 22), 3, "stood.go:55", #[⟨1, .data⟩], none⟩
def ch7_o3 : Oper := ⟨some 24, .move (.tmp 2), 109, "stood.go:55", #[], none⟩
def ch7_o4 : Oper := ⟨some 25, .fieldAddr 125 (.tmp 8) 1, 0, "stood.go:55", #[], none⟩
def ch7_o5 : Oper := ⟨some 26, .fieldAddr 63 (.tmp 25) 1, 0, "stood.go:55", #[⟨4, .data⟩], none⟩
def ch7_o6 : Oper := ⟨some 27, .load 42 (.tmp 26), 42, "stood.go:55", #[⟨5, .data⟩], none⟩
def ch7_o7 : Oper := ⟨some 28, .call { callee := Callee.value (.tmp 24), args := #[.tmp 27], argTypes := #[42] }, 42, "stood.go:55", #[⟨3, .data⟩, ⟨6, .data⟩], none⟩
def ch7_o8 : Oper := ⟨some 29, .indexAddr 60 (.tmp 21) (.tmp 23), 0, "stood.go:55", #[⟨0, .data⟩, ⟨2, .data⟩, ⟨0, .phase⟩, ⟨1, .phase⟩, ⟨2, .phase⟩, ⟨3, .phase⟩, ⟨4, .phase⟩, ⟨5, .phase⟩, ⟨6, .phase⟩, ⟨7, .phase⟩], none⟩
def ch7_o9 : Oper := ⟨some 30, .fieldAddr 63 (.tmp 29) 1, 0, "stood.go:55", #[⟨8, .data⟩, ⟨0, .phase⟩, ⟨1, .phase⟩, ⟨2, .phase⟩, ⟨3, .phase⟩, ⟨4, .phase⟩, ⟨5, .phase⟩, ⟨6, .phase⟩, ⟨7, .phase⟩], none⟩
def ch7_o10 : Oper := ⟨none, .store 42 (.tmp 30) (.tmp 28), 0, "stood.go:55", #[⟨9, .data⟩, ⟨7, .data⟩, ⟨7, .chain⟩, ⟨0, .phase⟩, ⟨1, .phase⟩, ⟨2, .phase⟩, ⟨3, .phase⟩, ⟨4, .phase⟩, ⟨5, .phase⟩, ⟨6, .phase⟩, ⟨7, .phase⟩], none⟩
def ch7_ops : Array Oper := #[ch7_o0, ch7_o1, ch7_o2, ch7_o3, ch7_o4, ch7_o5, ch7_o6, ch7_o7, ch7_o8, ch7_o9, ch7_o10]
theorem ch7 {bx F eb eo n c : Nat} {caps : Array Value} {t : Nat × EnV} {x : VaV} (Fin : World → Prop) (a : Act) (w : World) (Q : Exit → Act → World → Prop) (zz : a.tmps.size = 33)
    (t0 : a.tmps.getD 0 undef = .slice (some ⟨eb, eo, none⟩) n c)
    (t2 : a.tmps.getD 2 undef = .func (.func F) #[] caps)
    (t8 : a.tmps.getD 8 undef = .pointer (some ⟨bx, 0, none⟩))
    (hx : RD.ok t) (hi : t.1 < n) (hm : n ≤ 9223372036854775807) (h0 : w.drew.rangeAt bx 0 (sdC t)) (EN : ∀ vs (W : World), (callFunc F vs).run Tryd.prog W = .ok (.enter F vs) W) (CF : Calls Tryd.prog F (#[t.2.v.v] ++ caps) w.drew fun e w' => e = .returned x.v ∧ w'.rangeAt bx 0 (sdC t) ∧ ∃ w2, (Instr.storeAt 42 (.pointer (some ⟨eb, eo + 37 * t.1 + 33, none⟩)) x.v).run Tryd.prog w' = .ok () w2 ∧ w2.rangeAt bx 0 (sdC t) ∧ Fin w2)
    (h : ∀ (a' : Act) (w' : World), Fin w' → a' = ((((((((((a).put (some 21) (.slice (some ⟨eb, eo, none⟩) n c)).put (some 22) (.pointer (some ⟨bx, 0 + 0, none⟩))).put (some 23) (.int .i64 (t.1 : Int))).put (some 24) (.func (.func F) #[] caps)).put (some 25) (.pointer (some ⟨bx, 0 + 1, none⟩))).put (some 26) (.pointer (some ⟨bx, 0 + 1 + 33, none⟩))).put (some 27) (t.2.v.v)).put (some 28) (x.v)).put (some 29) (.pointer (some ⟨eb, eo + 37 * t.1, none⟩))).put (some 30) (.pointer (some ⟨eb, eo + 37 * t.1 + 33, none⟩)) → Q .normal a' w') :
    (Code.region 7 ch7_ops true).wp Tryd.prog Q a w := by
  refine y0 (fun w' => w'.rangeAt bx 0 (sdC t)) (h0) (fun hHeld => ?_)
  refine yv 0 rfl rfl (fun w1 hw => exec_move rfl (zi t0 rfl)) hHeld ?_
  refine yv 1 rfl rfl (fun w1 hw => exec_fieldAt rfl (zi t8 rfl) (fg_125_0 _ _ _)) hHeld ?_
  refine yv 2 rfl rfl (fun w1 hw => exec_load rfl (zg zz rfl) (sd_at hw)) hHeld ?_
  refine yv 3 rfl rfl (fun w1 hw => exec_move rfl (zi t2 rfl)) hHeld ?_
  refine yv 4 rfl rfl (fun w1 hw => exec_fieldAt rfl (zi t8 rfl) (fg_125_1 _ _ _)) hHeld ?_
  refine yv 5 rfl rfl (fun w1 hw => exec_fieldAt rfl (zg zz rfl) (fg_63_1 _ _ _)) hHeld ?_
  refine yv 6 rfl rfl (fun w1 hw => exec_load rfl (zg zz rfl) (sd_va hx hw)) hHeld ?_
  refine yc 7 rfl rfl (exec_cv1 rfl (zg zz rfl) (zg zz rfl) EN) (CF) (fun e x7 hx => ?_)
  obtain ⟨rfl, S1, w2, E1, S2, HF⟩ := hx
  refine ⟨_, rfl, S1, fun hHeld => ?_⟩
  refine yv 8 rfl rfl (fun w1 hw => exec_indexAt rfl (zg zz rfl) (zg zz rfl) (ix_en hi hm _)) hHeld ?_
  refine yv 9 rfl rfl (fun w1 hw => exec_fieldAt rfl (zg zz rfl) (fg_63_1 _ _ _)) hHeld ?_
  refine ys 10 rfl rfl (exec_store rfl (zg zz rfl) (zg zz rfl) E1) (S2) (fun hHeld => ?_)
  exact ye rfl (h _ _ (HF) rfl)
theorem take_snoc {α : Type} {L : List α} {i : Nat} {x : α} (h : L[i]? = some x) : L.take (i + 1) = L.take i ++ [x] := by rw [List.take_add_one, h]; rfl
theorem RowT.At.at {κ : Type} {R : RowT κ} {w : World} {a : Option Addr} {L : List κ} (h : R.At w a L) {i : Nat} {x : κ} (hx : L[i]? = some x) : ∃ b o, a = some ⟨b, o, none⟩ ∧ b < w.heap.size ∧ w.rangeAt b (o + R.k * i) (R.c x) := by
  rcases h with rfl | ⟨b, o, e, hl, hr⟩
  · simp at hx
  · exact ⟨b, o, e, hl, hr i x hx⟩
theorem eql_fn0 (w : World) : (binOp .eql 80 .nilFunc .nilFunc).run Tryd.prog w = .ok (.bool true) w := by kernel_rfl
theorem eql_fn1 (F : Nat) (caps : Array Value) (w : World) : (binOp .eql 80 (.func (.func F) #[] caps) .nilFunc).run Tryd.prog w = .ok (.bool false) w := by kernel_rfl
attribute [local go_sem] eql_fn0 eql_fn1
theorem had_nil (v : Value) (w : World) : Calls Tryd.prog 48 #[v, .nilFunc] w fun e w' => e = .returned (.slice none 0 0) ∧ w' = w := by
  go_enter Tryd.func48, Tryd.ntmps48
  go_wp2
  go_ret
  exact ⟨rfl, rfl⟩
theorem had_any {w : World} {a : Option Addr} {c : Nat} {L : List EnV} {F : Nat} {caps : Array Value} {sn : IdK → Bool} (hL : RN.At w a L) (ok : ∀ x ∈ L, x.ok) (hn : L.length ≤ 2500000000000) (T : Tells w F caps sn) :
    Calls Tryd.prog 48 #[.slice a L.length c, .func (.func F) #[] caps] w fun e w' => ∃ tv, e = .returned tv ∧ RD.Own w' w.heap.size tv (Rg.hadI (fun x => sn x.id) 0 L) ∧ Below w.heap.size w w' := by
  obtain ⟨n, hnn⟩ : ∃ n, L.length = n := ⟨_, rfl⟩
  have HN := hidMk hnn
  rw [hnn]
  rw [hnn] at hn
  clear hnn
  have HT := hidMk T
  have HL := hidMk hL
  have HK := hidMk ok
  clear T hL ok
  go_enter Tryd.func48, Tryd.ntmps48
  go_wp2
  go_loopw [5, 12] (fun v5 v12 wr => ∃ i : Nat, v12 = .int .i64 (i : Int) ∧ i ≤ n ∧ Hid (RD.Own wr w.heap.size v5 (Rg.hadI (fun x => sn x.id) 0 (L.take i)) ∧ Below w.heap.size w wr)) (fun _ v12 wr => n - (match v12 with | .int _ i => i.toNat | _ => 0))
  case atStart => exact ⟨0, rfl, Nat.zero_le _, RowT.own_nil RD w w.heap.size, Below.refl _ _⟩
  case round =>
    obtain ⟨i, rfl, hin, HI⟩ := hrel
    by_cases hi : i < n
    · obtain ⟨x, hxi⟩ : ∃ o, L[i]? = some o := ⟨_, List.getElem?_eq_getElem (by rw [HN.out]; exact hi)⟩
      have hx := HK.out x (List.mem_of_getElem? hxi)
      obtain ⟨b, off, rfl, lb, hr⟩ := HL.out.at hxi
      have bel := HI.out.2
      have zb := bel.size
      have tk := take_snoc hxi
      go_upto_region 6 with fail
      refine had6 (eb := b) (eo := off) (n := n) (c := c) (i := i) (x := x) _ wr _ rfl rfl rfl hx hi (by omega) (rangeAt_keep hr (bel.block _ lb)) ?_
      intro a' w1 hw1 ha
      subst ha
      simp only [Act.put, List.setIfInBounds_toArray, List.set_cons_zero, List.set_cons_succ]
      obtain ⟨bx1, b1⟩ := RowT.bx_is RN wr x
      have z1 : w1.heap.size = wr.heap.size + 1 := by rw [hw1]; simp
      rw [show wr.alloc (.cells (RN.c x).toArray RN.e) = w1 from hw1.symm] at bx1 b1
      clear hw1
      have o1 := hidMk (HI.out.1.below b1)
      have bel1 := bel.trans (b1.mono zb)
      have CF := hidMk (HT.out.an w1 bel1 x.id hx.i)
      go_upto_region 7 with fail
      refine had7 (bx := wr.heap.size) (F := F) (caps := caps) (x := x) (r := sn x.id) (fun w' => Below w1.heap.size w1 w') _ w1 _ rfl rfl rfl hx bx1.rng HT.out.en CF.out ?_
      intro a' w2 b2 ha
      subst ha
      simp only [Act.put, List.setIfInBounds_toArray, List.set_cons_zero, List.set_cons_succ]
      have bx2 := bx1.below b2
      have o2 := hidMk (o1.out.below b2)
      have bel2 := bel1.trans (b2.mono bel1.size)
      have zb2 := bel2.size
      clear bx1 o1 CF HI
      have KE : Hid (∃ w1', w1' = w2) := ⟨w2, rfl⟩
      by_cases hs : sn x.id = true
      · have hlen : (Rg.hadI (fun x => sn x.id) 0 (L.take i)).length ≤ 2500000000000 := by
          have := Rg.hadI_len (fun x : EnV => sn x.id) (L.take i) 0
          simp at this
          omega
        obtain ⟨sv, w3, u2, w4, e3, e4, o4, b3, z3, g4, q4⟩ := RowT.run_push RD_is w2 w.heap.size _ _ (i, x) o2.out (show x.ok ∧ i ≤ 9223372036854775807 from ⟨hx, by omega⟩) (by unfold maxLen; omega) (by show _ * 88 ≤ _; omega) zb2
        have bel4 : Below w.heap.size w w4 := (bel2.trans (b3.mono zb2)).grown g4 (Nat.le_trans zb2 b3.size) (fun k hk => (o2.out.cells hk).1)
        have E3 := hidMk e3
        have E4 := hidMk e4
        have NX : Hid (RD.Own w4 w.heap.size u2 (Rg.hadI (fun x => sn x.id) 0 (L.take (i + 1))) ∧ Below w.heap.size w w4) := by
          refine ⟨?_, bel4⟩
          rw [tk, Rg.hadI_snoc, if_pos hs]
          have e : (0 + (L.take i).length, x) = (i, x) := by
            have : (L.take i).length = i := by rw [List.length_take, HN.out]; omega
            rw [this, Nat.zero_add]
          rw [e]
          exact o4
        rw [hs]
        clear e3 e4 o4 b3 z3 g4 q4 bel4 hlen tk
        go_upto_region 8 with fail
        refine had8 (bx := wr.heap.size) (i := i) (x := x) (sv := sv) (u2 := u2) (w1 := w3) (w2 := w4) _ w2 _ rfl rfl rfl rfl hx bx2.rng E3.out E4.out ?_
        intro a' w5 hw5 ha
        subst ha
        obtain rfl : w4 = w5 := hw5.symm
        simp only [Act.put, List.setIfInBounds_toArray, List.set_cons_zero, List.set_cons_succ]
        clear E3 E4
        go_wp2
        rw [show ((i : Int) + 1) = ((i + 1 : Nat) : Int) by omega]
        refine ⟨⟨i + 1, rfl, hi, NX⟩, ?_⟩
        show n - ((i + 1 : Nat) : Int).toNat < n - (i : Int).toNat
        omega
      · have hs' : sn x.id = false := by simpa using hs
        have NX : Hid (RD.Own w2 w.heap.size u5 (Rg.hadI (fun x => sn x.id) 0 (L.take (i + 1))) ∧ Below w.heap.size w w2) := by
          refine ⟨?_, bel2⟩
          rw [tk, Rg.hadI_snoc, if_neg (by rw [hs']; decide), List.append_nil]
          exact o2.out
        rw [hs']
        clear tk
        go_wp2
        rw [show ((i : Int) + 1) = ((i + 1 : Nat) : Int) by omega]
        refine ⟨⟨i + 1, rfl, hi, NX⟩, ?_⟩
        show n - ((i + 1 : Nat) : Int).toNat < n - (i : Int).toNat
        omega
    · obtain rfl : n = i := by omega
      have FN := HI.out
      rw [show L.take n = L from List.take_of_length_le (by rw [HN.out]; omega)] at FN
      have HF := hidMk FN
      clear HI FN
      go_wp2
      go_ret
      exact ⟨_, rfl, HF.out.1, HF.out.2⟩
theorem RowT.make0 {κ : Type} {R : RowT κ} (I : R.Is) (w : World) (base n : Nat) (hn : n * R.bytes ≤ 281474976710656) (hm : n ≤ 9000000000000000) (hb : base ≤ w.heap.size) :
    ∃ w', (Instr.makeSlice R.t (.int .i64 0) (.int .i64 (n : Int))).run Tryd.prog w = .ok (.slice (some ⟨w.heap.size, 0, none⟩) 0 n) w' ∧ R.Own w' base (.slice (some ⟨w.heap.size, 0, none⟩) 0 n) [] ∧ Below w.heap.size w w' := by
  obtain ⟨i, hi, hz, hs, hby⟩ := info_parts I.info
  obtain ⟨w', e, o, g⟩ := run_make_own (P := Tryd.prog) w base R.t R.e i _ R.k I.und hi hz hs .i64 .i64 n (by rw [hby, Nat.mul_comm]; exact hn) (by unfold maxLen; omega) hb
  exact ⟨w', e, o, grown_below g⟩
theorem exec_sl3 {w : World} {a : Act} {o : Oper} {t : TypeId} {x hi mx : Operand} {xv hv mv v : Value} (ho : o.op = .slice t x none (some hi) (some mx)) (hx : a.eval x = xv) (h2 : a.eval hi = hv) (h3 : a.eval mx = mv) (hl : (Instr.sliceAt t xv none (some hv) (some mv)).run Tryd.prog w = .ok v w) : (execOp a.eval o).run Tryd.prog w = .ok (.value v) w := exec_slice ho hx rfl (congrArg some h2) (congrArg some h3) hl
theorem cut_any (a : Option Addr) {n c m : Nat} (hm : m ≤ c) (w : World) : Calls Tryd.prog 45 #[.slice a n c, .int .i64 (m : Int)] w fun e w' => e = .returned (.slice a m m) ∧ w' = w := by
  have HS := hidMk (RowT.sl_cut RN_is a (n := n) hm w)
  go_enter Tryd.func45, Tryd.ntmps45
  go_wp2_with (first
    | (refine wpList_val rfl (exec_sl3 (t := 60) (xv := .slice a n c) (hv := .int .i64 (m : Int)) (mv := .int .i64 (m : Int)) (v := .slice a m m) rfl rfl rfl rfl HS.out) ?_)
    | fail)
  go_ret
  exact ⟨rfl, rfl⟩
theorem bs_en0 (w : World) : (Instr.buildSlice 60 0 #[]).run Tryd.prog w = .ok (.slice (some ⟨w.heap.size, 0, none⟩) 0 0) (w.alloc (.cells #[] 63)) := by kernel_rfl
theorem eql_en0 (w : World) : (binOp .eql 60 (.slice none 0 0) (.slice none 0 0)).run Tryd.prog w = .ok (.bool true) w := by kernel_rfl
theorem eql_en1 (a : Addr) (n c : Nat) (w : World) : (binOp .eql 60 (.slice (some a) n c) (.slice none 0 0)).run Tryd.prog w = .ok (.bool false) w := by kernel_rfl
attribute [local go_sem] eql_en0 eql_en1
theorem clone_any {w : World} {base : Nat} {v : Value} {L : List EnV} (h : RN.Lo w base v L) (ok : ∀ x ∈ L, x.ok) (hn : L.length ≤ 2500000000000) :
    Calls Tryd.prog 60 #[v] w fun e w' => ∃ v', e = .returned v' ∧ RN.Own w' w.heap.size v' L ∧ Below w.heap.size w w' := by
  obtain ⟨a, c, rfl, hat, hc, hcm, _⟩ := h.open RN_is ok
  have hnil : a = none → L = [] ∧ c = 0 := fun e => by
    rcases h with ⟨e1, e2⟩ | ⟨g, cap, cur, e1, _⟩
    · injection e1 with _ _ e3; exact ⟨e2, e3⟩
    · injection e1 with e3; rw [e] at e3; cases e3
  cases a with
  | none =>
    obtain ⟨rfl, rfl⟩ := hnil rfl
    go_enter Tryd.func60, Tryd.ntmps60
    go_wp2
    go_ret
    exact ⟨_, rfl, RowT.own_nil RN w w.heap.size, Below.refl _ _⟩
  | some ad =>
    have b1 : Below w.heap.size w (w.alloc (.cells #[] 63)) := (Below.refl _ _).alloc (Nat.le_refl _) _
    have o1 : RN.Own (w.alloc (.cells #[] 63)) w.heap.size (.slice (some ⟨w.heap.size, 0, none⟩) 0 0) [] := ⟨by simp [RowT.flat], .inr ⟨w.heap.size, 0, #[], rfl, Nat.le_refl _, heap_alloc_new _ _, Nat.le_refl _, by decide, by simp, by simp [RowT.flat]⟩⟩
    obtain ⟨v', w2, e2, o2, g2, q2⟩ := RowT.run_app RN_is _ w.heap.size _ [] (some ad) L c o1 (hat.below b1) ok (by simp; unfold maxLen; omega) (by show _ * 80 ≤ _; simp; omega) b1.size
    have E1 := hidMk (bs_en0 w)
    have B2 : Hid (Below w.heap.size w w2) := b1.grown g2 b1.size (fun k hk => (o1.cells hk).1)
    generalize w.alloc (.cells #[] 63) = w1 at *
    obtain ⟨n, hnn⟩ : ∃ n, L.length = n := ⟨_, rfl⟩
    rw [hnn] at e2 ⊢
    have E2 := hidMk e2
    have O2 := hidMk o2
    clear h hat hc hcm hnil b1 o1 e2 o2 g2 q2 hnn
    go_enter Tryd.func60, Tryd.ntmps60
    go_wp2_with (first
      | (refine wpList_run rfl (exec_bs0 (t := 60) (v := .slice (some ⟨w.heap.size, 0, none⟩) 0 0) (w2 := w1) rfl E1.out) ?_)
      | (refine wpList_run rfl (exec_append (xv := .slice (some ⟨w.heap.size, 0, none⟩) 0 0) (yv := .slice (some ad) n c) (v := v') (w2 := w2) rfl rfl rfl E2.out) ?_)
      | fail)
    go_ret
    exact ⟨_, rfl, by simpa using O2.out, B2.out⟩
end Go.Proofs.YtldlljobofnmmaaDoor
