import Derived.Test.YtdajeabhhkgibaaP1
import Derived.Test.YtdajeabhhkgibaaYf
namespace Go.Proofs.Ytdajeabhhkgibaa
open Go.RowKit
set_option linter.unusedVariables false
set_option linter.unusedSimpArgs false

/-- A filter of the program's and the document's that tells the same. -/
structure It where
  q : Nat
  g : Nat
  q2 : Nat
  g2 : Nat
  bits : Nat
  p : Nat
  ws : Nat → Nat
def blk (t : It) (k : Nat) : Prop := k = t.q ∨ k = t.g ∨ k = t.q2 ∨ k = t.g2
structure ItAt (N : Nat) (w : World) (t : It) : Prop where
  fw : FW w t.q t.g t.bits t.p t.ws
  rw' : RW w t.q2 t.g2 t.bits t.p (bitAt t.ws)
  wi : Within t.ws t.bits
  lt : ∀ i, t.ws i < 18446744073709551616
  ob : okB t.bits = true
  p1 : 1 ≤ t.p
  p2 : t.p ≤ 16
  lo : ∀ k, blk t k → N ≤ k
  df : t.g ≠ t.q2 ∧ t.g ≠ t.g2 ∧ t.g2 ≠ t.q
theorem ItAt.keep {N : Nat} {w w' : World} {t : It} (h : ItAt N w t) (e : ∀ k, blk t k → w'.heap[k]? = w.heap[k]?) : ItAt N w' t :=
  ⟨h.fw.of (e _ (.inl rfl)) (e _ (.inr (.inl rfl))), h.rw'.of (e _ (.inr (.inr (.inl rfl)))) (e _ (.inr (.inr (.inr rfl)))), h.wi, h.lt, h.ob, h.p1, h.p2, h.lo, h.df⟩
theorem ItAt.size {N : Nat} {w : World} {t : It} (h : ItAt N w t) : ∀ k, blk t k → k < w.heap.size := by
  rintro k (rfl | rfl | rfl | rfl)
  · exact h.fw.fc.lt
  · exact h.fw.wr.lt
  · exact h.rw'.rc.lt
  · exact h.rw'.rb.lt
def fptr : Option It → Value
  | none => .pointer none
  | some t => .pointer (some ⟨t.q, 0, none⟩)
def gptr : Option It → Value
  | none => .pointer none
  | some t => .pointer (some ⟨t.q2, 0, none⟩)
/-- Two rows of filters, side by side. -/
structure Pl (N : Nat) (w : World) (X : List (Option It)) (F G : List Value) (fv gv : Value) : Prop where
  nb : N ≤ w.heap.size
  f : K.OwnV w N 23 fv F
  g : K.OwnV w N 26 gv G
  fg : ∀ k, fv.ownBlock = some k → gv.ownBlock ≠ some k
  it : ∀ t, some t ∈ X → ItAt N w t ∧ ∀ k, blk t k → fv.ownBlock ≠ some k ∧ gv.ownBlock ≠ some k
  ap : ∀ (i j : Nat) (t u : It), X[i]? = some (some t) → X[j]? = some (some u) → i ≠ j → ∀ k, blk t k → ¬ blk u k
theorem ownV_keep {w w' : World} {base : Nat} {e : TypeId} {v : Value} {X : List Value} (h : K.OwnV w base e v X) (hk : ∀ k, v.ownBlock = some k → w'.heap[k]? = w.heap[k]?) : K.OwnV w' base e v X := by
  refine ⟨h.1, ?_⟩
  rcases h.2 with hn | ⟨g, cap, cur, rfl, hbg, hg, rest⟩
  · exact .inl hn
  · exact .inr ⟨g, cap, cur, rfl, hbg, by rw [hk g rfl]; exact hg, rest⟩
theorem Pl.below {N : Nat} {w w' : World} {X : List (Option It)} {F G : List Value} {fv gv : Value} (h : Pl N w X F G fv gv) (hb : Below w.heap.size w w') : Pl N w' X F G fv gv :=
  ⟨Nat.le_trans h.nb hb.size, h.f.below hb, h.g.below hb, h.fg, fun t ht => ⟨(h.it t ht).1.keep (fun k hk => hb.block k ((h.it t ht).1.size k hk)), (h.it t ht).2⟩, h.ap⟩
/-- One item turns, in its two rows of bits alone. -/
theorem Pl.turn {N : Nat} {w w' : World} {X : List (Option It)} {F G : List Value} {fv gv : Value} (h : Pl N w X F G fv gv) (i : Nat) (t t' : It) (hi : X[i]? = some (some t)) (e1 : t'.q = t.q ∧ t'.g = t.g ∧ t'.q2 = t.q2 ∧ t'.g2 = t.g2) (ht : ItAt N w' t')
    (hs : w.heap.size ≤ w'.heap.size) (hk : ∀ k, k < w.heap.size → k ≠ t.g → k ≠ t.g2 → w'.heap[k]? = w.heap[k]?) : Pl N w' (X.set i (some t')) F G fv gv := by
  have hm : some t ∈ X := List.mem_of_getElem? hi
  have hb : ∀ k, blk t' k ↔ blk t k := fun k => by unfold blk; rw [e1.1, e1.2.1, e1.2.2.1, e1.2.2.2]
  have ht0 := h.it t hm
  have hlt : i < X.length := (List.getElem?_eq_some_iff.1 hi).1
  refine ⟨Nat.le_trans h.nb hs, ownV_keep h.f (fun k e => hk k (World.ownsRow.lt h.f k e).2 (fun e2 => (ht0.2 t.g (.inr (.inl rfl))).1 (by rw [← e2]; exact e)) (fun e2 => (ht0.2 t.g2 (.inr (.inr (.inr rfl)))).1 (by rw [← e2]; exact e))),
    ownV_keep h.g (fun k e => hk k (World.ownsRow.lt h.g k e).2 (fun e2 => (ht0.2 t.g (.inr (.inl rfl))).2 (by rw [← e2]; exact e)) (fun e2 => (ht0.2 t.g2 (.inr (.inr (.inr rfl)))).2 (by rw [← e2]; exact e))), h.fg, ?_, ?_⟩
  · intro u hu
    obtain ⟨j, hj⟩ := List.mem_iff_getElem?.1 hu
    rw [List.getElem?_set] at hj
    by_cases e : i = j
    · rw [if_pos e, if_pos (by omega)] at hj
      cases hj
      exact ⟨ht, fun k hk2 => ht0.2 k ((hb k).1 hk2)⟩
    · rw [if_neg e] at hj
      have hu2 := h.it u (List.mem_of_getElem? hj)
      refine ⟨hu2.1.keep (fun k hk2 => hk k (hu2.1.size k hk2) (fun e2 => ?_) (fun e2 => ?_)), hu2.2⟩
      · exact h.ap i j t u hi hj e k (by rw [e2]; exact .inr (.inl rfl)) hk2
      · exact h.ap i j t u hi hj e k (by rw [e2]; exact .inr (.inr (.inr rfl))) hk2
  · intro a b x y ha hb2 hab k hk1 hk2
    rw [List.getElem?_set] at ha hb2
    by_cases ea : i = a
    · rw [if_pos ea, if_pos (by omega)] at ha
      cases ha
      rw [if_neg (by omega)] at hb2
      exact h.ap i b t y hi hb2 (by omega) k ((hb k).1 hk1) hk2
    · rw [if_neg ea] at ha
      by_cases eb : i = b
      · rw [if_pos eb, if_pos (by omega)] at hb2
        cases hb2
        exact h.ap a i x t ha hi (by omega) k hk1 ((hb k).1 hk2)
      · rw [if_neg eb] at hb2
        exact h.ap a b x y ha hb2 hab k hk1 hk2
/-- One more. -/
theorem Pl.push {N : Nat} {w0 w : World} {X : List (Option It)} {F G : List Value} {fv gv : Value} (h : Pl N w0 X F G fv gv) (hb : Below w0.heap.size w0 w) (t : It) (ht : ItAt N w t) (hf : ∀ k, blk t k → w0.heap.size ≤ k) : Pl N w (X ++ [some t]) F G fv gv := by
  have hw := h.below hb
  refine ⟨hw.nb, hw.f, hw.g, hw.fg, ?_, ?_⟩
  · intro u hu
    rw [List.mem_append] at hu
    rcases hu with hu | hu
    · exact hw.it u hu
    · simp at hu
      subst hu
      refine ⟨ht, fun k hk => ⟨fun e => ?_, fun e => ?_⟩⟩
      · have := (World.ownsRow.lt h.f k e).2; have := hf k hk; omega
      · have := (World.ownsRow.lt h.g k e).2; have := hf k hk; omega
  · have old : ∀ (j : Nat) (u : It) (k : Nat), X[j]? = some (some u) → blk u k → k < w0.heap.size := fun j u k hj hk => (h.it u (List.mem_of_getElem? hj)).1.size k hk
    intro a b x y ha hb2 hab k hk1 hk2
    rw [List.getElem?_append] at ha hb2
    by_cases ea : a < X.length
    · rw [if_pos ea] at ha
      by_cases eb : b < X.length
      · rw [if_pos eb] at hb2
        exact h.ap a b x y ha hb2 hab k hk1 hk2
      · rw [if_neg eb] at hb2
        have h1 := (List.getElem?_eq_some_iff.1 hb2).1
        simp only [List.length_cons, List.length_nil] at h1
        have h0 : b - X.length = 0 := by omega
        rw [h0] at hb2
        simp at hb2
        subst hb2
        have := old a x k ha hk1
        have := hf k hk2
        omega
    · rw [if_neg ea] at ha
      have h1 := (List.getElem?_eq_some_iff.1 ha).1
      simp only [List.length_cons, List.length_nil] at h1
      have h0 : a - X.length = 0 := by omega
      rw [h0] at ha
      simp at ha
      subst ha
      by_cases eb : b < X.length
      · rw [if_pos eb] at hb2
        have := old b y k hb2 hk2
        have := hf k hk1
        omega
      · have h2 : b - X.length < 1 := by rw [if_neg eb] at hb2; have := (List.getElem?_eq_some_iff.1 hb2).1; simpa using this
        omega
theorem Pl.pushNil {N : Nat} {w : World} {X : List (Option It)} {F G : List Value} {fv gv : Value} (h : Pl N w X F G fv gv) : Pl N w (X ++ [none]) F G fv gv := by
  have old : ∀ (a : Nat) (x : It), (X ++ [none])[a]? = some (some x) → X[a]? = some (some x) := fun a x ha => by
    rw [List.getElem?_append] at ha
    by_cases ea : a < X.length
    · rwa [if_pos ea] at ha
    · rw [if_neg ea] at ha
      have h1 := (List.getElem?_eq_some_iff.1 ha).1
      simp only [List.length_cons, List.length_nil] at h1
      have h0 : a - X.length = 0 := by omega
      rw [h0] at ha
      simp at ha
  exact ⟨h.nb, h.f, h.g, h.fg, fun t ht => h.it t (by simpa using ht), fun a b x y ha hb => h.ap a b x y (old a x ha) (old b y hb)⟩
/-- The program's row grows. -/
theorem Pl.appF {N : Nat} {w w' : World} {X : List (Option It)} {F G F' : List Value} {fv gv fv' : Value} (h : Pl N w X F G fv gv) (ho : K.OwnV w' N 23 fv' F') (hg : w.grownBy w' fv.ownBlock) (hb : fv'.ownBlock = fv.ownBlock ∨ fv'.ownBlock = some w.heap.size) : Pl N w' X F' G fv' gv := by
  have gl : ∀ k, gv.ownBlock = some k → k < w.heap.size := fun k e => (World.ownsRow.lt h.g k e).2
  refine ⟨Nat.le_trans h.nb hg.size, ho, ownV_keep h.g (fun k e => hg.block k (gl k e) (fun e2 => h.fg k e2.symm e)), fun k e e2 => ?_, fun t ht => ?_, h.ap⟩
  · rcases hb with hb | hb
    · exact h.fg k (by rw [← hb]; exact e) e2
    · rw [hb] at e; cases e; have := gl _ e2; omega
  · have ht0 := h.it t ht
    refine ⟨ht0.1.keep (fun k hk => hg.block k (ht0.1.size k hk) (fun e => (ht0.2 k hk).1 e.symm)), fun k hk => ⟨fun e => ?_, (ht0.2 k hk).2⟩⟩
    rcases hb with hb | hb
    · exact (ht0.2 k hk).1 (by rw [← hb]; exact e)
    · rw [hb] at e; cases e; have := ht0.1.size _ hk; omega
/-- The document's row grows. -/
theorem Pl.appG {N : Nat} {w w' : World} {X : List (Option It)} {F G G' : List Value} {fv gv gv' : Value} (h : Pl N w X F G fv gv) (ho : K.OwnV w' N 26 gv' G') (hg : w.grownBy w' gv.ownBlock) (hb : gv'.ownBlock = gv.ownBlock ∨ gv'.ownBlock = some w.heap.size) : Pl N w' X F G' fv gv' := by
  have fl : ∀ k, fv.ownBlock = some k → k < w.heap.size := fun k e => (World.ownsRow.lt h.f k e).2
  refine ⟨Nat.le_trans h.nb hg.size, ownV_keep h.f (fun k e => hg.block k (fl k e) (fun e2 => h.fg k e e2.symm)), ho, fun k e e2 => ?_, fun t ht => ?_, h.ap⟩
  · rcases hb with hb | hb
    · exact h.fg k e (by rw [← hb]; exact e2)
    · rw [hb] at e2; cases e2; have := fl _ e; omega
  · have ht0 := h.it t ht
    refine ⟨ht0.1.keep (fun k hk => hg.block k (ht0.1.size k hk) (fun e => (ht0.2 k hk).2 e.symm)), fun k hk => ⟨(ht0.2 k hk).1, fun e => ?_⟩⟩
    rcases hb with hb | hb
    · exact (ht0.2 k hk).2 (by rw [← hb]; exact e)
    · rw [hb] at e; cases e; have := ht0.1.size _ hk; omega
end Go.Proofs.Ytdajeabhhkgibaa

namespace Go.Proofs.Ytdajeabhhkgibaa
open Go.RowKit
set_option linter.unusedVariables false
set_option linter.unusedSimpArgs false

variable {N : Nat} {w w1 w2 : World} {X : List (Option It)} {F G : List Value} {fv gv : Value}
theorem set_map (f : Option It → Value) {i : Nat} {x y : Option It} (h : X[i]? = some x) (e : f y = f x) : (X.set i y).map f = X.map f := by
  apply List.ext_getElem?
  intro k
  rw [List.getElem?_map, List.getElem?_map, List.getElem?_set]
  by_cases ek : i = k
  · subst ek
    have hl := (List.getElem?_eq_some_iff.1 h).1
    rw [if_pos rfl, if_pos hl, h]
    simp [e]
  · rw [if_neg ek]
/-- Behind the program's half. -/
theorem ItAt.half {t : It} (h : ItAt N w t) (hs : w.heap.size ≤ w1.heap.size) (hk : ∀ k, k < w.heap.size → k ≠ t.g → w1.heap[k]? = w.heap[k]?) : RW w1 t.q2 t.g2 t.bits t.p (bitAt t.ws) :=
  h.rw'.of (hk _ h.rw'.rc.lt (fun e => h.df.1 e.symm)) (hk _ h.rw'.rb.lt (fun e => h.df.2.1 e.symm))
/-- Both halves. -/
theorem Pl.both (h : Pl N w X F G fv gv) (i : Nat) (t : It) (hi : X[i]? = some (some t)) (ws : Nat → Nat) (hf : FW w1 t.q t.g t.bits t.p ws) (hs1 : w.heap.size ≤ w1.heap.size) (hk1 : ∀ k, k < w.heap.size → k ≠ t.g → w1.heap[k]? = w.heap[k]?)
    (hr : RW w2 t.q2 t.g2 t.bits t.p (bitAt ws)) (hs2 : w1.heap.size ≤ w2.heap.size) (hk2 : ∀ k, k < w1.heap.size → k ≠ t.g2 → w2.heap[k]? = w1.heap[k]?) (hw : Within ws t.bits) (hl : ∀ i, ws i < 18446744073709551616) :
    Pl N w2 (X.set i (some { t with ws := ws })) F G fv gv := by
  have ht := (h.it t (List.mem_of_getElem? hi)).1
  refine h.turn i t { t with ws := ws } hi ⟨rfl, rfl, rfl, rfl⟩ ⟨?_, hr, hw, hl, ht.ob, ht.p1, ht.p2, ht.lo, ht.df⟩ (Nat.le_trans hs1 hs2) (fun k hk h1 h2 => (hk2 k (by omega) h2).trans (hk1 k hk h1))
  exact hf.of (hk2 _ hf.fc.lt (fun e => ht.df.2.2 e.symm)) (hk2 _ hf.wr.lt ht.df.2.1)
theorem within_set {bits : Nat} (hb : 0 < bits) (p : Nat) {ws : Nat → Nat} (h : Within ws bits) (x : List UInt8) : Within (setAll ws (spotL x bits hb p)) bits := within_addL hb p h [x]
theorem ItAt.pos {t : It} (h : ItAt N w t) : 0 < t.bits ∧ t.bits ≤ 65536 ∧ 8 ≤ t.bits ∧ t.bits % 8 = 0 := by
  have := of_decide_eq_true h.ob
  omega
/-- Add on both sides. -/
theorem Pl.added (h : Pl N w X F G fv gv) (i : Nat) (t : It) (hi : X[i]? = some (some t)) (hb : 0 < t.bits) (x : List UInt8) (hf : FW w1 t.q t.g t.bits t.p (setAll t.ws (spotL x t.bits hb t.p))) (k1 : Kb w.heap.size t.g w w1)
    (hr : RW w2 t.q2 t.g2 t.bits t.p (onAll (bitAt t.ws) (spotL x t.bits hb t.p))) (k2 : Kb w1.heap.size t.g2 w1 w2) :
    ∃ t', Pl N w2 (X.set i (some t')) F G fv gv ∧ (X.set i (some t')).map fptr = X.map fptr ∧ (X.set i (some t')).map gptr = X.map gptr ∧ (X.set i (some t')).length = X.length := by
  have ht := (h.it t (List.mem_of_getElem? hi)).1
  rw [onAll_bits] at hr
  exact ⟨_, h.both i t hi _ hf k1.size (fun k hk hg => k1.block k hk hg) hr k2.size (fun k hk hg => k2.block k hk hg) (within_set hb t.p ht.wi x) (setAll_lt ht.lt _), set_map fptr hi rfl, set_map gptr hi rfl, by simp⟩
/-- Join on both sides. -/
theorem Pl.joined (h : Pl N w X F G fv gv) (i : Nat) (t : It) (hi : X[i]? = some (some t)) (wo : Nat → Nat) (hwo : Within wo t.bits) (hlo : ∀ i, wo i < 18446744073709551616) (hf : FW w1 t.q t.g t.bits t.p (orW t.ws wo ((t.bits + 63) / 64))) (k1 : w.grownBy w1 (some t.g))
    (hr : RB w2 t.g2 t.bits (jB (bitAt t.ws) (bitAt wo) t.bits)) (k2 : K.Fr t.g2 w1 w2) :
    ∃ t', Pl N w2 (X.set i (some t')) F G fv gv ∧ (X.set i (some t')).map fptr = X.map fptr ∧ (X.set i (some t')).map gptr = X.map gptr ∧ (X.set i (some t')).length = X.length := by
  have ht := (h.it t (List.mem_of_getElem? hi)).1
  have hk1 : ∀ k, k < w.heap.size → k ≠ t.g → w1.heap[k]? = w.heap[k]? := fun k hk hg => k1.block k hk (fun e => hg (by cases e; rfl))
  have hrw := ht.half k1.size hk1
  have hr2 : RW w2 t.q2 t.g2 t.bits t.p (bitAt (orW t.ws wo ((t.bits + 63) / 64))) := ⟨hrw.rc.of (k2.block _ hrw.rc.lt (fun e => hrw.rc.ne e.symm)), hr.congr (fun j hj => by rw [jB_bits t.ws wo t.bits ((t.bits + 63) / 64) j hj (by omega)])⟩
  exact ⟨_, h.both i t hi _ hf k1.size hk1 hr2 k2.size (fun k hk hg => k2.block k hk hg) (within_orW ht.wi hwo) (orW_lt ht.lt hlo _), set_map fptr hi rfl, set_map gptr hi rfl, by simp⟩
/-- A pair that was made since. -/
theorem itAt_new {q g q2 g2 bits p : Nat} {ws : Nat → Nat} (hN : N ≤ w.heap.size) (hf : FW w2 q g bits p ws) (hr : RW w2 q2 g2 bits p (bitAt ws)) (hw : Within ws bits) (hl : ∀ i, ws i < 18446744073709551616) (ho : okB bits = true) (p1 : 1 ≤ p) (p2 : p ≤ 16)
    (h1 : w.heap.size ≤ q) (h2 : w.heap.size ≤ g) (h3 : w1.heap.size ≤ q2) (h4 : w1.heap.size ≤ g2) (h5 : q < w1.heap.size) (h6 : g < w1.heap.size) (hs : w.heap.size ≤ w1.heap.size) : ItAt N w2 ⟨q, g, q2, g2, bits, p, ws⟩ ∧ ∀ k, blk ⟨q, g, q2, g2, bits, p, ws⟩ k → w.heap.size ≤ k := by
  have hb : ∀ k, blk ⟨q, g, q2, g2, bits, p, ws⟩ k → w.heap.size ≤ k := by
    rintro k (e | e | e | e) <;> (simp only at e; omega)
  exact ⟨⟨hf, hr, hw, hl, ho, p1, p2, fun k hk => Nat.le_trans hN (hb k hk), ⟨by show g ≠ q2; omega, by show g ≠ g2; omega, by show g2 ≠ q; omega⟩⟩, hb⟩
end Go.Proofs.Ytdajeabhhkgibaa

namespace Go.Proofs.Ytdajeabhhkgibaa
open Go.RowKit
set_option linter.unusedVariables false
set_option linter.unusedSimpArgs false

def plays11_ops : Array Oper := #[{ dst := some 38, op := Op.move (Operand.tmp 3), type := 25, pos := "law.go:82", after := #[], guard := none }, { dst := some 39, op := Op.move (Operand.tmp 7), type := 3, pos := "law.go:82", after := #[], guard := none }, { dst := some 40, op := Op.indexAddr 25 (Operand.tmp 38) (Operand.tmp 39), type := 0, pos := "law.go:82", after := #[{ on := 0, ground := Ground.data }, { on := 1, ground := Ground.data }], guard := none }, { dst := some 41, op := Op.load 23 (Operand.tmp 40), type := 23, pos := "law.go:82", after := #[{ on := 2, ground := Ground.data }], guard := none }, { dst := some 42, op := Op.fieldAddr 33 (Operand.tmp 6) 3, type := 0, pos := "law.go:82", after := #[], guard := none }, { dst := some 43, op := Op.load 30 (Operand.tmp 42), type := 30, pos := "law.go:82", after := #[{ on := 4, ground := Ground.data }], guard := none }, { dst := some 44, op := Op.call { callee := Callee.value (Operand.func 22), args := #[Operand.tmp 41, Operand.tmp 43], argTypes := #[23, 30] }, type := 4, pos := "law.go:82", after := #[{ on := 3, ground := Ground.data }, { on := 5, ground := Ground.data }], guard := none }, { dst := some 45, op := Op.move (Operand.tmp 4), type := 28, pos := "law.go:82", after := #[], guard := none }, { dst := some 46, op := Op.move (Operand.tmp 7), type := 3, pos := "law.go:82", after := #[], guard := none }, { dst := some 47, op := Op.indexAddr 28 (Operand.tmp 45) (Operand.tmp 46), type := 0, pos := "law.go:82", after := #[{ on := 7, ground := Ground.data }, { on := 8, ground := Ground.data }], guard := none }, { dst := some 48, op := Op.load 26 (Operand.tmp 47), type := 26, pos := "law.go:82", after := #[{ on := 9, ground := Ground.data }], guard := none }, { dst := some 49, op := Op.fieldAddr 33 (Operand.tmp 6) 3, type := 0, pos := "law.go:82", after := #[], guard := none }, { dst := some 50, op := Op.load 30 (Operand.tmp 49), type := 30, pos := "law.go:82", after := #[{ on := 11, ground := Ground.data }], guard := none }, { dst := some 51, op := Op.call { callee := Callee.value (Operand.func 23), args := #[Operand.tmp 48, Operand.tmp 50], argTypes := #[26, 30] }, type := 4, pos := "law.go:82", after := #[{ on := 10, ground := Ground.data }, { on := 12, ground := Ground.data }, { on := 6, ground := Ground.chain }], guard := none }, { dst := some 52, op := Op.binOp BinOp.eql 4 (Operand.tmp 44) (Operand.tmp 51) 4, type := 4, pos := "law.go:82", after := #[{ on := 6, ground := Ground.data }, { on := 13, ground := Ground.data }], guard := none }, { dst := some 53, op := Op.move (Operand.tmp 52), type := 4, pos := "law.go:82", after := #[{ on := 14, ground := Ground.data }, { on := 13, ground := Ground.chain }], guard := none }, { dst := some 54, op := Op.move (Operand.tmp 3), type := 25, pos := "law.go:82", after := #[{ on := 15, ground := Ground.guard }], guard := some (15, true) }, { dst := some 55, op := Op.move (Operand.tmp 7), type := 3, pos := "law.go:82", after := #[{ on := 15, ground := Ground.guard }], guard := some (15, true) }, { dst := some 56, op := Op.indexAddr 25 (Operand.tmp 54) (Operand.tmp 55), type := 0, pos := "law.go:82", after := #[{ on := 16, ground := Ground.data }, { on := 17, ground := Ground.data }, { on := 15, ground := Ground.guard }], guard := some (15, true) }, { dst := some 57, op := Op.load 23 (Operand.tmp 56), type := 23, pos := "law.go:82", after := #[{ on := 18, ground := Ground.data }, { on := 15, ground := Ground.guard }], guard := some (15, true) }, { dst := some 58, op := Op.fieldAddr 33 (Operand.tmp 6) 3, type := 0, pos := "law.go:82", after := #[{ on := 15, ground := Ground.guard }], guard := some (15, true) }, { dst := some 59, op := Op.load 30 (Operand.tmp 58), type := 30, pos := "law.go:82", after := #[{ on := 20, ground := Ground.data }, { on := 15, ground := Ground.guard }], guard := some (15, true) }, { dst := some 60, op := Op.call { callee := Callee.value (Operand.func 25), args := #[Operand.tmp 57, Operand.tmp 59], argTypes := #[23, 30] }, type := 49, pos := "law.go:82", after := #[{ on := 19, ground := Ground.data }, { on := 21, ground := Ground.data }, { on := 15, ground := Ground.chain }, { on := 15, ground := Ground.guard }], guard := some (15, true) }, { dst := some 61, op := Op.move (Operand.tmp 4), type := 28, pos := "law.go:82", after := #[{ on := 15, ground := Ground.guard }], guard := some (15, true) }, { dst := some 62, op := Op.move (Operand.tmp 7), type := 3, pos := "law.go:82", after := #[{ on := 15, ground := Ground.guard }], guard := some (15, true) }, { dst := some 63, op := Op.indexAddr 28 (Operand.tmp 61) (Operand.tmp 62), type := 0, pos := "law.go:82", after := #[{ on := 23, ground := Ground.data }, { on := 24, ground := Ground.data }, { on := 15, ground := Ground.guard }], guard := some (15, true) }, { dst := some 64, op := Op.load 26 (Operand.tmp 63), type := 26, pos := "law.go:82", after := #[{ on := 25, ground := Ground.data }, { on := 15, ground := Ground.guard }], guard := some (15, true) }, { dst := some 65, op := Op.fieldAddr 33 (Operand.tmp 6) 3, type := 0, pos := "law.go:82", after := #[{ on := 15, ground := Ground.guard }], guard := some (15, true) }, { dst := some 66, op := Op.load 30 (Operand.tmp 65), type := 30, pos := "law.go:82", after := #[{ on := 27, ground := Ground.data }, { on := 15, ground := Ground.guard }], guard := some (15, true) }, { dst := some 67, op := Op.call { callee := Callee.value (Operand.func 26), args := #[Operand.tmp 64, Operand.tmp 66], argTypes := #[26, 30] }, type := 49, pos := "law.go:82", after := #[{ on := 26, ground := Ground.data }, { on := 28, ground := Ground.data }, { on := 22, ground := Ground.chain }, { on := 15, ground := Ground.guard }], guard := some (15, true) }, { dst := some 68, op := Op.call { callee := Callee.value (Operand.func 24), args := #[Operand.tmp 60, Operand.tmp 67], argTypes := #[49, 49] }, type := 4, pos := "law.go:82", after := #[{ on := 22, ground := Ground.data }, { on := 29, ground := Ground.data }, { on := 29, ground := Ground.chain }, { on := 15, ground := Ground.guard }], guard := some (15, true) }, { dst := some 69, op := Op.pick (Operand.tmp 53) (Operand.tmp 68) (Operand.const (Value.bool false)), type := 4, pos := "law.go:82", after := #[{ on := 15, ground := Ground.data }, { on := 30, ground := Ground.data }], guard := none }, { dst := some 8, op := Op.assign (Operand.tmp 69), type := 4, pos := "law.go:82", after := #[{ on := 31, ground := Ground.data }, { on := 30, ground := Ground.chain }, { on := 0, ground := Ground.phase }, { on := 1, ground := Ground.phase }, { on := 2, ground := Ground.phase }, { on := 3, ground := Ground.phase }, { on := 4, ground := Ground.phase }, { on := 5, ground := Ground.phase }, { on := 6, ground := Ground.phase }, { on := 7, ground := Ground.phase }, { on := 8, ground := Ground.phase }, { on := 9, ground := Ground.phase }, { on := 10, ground := Ground.phase }, { on := 11, ground := Ground.phase }, { on := 12, ground := Ground.phase }, { on := 13, ground := Ground.phase }, { on := 14, ground := Ground.phase }, { on := 15, ground := Ground.phase }, { on := 16, ground := Ground.phase }, { on := 17, ground := Ground.phase }, { on := 18, ground := Ground.phase }, { on := 19, ground := Ground.phase }, { on := 20, ground := Ground.phase }, { on := 21, ground := Ground.phase }, { on := 22, ground := Ground.phase }, { on := 23, ground := Ground.phase }, { on := 24, ground := Ground.phase }, { on := 25, ground := Ground.phase }, { on := 26, ground := Ground.phase }, { on := 27, ground := Ground.phase }, { on := 28, ground := Ground.phase }, { on := 29, ground := Ground.phase }, { on := 30, ground := Ground.phase }, { on := 31, ground := Ground.phase }], guard := none }]
set_option maxRecDepth 100000 in
set_option maxHeartbeats 4000000 in
theorem plays11 (N : Nat) (w0 : World) (fb fc gb gc n i ob nS : Nat) (px py : Option Addr) (z : Bool) (hh : List UInt8) (lS : List Value) (a : Act) (w : World) (Q : Exit → Act → World → Prop) (hsz : a.tmps.size = 222)
    (t3 : a.tmps.getD 3 undef = .slice (some ⟨fb, 0, none⟩) n fc)
    (t4 : a.tmps.getD 4 undef = .slice (some ⟨gb, 0, none⟩) n gc)
    (t6 : a.tmps.getD 6 undef = .pointer (some ⟨ob, 0, none⟩))
    (t7 : a.tmps.getD 7 undef = .int .i64 (i : Int))
    (h0 : Below N w0 w.drew)
    (IX1 : ∀ W, (Instr.indexAt 25 (.slice (some ⟨fb, 0, none⟩) n fc) (.int .i64 (i : Int))).run Try.prog W = .ok (.pointer (some ⟨fb, i, none⟩)) W)
    (IX2 : ∀ W, (Instr.indexAt 28 (.slice (some ⟨gb, 0, none⟩) n gc) (.int .i64 (i : Int))).run Try.prog W = .ok (.pointer (some ⟨gb, i, none⟩)) W)
    (L1 : ∀ W, Below N w0 W → W.cell? ⟨fb, i, none⟩ = some (.pointer px))
    (L2 : ∀ W, Below N w0 W → W.cell? ⟨gb, i, none⟩ = some (.pointer py))
    (HLD : ∀ W, Below N w0 W → (Instr.loadAt 30 (.pointer (some ⟨ob, 3, none⟩))).run Try.prog W = .ok (.agg (bs hh)) W)
    (C22 : ∀ W, Below N w0 W → Calls Try.prog 22 #[.pointer px, .agg (bs hh)] W fun e w' => e = .returned (.bool z) ∧ Below W.heap.size W w')
    (C23 : ∀ W, Below N w0 W → Calls Try.prog 23 #[.pointer py, .agg (bs hh)] W fun e w' => e = .returned (.bool z) ∧ Below W.heap.size W w')
    (C25 : ∀ W, Below N w0 W → Calls Try.prog 25 #[.pointer px, .agg (bs hh)] W fun e w' => ∃ s c, e = .returned (.slice s nS c) ∧ RowOn w' s lS ∧ Below W.heap.size W w')
    (C26 : ∀ W, Below N w0 W → Calls Try.prog 26 #[.pointer py, .agg (bs hh)] W fun e w' => ∃ s c, e = .returned (.slice s nS c) ∧ RowOn w' s lS ∧ Below W.heap.size W w')
    (C24 : ∀ W s1 c1 s2 c2, Below N w0 W → RowOn W s1 lS → RowOn W s2 lS → Calls Try.prog 24 #[.slice s1 nS c1, .slice s2 nS c2] W fun e w' => e = .returned (.bool true) ∧ Below W.heap.size W w')
    (hN : ∀ W, Below N w0 W → N ≤ W.heap.size)
    (h : ∀ (s1 : Option Addr) (c1 : Nat) (s2 : Option Addr) (c2 : Nat) (a' : Act) (w' : World), Below N w0 w' → a' = (((((((((((((((((((((((((((((((((a).put (some 38) (.slice (some ⟨fb, 0, none⟩) n fc)).put (some 39) (.int .i64 (i : Int))).put (some 40) (.pointer (some ⟨fb, i, none⟩))).put (some 41) (.pointer px)).put (some 42) (.pointer (some ⟨ob, 3, none⟩))).put (some 43) (.agg (bs hh))).put (some 45) (.slice (some ⟨gb, 0, none⟩) n gc)).put (some 46) (.int .i64 (i : Int))).put (some 47) (.pointer (some ⟨gb, i, none⟩))).put (some 48) (.pointer py)).put (some 49) (.pointer (some ⟨ob, 3, none⟩))).put (some 50) (.agg (bs hh))).put (some 44) (.bool z)).put (some 51) (.bool z)).put (some 52) (.bool true)).put (some 53) (.bool true)).put (some 54) (.slice (some ⟨fb, 0, none⟩) n fc)).put (some 55) (.int .i64 (i : Int))).put (some 56) (.pointer (some ⟨fb, i, none⟩))).put (some 57) (.pointer px)).put (some 58) (.pointer (some ⟨ob, 3, none⟩))).put (some 59) (.agg (bs hh))).put (some 61) (.slice (some ⟨gb, 0, none⟩) n gc)).put (some 62) (.int .i64 (i : Int))).put (some 63) (.pointer (some ⟨gb, i, none⟩))).put (some 64) (.pointer py)).put (some 65) (.pointer (some ⟨ob, 3, none⟩))).put (some 66) (.agg (bs hh))).put (some 60) (.slice s1 nS c1)).put (some 67) (.slice s2 nS c2)).put (some 68) (.bool true)).put (some 69) (.bool true)).put (some 8) (.bool true) → Q .normal a' w') :
    (Code.region 11 plays11_ops true).wp Try.prog Q a w := by
  refine wp_region_noPanic ?_
  refine wp_region_held_drew (S := fun w' => Below N w0 w') (by kernel_rfl) (h0) (fun hHeld => ?_)
  refine wpAnyH_take (i := 0) (oi := { dst := some 38, op := Op.move (Operand.tmp 3), type := 25, pos := "law.go:82", after := #[], guard := none }) (v := .slice (some ⟨fb, 0, none⟩) n fc) rfl (by kernel_rfl) (by kernel_rfl) (by kernel_rfl) (fun _ _ _ h => h) (Or.inl ⟨by rfl, fun w1 hw => by go_simp⟩) hHeld ?_
  change wpAnyH _ _ _ _ _ _ _ (a.put (some 38) (.slice (some ⟨fb, 0, none⟩) n fc)) _
  obtain ⟨a1, e1⟩ : ∃ act, act = a.put (some 38) (.slice (some ⟨fb, 0, none⟩) n fc) := ⟨_, rfl⟩
  rw [← e1] at h ⊢
  have z1 : a1.tmps.size = 222 := by rw [e1, put_size]; exact hsz
  replace t3 : a1.tmps.getD 3 undef = .slice (some ⟨fb, 0, none⟩) n fc := by rw [e1, put_ne _ _ _ _ (by decide)]; exact t3
  replace t4 : a1.tmps.getD 4 undef = .slice (some ⟨gb, 0, none⟩) n gc := by rw [e1, put_ne _ _ _ _ (by decide)]; exact t4
  replace t6 : a1.tmps.getD 6 undef = .pointer (some ⟨ob, 0, none⟩) := by rw [e1, put_ne _ _ _ _ (by decide)]; exact t6
  replace t7 : a1.tmps.getD 7 undef = .int .i64 (i : Int) := by rw [e1, put_ne _ _ _ _ (by decide)]; exact t7
  have t38 : a1.tmps.getD 38 undef = .slice (some ⟨fb, 0, none⟩) n fc := by rw [e1]; exact put_same _ _ _ (by omega)
  clear e1 hsz
  refine wpAnyH_take (i := 1) (oi := { dst := some 39, op := Op.move (Operand.tmp 7), type := 3, pos := "law.go:82", after := #[], guard := none }) (v := .int .i64 (i : Int)) rfl (by kernel_rfl) (by kernel_rfl) (by kernel_rfl) (fun _ _ _ h => h) (Or.inl ⟨by rfl, fun w1 hw => by go_simp⟩) hHeld ?_
  change wpAnyH _ _ _ _ _ _ _ (a1.put (some 39) (.int .i64 (i : Int))) _
  obtain ⟨a2, e2⟩ : ∃ act, act = a1.put (some 39) (.int .i64 (i : Int)) := ⟨_, rfl⟩
  rw [← e2] at h ⊢
  have z2 : a2.tmps.size = 222 := by rw [e2, put_size]; exact z1
  replace t3 : a2.tmps.getD 3 undef = .slice (some ⟨fb, 0, none⟩) n fc := by rw [e2, put_ne _ _ _ _ (by decide)]; exact t3
  replace t4 : a2.tmps.getD 4 undef = .slice (some ⟨gb, 0, none⟩) n gc := by rw [e2, put_ne _ _ _ _ (by decide)]; exact t4
  replace t6 : a2.tmps.getD 6 undef = .pointer (some ⟨ob, 0, none⟩) := by rw [e2, put_ne _ _ _ _ (by decide)]; exact t6
  replace t7 : a2.tmps.getD 7 undef = .int .i64 (i : Int) := by rw [e2, put_ne _ _ _ _ (by decide)]; exact t7
  replace t38 : a2.tmps.getD 38 undef = .slice (some ⟨fb, 0, none⟩) n fc := by rw [e2, put_ne _ _ _ _ (by decide)]; exact t38
  have t39 : a2.tmps.getD 39 undef = .int .i64 (i : Int) := by rw [e2]; exact put_same _ _ _ (by omega)
  clear e2 z1
  refine wpAnyH_take (i := 2) (oi := { dst := some 40, op := Op.indexAddr 25 (Operand.tmp 38) (Operand.tmp 39), type := 0, pos := "law.go:82", after := #[{ on := 0, ground := Ground.data }, { on := 1, ground := Ground.data }], guard := none }) (v := .pointer (some ⟨fb, i, none⟩)) rfl (by kernel_rfl) (by kernel_rfl) (by kernel_rfl) (fun _ _ _ h => h) (Or.inl ⟨by rfl, fun w1 hw => by go_simp⟩) hHeld ?_
  change wpAnyH _ _ _ _ _ _ _ (a2.put (some 40) (.pointer (some ⟨fb, i, none⟩))) _
  obtain ⟨a3, e3⟩ : ∃ act, act = a2.put (some 40) (.pointer (some ⟨fb, i, none⟩)) := ⟨_, rfl⟩
  rw [← e3] at h ⊢
  have z3 : a3.tmps.size = 222 := by rw [e3, put_size]; exact z2
  replace t3 : a3.tmps.getD 3 undef = .slice (some ⟨fb, 0, none⟩) n fc := by rw [e3, put_ne _ _ _ _ (by decide)]; exact t3
  replace t4 : a3.tmps.getD 4 undef = .slice (some ⟨gb, 0, none⟩) n gc := by rw [e3, put_ne _ _ _ _ (by decide)]; exact t4
  replace t6 : a3.tmps.getD 6 undef = .pointer (some ⟨ob, 0, none⟩) := by rw [e3, put_ne _ _ _ _ (by decide)]; exact t6
  replace t7 : a3.tmps.getD 7 undef = .int .i64 (i : Int) := by rw [e3, put_ne _ _ _ _ (by decide)]; exact t7
  clear t38
  clear t39
  have t40 : a3.tmps.getD 40 undef = .pointer (some ⟨fb, i, none⟩) := by rw [e3]; exact put_same _ _ _ (by omega)
  clear e3 z2
  refine wpAnyH_take (i := 3) (oi := { dst := some 41, op := Op.load 23 (Operand.tmp 40), type := 23, pos := "law.go:82", after := #[{ on := 2, ground := Ground.data }], guard := none }) (v := .pointer px) rfl (by kernel_rfl) (by kernel_rfl) (by kernel_rfl) (fun _ _ _ h => h) (Or.inl ⟨by rfl, fun w1 hw => by have c := L1 _ hw; go_simp⟩) hHeld ?_
  change wpAnyH _ _ _ _ _ _ _ (a3.put (some 41) (.pointer px)) _
  obtain ⟨a4, e4⟩ : ∃ act, act = a3.put (some 41) (.pointer px) := ⟨_, rfl⟩
  rw [← e4] at h ⊢
  have z4 : a4.tmps.size = 222 := by rw [e4, put_size]; exact z3
  replace t3 : a4.tmps.getD 3 undef = .slice (some ⟨fb, 0, none⟩) n fc := by rw [e4, put_ne _ _ _ _ (by decide)]; exact t3
  replace t4 : a4.tmps.getD 4 undef = .slice (some ⟨gb, 0, none⟩) n gc := by rw [e4, put_ne _ _ _ _ (by decide)]; exact t4
  replace t6 : a4.tmps.getD 6 undef = .pointer (some ⟨ob, 0, none⟩) := by rw [e4, put_ne _ _ _ _ (by decide)]; exact t6
  replace t7 : a4.tmps.getD 7 undef = .int .i64 (i : Int) := by rw [e4, put_ne _ _ _ _ (by decide)]; exact t7
  clear t40
  have t41 : a4.tmps.getD 41 undef = .pointer px := by rw [e4]; exact put_same _ _ _ (by omega)
  clear e4 z3
  refine wpAnyH_take (i := 4) (oi := { dst := some 42, op := Op.fieldAddr 33 (Operand.tmp 6) 3, type := 0, pos := "law.go:82", after := #[], guard := none }) (v := .pointer (some ⟨ob, 3, none⟩)) rfl (by kernel_rfl) (by kernel_rfl) (by kernel_rfl) (fun _ _ _ h => h) (Or.inl ⟨by rfl, fun w1 hw => by go_simp⟩) hHeld ?_
  change wpAnyH _ _ _ _ _ _ _ (a4.put (some 42) (.pointer (some ⟨ob, 3, none⟩))) _
  obtain ⟨a5, e5⟩ : ∃ act, act = a4.put (some 42) (.pointer (some ⟨ob, 3, none⟩)) := ⟨_, rfl⟩
  rw [← e5] at h ⊢
  have z5 : a5.tmps.size = 222 := by rw [e5, put_size]; exact z4
  replace t3 : a5.tmps.getD 3 undef = .slice (some ⟨fb, 0, none⟩) n fc := by rw [e5, put_ne _ _ _ _ (by decide)]; exact t3
  replace t4 : a5.tmps.getD 4 undef = .slice (some ⟨gb, 0, none⟩) n gc := by rw [e5, put_ne _ _ _ _ (by decide)]; exact t4
  replace t6 : a5.tmps.getD 6 undef = .pointer (some ⟨ob, 0, none⟩) := by rw [e5, put_ne _ _ _ _ (by decide)]; exact t6
  replace t7 : a5.tmps.getD 7 undef = .int .i64 (i : Int) := by rw [e5, put_ne _ _ _ _ (by decide)]; exact t7
  replace t41 : a5.tmps.getD 41 undef = .pointer px := by rw [e5, put_ne _ _ _ _ (by decide)]; exact t41
  have t42 : a5.tmps.getD 42 undef = .pointer (some ⟨ob, 3, none⟩) := by rw [e5]; exact put_same _ _ _ (by omega)
  clear e5 z4
  refine wpAnyH_take (i := 5) (oi := { dst := some 43, op := Op.load 30 (Operand.tmp 42), type := 30, pos := "law.go:82", after := #[{ on := 4, ground := Ground.data }], guard := none }) (v := .agg (bs hh)) rfl (by kernel_rfl) (by kernel_rfl) (by kernel_rfl) (fun _ _ _ h => h) (Or.inl ⟨by rfl, fun w1 hw => exec_load rfl t42 (HLD _ hw)⟩) hHeld ?_
  change wpAnyH _ _ _ _ _ _ _ (a5.put (some 43) (.agg (bs hh))) _
  obtain ⟨a6, e6⟩ : ∃ act, act = a5.put (some 43) (.agg (bs hh)) := ⟨_, rfl⟩
  rw [← e6] at h ⊢
  have z6 : a6.tmps.size = 222 := by rw [e6, put_size]; exact z5
  replace t3 : a6.tmps.getD 3 undef = .slice (some ⟨fb, 0, none⟩) n fc := by rw [e6, put_ne _ _ _ _ (by decide)]; exact t3
  replace t4 : a6.tmps.getD 4 undef = .slice (some ⟨gb, 0, none⟩) n gc := by rw [e6, put_ne _ _ _ _ (by decide)]; exact t4
  replace t6 : a6.tmps.getD 6 undef = .pointer (some ⟨ob, 0, none⟩) := by rw [e6, put_ne _ _ _ _ (by decide)]; exact t6
  replace t7 : a6.tmps.getD 7 undef = .int .i64 (i : Int) := by rw [e6, put_ne _ _ _ _ (by decide)]; exact t7
  replace t41 : a6.tmps.getD 41 undef = .pointer px := by rw [e6, put_ne _ _ _ _ (by decide)]; exact t41
  clear t42
  have t43 : a6.tmps.getD 43 undef = .agg (bs hh) := by rw [e6]; exact put_same _ _ _ (by omega)
  clear e6 z5
  refine wpAnyH_take (i := 7) (oi := { dst := some 45, op := Op.move (Operand.tmp 4), type := 28, pos := "law.go:82", after := #[], guard := none }) (v := .slice (some ⟨gb, 0, none⟩) n gc) rfl (by kernel_rfl) (by kernel_rfl) (by kernel_rfl) (fun _ _ _ h => h) (Or.inl ⟨by rfl, fun w1 hw => by go_simp⟩) hHeld ?_
  change wpAnyH _ _ _ _ _ _ _ (a6.put (some 45) (.slice (some ⟨gb, 0, none⟩) n gc)) _
  obtain ⟨a7, e7⟩ : ∃ act, act = a6.put (some 45) (.slice (some ⟨gb, 0, none⟩) n gc) := ⟨_, rfl⟩
  rw [← e7] at h ⊢
  have z7 : a7.tmps.size = 222 := by rw [e7, put_size]; exact z6
  replace t3 : a7.tmps.getD 3 undef = .slice (some ⟨fb, 0, none⟩) n fc := by rw [e7, put_ne _ _ _ _ (by decide)]; exact t3
  replace t4 : a7.tmps.getD 4 undef = .slice (some ⟨gb, 0, none⟩) n gc := by rw [e7, put_ne _ _ _ _ (by decide)]; exact t4
  replace t6 : a7.tmps.getD 6 undef = .pointer (some ⟨ob, 0, none⟩) := by rw [e7, put_ne _ _ _ _ (by decide)]; exact t6
  replace t7 : a7.tmps.getD 7 undef = .int .i64 (i : Int) := by rw [e7, put_ne _ _ _ _ (by decide)]; exact t7
  replace t41 : a7.tmps.getD 41 undef = .pointer px := by rw [e7, put_ne _ _ _ _ (by decide)]; exact t41
  replace t43 : a7.tmps.getD 43 undef = .agg (bs hh) := by rw [e7, put_ne _ _ _ _ (by decide)]; exact t43
  have t45 : a7.tmps.getD 45 undef = .slice (some ⟨gb, 0, none⟩) n gc := by rw [e7]; exact put_same _ _ _ (by omega)
  clear e7 z6
  refine wpAnyH_take (i := 8) (oi := { dst := some 46, op := Op.move (Operand.tmp 7), type := 3, pos := "law.go:82", after := #[], guard := none }) (v := .int .i64 (i : Int)) rfl (by kernel_rfl) (by kernel_rfl) (by kernel_rfl) (fun _ _ _ h => h) (Or.inl ⟨by rfl, fun w1 hw => by go_simp⟩) hHeld ?_
  change wpAnyH _ _ _ _ _ _ _ (a7.put (some 46) (.int .i64 (i : Int))) _
  obtain ⟨a8, e8⟩ : ∃ act, act = a7.put (some 46) (.int .i64 (i : Int)) := ⟨_, rfl⟩
  rw [← e8] at h ⊢
  have z8 : a8.tmps.size = 222 := by rw [e8, put_size]; exact z7
  replace t3 : a8.tmps.getD 3 undef = .slice (some ⟨fb, 0, none⟩) n fc := by rw [e8, put_ne _ _ _ _ (by decide)]; exact t3
  replace t4 : a8.tmps.getD 4 undef = .slice (some ⟨gb, 0, none⟩) n gc := by rw [e8, put_ne _ _ _ _ (by decide)]; exact t4
  replace t6 : a8.tmps.getD 6 undef = .pointer (some ⟨ob, 0, none⟩) := by rw [e8, put_ne _ _ _ _ (by decide)]; exact t6
  replace t7 : a8.tmps.getD 7 undef = .int .i64 (i : Int) := by rw [e8, put_ne _ _ _ _ (by decide)]; exact t7
  replace t41 : a8.tmps.getD 41 undef = .pointer px := by rw [e8, put_ne _ _ _ _ (by decide)]; exact t41
  replace t43 : a8.tmps.getD 43 undef = .agg (bs hh) := by rw [e8, put_ne _ _ _ _ (by decide)]; exact t43
  replace t45 : a8.tmps.getD 45 undef = .slice (some ⟨gb, 0, none⟩) n gc := by rw [e8, put_ne _ _ _ _ (by decide)]; exact t45
  have t46 : a8.tmps.getD 46 undef = .int .i64 (i : Int) := by rw [e8]; exact put_same _ _ _ (by omega)
  clear e8 z7
  refine wpAnyH_take (i := 9) (oi := { dst := some 47, op := Op.indexAddr 28 (Operand.tmp 45) (Operand.tmp 46), type := 0, pos := "law.go:82", after := #[{ on := 7, ground := Ground.data }, { on := 8, ground := Ground.data }], guard := none }) (v := .pointer (some ⟨gb, i, none⟩)) rfl (by kernel_rfl) (by kernel_rfl) (by kernel_rfl) (fun _ _ _ h => h) (Or.inl ⟨by rfl, fun w1 hw => by go_simp⟩) hHeld ?_
  change wpAnyH _ _ _ _ _ _ _ (a8.put (some 47) (.pointer (some ⟨gb, i, none⟩))) _
  obtain ⟨a9, e9⟩ : ∃ act, act = a8.put (some 47) (.pointer (some ⟨gb, i, none⟩)) := ⟨_, rfl⟩
  rw [← e9] at h ⊢
  have z9 : a9.tmps.size = 222 := by rw [e9, put_size]; exact z8
  replace t3 : a9.tmps.getD 3 undef = .slice (some ⟨fb, 0, none⟩) n fc := by rw [e9, put_ne _ _ _ _ (by decide)]; exact t3
  replace t4 : a9.tmps.getD 4 undef = .slice (some ⟨gb, 0, none⟩) n gc := by rw [e9, put_ne _ _ _ _ (by decide)]; exact t4
  replace t6 : a9.tmps.getD 6 undef = .pointer (some ⟨ob, 0, none⟩) := by rw [e9, put_ne _ _ _ _ (by decide)]; exact t6
  replace t7 : a9.tmps.getD 7 undef = .int .i64 (i : Int) := by rw [e9, put_ne _ _ _ _ (by decide)]; exact t7
  replace t41 : a9.tmps.getD 41 undef = .pointer px := by rw [e9, put_ne _ _ _ _ (by decide)]; exact t41
  replace t43 : a9.tmps.getD 43 undef = .agg (bs hh) := by rw [e9, put_ne _ _ _ _ (by decide)]; exact t43
  clear t45
  clear t46
  have t47 : a9.tmps.getD 47 undef = .pointer (some ⟨gb, i, none⟩) := by rw [e9]; exact put_same _ _ _ (by omega)
  clear e9 z8
  refine wpAnyH_take (i := 10) (oi := { dst := some 48, op := Op.load 26 (Operand.tmp 47), type := 26, pos := "law.go:82", after := #[{ on := 9, ground := Ground.data }], guard := none }) (v := .pointer py) rfl (by kernel_rfl) (by kernel_rfl) (by kernel_rfl) (fun _ _ _ h => h) (Or.inl ⟨by rfl, fun w1 hw => by have c := L2 _ hw; go_simp⟩) hHeld ?_
  change wpAnyH _ _ _ _ _ _ _ (a9.put (some 48) (.pointer py)) _
  obtain ⟨a10, e10⟩ : ∃ act, act = a9.put (some 48) (.pointer py) := ⟨_, rfl⟩
  rw [← e10] at h ⊢
  have z10 : a10.tmps.size = 222 := by rw [e10, put_size]; exact z9
  replace t3 : a10.tmps.getD 3 undef = .slice (some ⟨fb, 0, none⟩) n fc := by rw [e10, put_ne _ _ _ _ (by decide)]; exact t3
  replace t4 : a10.tmps.getD 4 undef = .slice (some ⟨gb, 0, none⟩) n gc := by rw [e10, put_ne _ _ _ _ (by decide)]; exact t4
  replace t6 : a10.tmps.getD 6 undef = .pointer (some ⟨ob, 0, none⟩) := by rw [e10, put_ne _ _ _ _ (by decide)]; exact t6
  replace t7 : a10.tmps.getD 7 undef = .int .i64 (i : Int) := by rw [e10, put_ne _ _ _ _ (by decide)]; exact t7
  replace t41 : a10.tmps.getD 41 undef = .pointer px := by rw [e10, put_ne _ _ _ _ (by decide)]; exact t41
  replace t43 : a10.tmps.getD 43 undef = .agg (bs hh) := by rw [e10, put_ne _ _ _ _ (by decide)]; exact t43
  clear t47
  have t48 : a10.tmps.getD 48 undef = .pointer py := by rw [e10]; exact put_same _ _ _ (by omega)
  clear e10 z9
  refine wpAnyH_take (i := 11) (oi := { dst := some 49, op := Op.fieldAddr 33 (Operand.tmp 6) 3, type := 0, pos := "law.go:82", after := #[], guard := none }) (v := .pointer (some ⟨ob, 3, none⟩)) rfl (by kernel_rfl) (by kernel_rfl) (by kernel_rfl) (fun _ _ _ h => h) (Or.inl ⟨by rfl, fun w1 hw => by go_simp⟩) hHeld ?_
  change wpAnyH _ _ _ _ _ _ _ (a10.put (some 49) (.pointer (some ⟨ob, 3, none⟩))) _
  obtain ⟨a11, e11⟩ : ∃ act, act = a10.put (some 49) (.pointer (some ⟨ob, 3, none⟩)) := ⟨_, rfl⟩
  rw [← e11] at h ⊢
  have z11 : a11.tmps.size = 222 := by rw [e11, put_size]; exact z10
  replace t3 : a11.tmps.getD 3 undef = .slice (some ⟨fb, 0, none⟩) n fc := by rw [e11, put_ne _ _ _ _ (by decide)]; exact t3
  replace t4 : a11.tmps.getD 4 undef = .slice (some ⟨gb, 0, none⟩) n gc := by rw [e11, put_ne _ _ _ _ (by decide)]; exact t4
  replace t6 : a11.tmps.getD 6 undef = .pointer (some ⟨ob, 0, none⟩) := by rw [e11, put_ne _ _ _ _ (by decide)]; exact t6
  replace t7 : a11.tmps.getD 7 undef = .int .i64 (i : Int) := by rw [e11, put_ne _ _ _ _ (by decide)]; exact t7
  replace t41 : a11.tmps.getD 41 undef = .pointer px := by rw [e11, put_ne _ _ _ _ (by decide)]; exact t41
  replace t43 : a11.tmps.getD 43 undef = .agg (bs hh) := by rw [e11, put_ne _ _ _ _ (by decide)]; exact t43
  replace t48 : a11.tmps.getD 48 undef = .pointer py := by rw [e11, put_ne _ _ _ _ (by decide)]; exact t48
  have t49 : a11.tmps.getD 49 undef = .pointer (some ⟨ob, 3, none⟩) := by rw [e11]; exact put_same _ _ _ (by omega)
  clear e11 z10
  refine wpAnyH_take (i := 12) (oi := { dst := some 50, op := Op.load 30 (Operand.tmp 49), type := 30, pos := "law.go:82", after := #[{ on := 11, ground := Ground.data }], guard := none }) (v := .agg (bs hh)) rfl (by kernel_rfl) (by kernel_rfl) (by kernel_rfl) (fun _ _ _ h => h) (Or.inl ⟨by rfl, fun w1 hw => exec_load rfl t49 (HLD _ hw)⟩) hHeld ?_
  change wpAnyH _ _ _ _ _ _ _ (a11.put (some 50) (.agg (bs hh))) _
  obtain ⟨a12, e12⟩ : ∃ act, act = a11.put (some 50) (.agg (bs hh)) := ⟨_, rfl⟩
  rw [← e12] at h ⊢
  have z12 : a12.tmps.size = 222 := by rw [e12, put_size]; exact z11
  replace t3 : a12.tmps.getD 3 undef = .slice (some ⟨fb, 0, none⟩) n fc := by rw [e12, put_ne _ _ _ _ (by decide)]; exact t3
  replace t4 : a12.tmps.getD 4 undef = .slice (some ⟨gb, 0, none⟩) n gc := by rw [e12, put_ne _ _ _ _ (by decide)]; exact t4
  replace t6 : a12.tmps.getD 6 undef = .pointer (some ⟨ob, 0, none⟩) := by rw [e12, put_ne _ _ _ _ (by decide)]; exact t6
  replace t7 : a12.tmps.getD 7 undef = .int .i64 (i : Int) := by rw [e12, put_ne _ _ _ _ (by decide)]; exact t7
  replace t41 : a12.tmps.getD 41 undef = .pointer px := by rw [e12, put_ne _ _ _ _ (by decide)]; exact t41
  replace t43 : a12.tmps.getD 43 undef = .agg (bs hh) := by rw [e12, put_ne _ _ _ _ (by decide)]; exact t43
  replace t48 : a12.tmps.getD 48 undef = .pointer py := by rw [e12, put_ne _ _ _ _ (by decide)]; exact t48
  clear t49
  have t50 : a12.tmps.getD 50 undef = .agg (bs hh) := by rw [e12]; exact put_same _ _ _ (by omega)
  clear e12 z11
  refine wpAnyH_ready (rs := [6]) (by kernel_rfl) (by simp) ?_
  refine AllReadyH.cons (o := { dst := some 44, op := Op.call { callee := Callee.value (Operand.func 22), args := #[Operand.tmp 41, Operand.tmp 43], argTypes := #[23, 30] }, type := 4, pos := "law.go:82", after := #[{ on := 3, ground := Ground.data }, { on := 5, ground := Ground.data }], guard := none }) rfl (fun K hK => ?_) AllReadyH.nil
  rw [if_pos (by rfl)]
  go_simp
  refine (C22 _ hHeld).mono ?_
  rintro e x13 ⟨rfl, l1⟩
  try go_wp2_with fail
  skip
  refine hK.out _ _ (hHeld.trans (l1.mono (hN _ hHeld))) (fun hHeld => ?_)
  clear hK K
  change wpAnyH _ _ _ _ _ _ _ (a12.put (some 44) (.bool z)) _
  obtain ⟨a13, e13⟩ : ∃ act, act = a12.put (some 44) (.bool z) := ⟨_, rfl⟩
  rw [← e13] at h ⊢
  have z13 : a13.tmps.size = 222 := by rw [e13, put_size]; exact z12
  replace t3 : a13.tmps.getD 3 undef = .slice (some ⟨fb, 0, none⟩) n fc := by rw [e13, put_ne _ _ _ _ (by decide)]; exact t3
  replace t4 : a13.tmps.getD 4 undef = .slice (some ⟨gb, 0, none⟩) n gc := by rw [e13, put_ne _ _ _ _ (by decide)]; exact t4
  replace t6 : a13.tmps.getD 6 undef = .pointer (some ⟨ob, 0, none⟩) := by rw [e13, put_ne _ _ _ _ (by decide)]; exact t6
  replace t7 : a13.tmps.getD 7 undef = .int .i64 (i : Int) := by rw [e13, put_ne _ _ _ _ (by decide)]; exact t7
  clear t41
  clear t43
  replace t48 : a13.tmps.getD 48 undef = .pointer py := by rw [e13, put_ne _ _ _ _ (by decide)]; exact t48
  replace t50 : a13.tmps.getD 50 undef = .agg (bs hh) := by rw [e13, put_ne _ _ _ _ (by decide)]; exact t50
  have t44 : a13.tmps.getD 44 undef = .bool z := by rw [e13]; exact put_same _ _ _ (by omega)
  clear e13 z12
  refine wpAnyH_ready (rs := [13]) (by kernel_rfl) (by simp) ?_
  refine AllReadyH.cons (o := { dst := some 51, op := Op.call { callee := Callee.value (Operand.func 23), args := #[Operand.tmp 48, Operand.tmp 50], argTypes := #[26, 30] }, type := 4, pos := "law.go:82", after := #[{ on := 10, ground := Ground.data }, { on := 12, ground := Ground.data }, { on := 6, ground := Ground.chain }], guard := none }) rfl (fun K hK => ?_) AllReadyH.nil
  rw [if_pos (by rfl)]
  go_simp
  refine (C23 _ hHeld).mono ?_
  rintro e x14 ⟨rfl, l2⟩
  try go_wp2_with fail
  skip
  refine hK.out _ _ (hHeld.trans (l2.mono (hN _ hHeld))) (fun hHeld => ?_)
  clear hK K
  change wpAnyH _ _ _ _ _ _ _ (a13.put (some 51) (.bool z)) _
  obtain ⟨a14, e14⟩ : ∃ act, act = a13.put (some 51) (.bool z) := ⟨_, rfl⟩
  rw [← e14] at h ⊢
  have z14 : a14.tmps.size = 222 := by rw [e14, put_size]; exact z13
  replace t3 : a14.tmps.getD 3 undef = .slice (some ⟨fb, 0, none⟩) n fc := by rw [e14, put_ne _ _ _ _ (by decide)]; exact t3
  replace t4 : a14.tmps.getD 4 undef = .slice (some ⟨gb, 0, none⟩) n gc := by rw [e14, put_ne _ _ _ _ (by decide)]; exact t4
  replace t6 : a14.tmps.getD 6 undef = .pointer (some ⟨ob, 0, none⟩) := by rw [e14, put_ne _ _ _ _ (by decide)]; exact t6
  replace t7 : a14.tmps.getD 7 undef = .int .i64 (i : Int) := by rw [e14, put_ne _ _ _ _ (by decide)]; exact t7
  clear t48
  clear t50
  replace t44 : a14.tmps.getD 44 undef = .bool z := by rw [e14, put_ne _ _ _ _ (by decide)]; exact t44
  have t51 : a14.tmps.getD 51 undef = .bool z := by rw [e14]; exact put_same _ _ _ (by omega)
  clear e14 z13
  refine wpAnyH_take (i := 14) (oi := { dst := some 52, op := Op.binOp BinOp.eql 4 (Operand.tmp 44) (Operand.tmp 51) 4, type := 4, pos := "law.go:82", after := #[{ on := 6, ground := Ground.data }, { on := 13, ground := Ground.data }], guard := none }) (v := .bool true) rfl (by kernel_rfl) (by kernel_rfl) (by kernel_rfl) (fun _ _ _ h => h) (Or.inl ⟨by rfl, fun w1 hw => by cases z <;> go_simp⟩) hHeld ?_
  change wpAnyH _ _ _ _ _ _ _ (a14.put (some 52) (.bool true)) _
  obtain ⟨a15, e15⟩ : ∃ act, act = a14.put (some 52) (.bool true) := ⟨_, rfl⟩
  rw [← e15] at h ⊢
  have z15 : a15.tmps.size = 222 := by rw [e15, put_size]; exact z14
  replace t3 : a15.tmps.getD 3 undef = .slice (some ⟨fb, 0, none⟩) n fc := by rw [e15, put_ne _ _ _ _ (by decide)]; exact t3
  replace t4 : a15.tmps.getD 4 undef = .slice (some ⟨gb, 0, none⟩) n gc := by rw [e15, put_ne _ _ _ _ (by decide)]; exact t4
  replace t6 : a15.tmps.getD 6 undef = .pointer (some ⟨ob, 0, none⟩) := by rw [e15, put_ne _ _ _ _ (by decide)]; exact t6
  replace t7 : a15.tmps.getD 7 undef = .int .i64 (i : Int) := by rw [e15, put_ne _ _ _ _ (by decide)]; exact t7
  clear t44
  clear t51
  have t52 : a15.tmps.getD 52 undef = .bool true := by rw [e15]; exact put_same _ _ _ (by omega)
  clear e15 z14
  refine wpAnyH_take (i := 15) (oi := { dst := some 53, op := Op.move (Operand.tmp 52), type := 4, pos := "law.go:82", after := #[{ on := 14, ground := Ground.data }, { on := 13, ground := Ground.chain }], guard := none }) (v := .bool true) rfl (by kernel_rfl) (by kernel_rfl) (by kernel_rfl) (fun _ _ _ h => h) (Or.inl ⟨by rfl, fun w1 hw => by go_simp⟩) hHeld ?_
  change wpAnyH _ _ _ _ _ _ _ (a15.put (some 53) (.bool true)) _
  obtain ⟨a16, e16⟩ : ∃ act, act = a15.put (some 53) (.bool true) := ⟨_, rfl⟩
  rw [← e16] at h ⊢
  have z16 : a16.tmps.size = 222 := by rw [e16, put_size]; exact z15
  replace t3 : a16.tmps.getD 3 undef = .slice (some ⟨fb, 0, none⟩) n fc := by rw [e16, put_ne _ _ _ _ (by decide)]; exact t3
  replace t4 : a16.tmps.getD 4 undef = .slice (some ⟨gb, 0, none⟩) n gc := by rw [e16, put_ne _ _ _ _ (by decide)]; exact t4
  replace t6 : a16.tmps.getD 6 undef = .pointer (some ⟨ob, 0, none⟩) := by rw [e16, put_ne _ _ _ _ (by decide)]; exact t6
  replace t7 : a16.tmps.getD 7 undef = .int .i64 (i : Int) := by rw [e16, put_ne _ _ _ _ (by decide)]; exact t7
  clear t52
  have t53 : a16.tmps.getD 53 undef = .bool true := by rw [e16]; exact put_same _ _ _ (by omega)
  clear e16 z15
  refine wpAnyH_take (i := 16) (oi := { dst := some 54, op := Op.move (Operand.tmp 3), type := 25, pos := "law.go:82", after := #[{ on := 15, ground := Ground.guard }], guard := some (15, true) }) (v := .slice (some ⟨fb, 0, none⟩) n fc) rfl (by kernel_rfl) (by kernel_rfl) (by kernel_rfl) (fun _ _ _ h => h) (Or.inl ⟨by simp [Region.wanted, yielded, plays11_ops, tget z16 (by decide) t53], fun w1 hw => by go_simp⟩) hHeld ?_
  change wpAnyH _ _ _ _ _ _ _ (a16.put (some 54) (.slice (some ⟨fb, 0, none⟩) n fc)) _
  obtain ⟨a17, e17⟩ : ∃ act, act = a16.put (some 54) (.slice (some ⟨fb, 0, none⟩) n fc) := ⟨_, rfl⟩
  rw [← e17] at h ⊢
  have z17 : a17.tmps.size = 222 := by rw [e17, put_size]; exact z16
  clear t3
  replace t4 : a17.tmps.getD 4 undef = .slice (some ⟨gb, 0, none⟩) n gc := by rw [e17, put_ne _ _ _ _ (by decide)]; exact t4
  replace t6 : a17.tmps.getD 6 undef = .pointer (some ⟨ob, 0, none⟩) := by rw [e17, put_ne _ _ _ _ (by decide)]; exact t6
  replace t7 : a17.tmps.getD 7 undef = .int .i64 (i : Int) := by rw [e17, put_ne _ _ _ _ (by decide)]; exact t7
  replace t53 : a17.tmps.getD 53 undef = .bool true := by rw [e17, put_ne _ _ _ _ (by decide)]; exact t53
  have t54 : a17.tmps.getD 54 undef = .slice (some ⟨fb, 0, none⟩) n fc := by rw [e17]; exact put_same _ _ _ (by omega)
  clear e17 z16
  refine wpAnyH_take (i := 17) (oi := { dst := some 55, op := Op.move (Operand.tmp 7), type := 3, pos := "law.go:82", after := #[{ on := 15, ground := Ground.guard }], guard := some (15, true) }) (v := .int .i64 (i : Int)) rfl (by kernel_rfl) (by kernel_rfl) (by kernel_rfl) (fun _ _ _ h => h) (Or.inl ⟨by simp [Region.wanted, yielded, plays11_ops, tget z17 (by decide) t53], fun w1 hw => by go_simp⟩) hHeld ?_
  change wpAnyH _ _ _ _ _ _ _ (a17.put (some 55) (.int .i64 (i : Int))) _
  obtain ⟨a18, e18⟩ : ∃ act, act = a17.put (some 55) (.int .i64 (i : Int)) := ⟨_, rfl⟩
  rw [← e18] at h ⊢
  have z18 : a18.tmps.size = 222 := by rw [e18, put_size]; exact z17
  replace t4 : a18.tmps.getD 4 undef = .slice (some ⟨gb, 0, none⟩) n gc := by rw [e18, put_ne _ _ _ _ (by decide)]; exact t4
  replace t6 : a18.tmps.getD 6 undef = .pointer (some ⟨ob, 0, none⟩) := by rw [e18, put_ne _ _ _ _ (by decide)]; exact t6
  replace t7 : a18.tmps.getD 7 undef = .int .i64 (i : Int) := by rw [e18, put_ne _ _ _ _ (by decide)]; exact t7
  replace t53 : a18.tmps.getD 53 undef = .bool true := by rw [e18, put_ne _ _ _ _ (by decide)]; exact t53
  replace t54 : a18.tmps.getD 54 undef = .slice (some ⟨fb, 0, none⟩) n fc := by rw [e18, put_ne _ _ _ _ (by decide)]; exact t54
  have t55 : a18.tmps.getD 55 undef = .int .i64 (i : Int) := by rw [e18]; exact put_same _ _ _ (by omega)
  clear e18 z17
  refine wpAnyH_take (i := 18) (oi := { dst := some 56, op := Op.indexAddr 25 (Operand.tmp 54) (Operand.tmp 55), type := 0, pos := "law.go:82", after := #[{ on := 16, ground := Ground.data }, { on := 17, ground := Ground.data }, { on := 15, ground := Ground.guard }], guard := some (15, true) }) (v := .pointer (some ⟨fb, i, none⟩)) rfl (by kernel_rfl) (by kernel_rfl) (by kernel_rfl) (fun _ _ _ h => h) (Or.inl ⟨by simp [Region.wanted, yielded, plays11_ops, tget z18 (by decide) t53], fun w1 hw => by go_simp⟩) hHeld ?_
  change wpAnyH _ _ _ _ _ _ _ (a18.put (some 56) (.pointer (some ⟨fb, i, none⟩))) _
  obtain ⟨a19, e19⟩ : ∃ act, act = a18.put (some 56) (.pointer (some ⟨fb, i, none⟩)) := ⟨_, rfl⟩
  rw [← e19] at h ⊢
  have z19 : a19.tmps.size = 222 := by rw [e19, put_size]; exact z18
  replace t4 : a19.tmps.getD 4 undef = .slice (some ⟨gb, 0, none⟩) n gc := by rw [e19, put_ne _ _ _ _ (by decide)]; exact t4
  replace t6 : a19.tmps.getD 6 undef = .pointer (some ⟨ob, 0, none⟩) := by rw [e19, put_ne _ _ _ _ (by decide)]; exact t6
  replace t7 : a19.tmps.getD 7 undef = .int .i64 (i : Int) := by rw [e19, put_ne _ _ _ _ (by decide)]; exact t7
  replace t53 : a19.tmps.getD 53 undef = .bool true := by rw [e19, put_ne _ _ _ _ (by decide)]; exact t53
  clear t54
  clear t55
  have t56 : a19.tmps.getD 56 undef = .pointer (some ⟨fb, i, none⟩) := by rw [e19]; exact put_same _ _ _ (by omega)
  clear e19 z18
  refine wpAnyH_take (i := 19) (oi := { dst := some 57, op := Op.load 23 (Operand.tmp 56), type := 23, pos := "law.go:82", after := #[{ on := 18, ground := Ground.data }, { on := 15, ground := Ground.guard }], guard := some (15, true) }) (v := .pointer px) rfl (by kernel_rfl) (by kernel_rfl) (by kernel_rfl) (fun _ _ _ h => h) (Or.inl ⟨by simp [Region.wanted, yielded, plays11_ops, tget z19 (by decide) t53], fun w1 hw => by have c := L1 _ hw; go_simp⟩) hHeld ?_
  change wpAnyH _ _ _ _ _ _ _ (a19.put (some 57) (.pointer px)) _
  obtain ⟨a20, e20⟩ : ∃ act, act = a19.put (some 57) (.pointer px) := ⟨_, rfl⟩
  rw [← e20] at h ⊢
  have z20 : a20.tmps.size = 222 := by rw [e20, put_size]; exact z19
  replace t4 : a20.tmps.getD 4 undef = .slice (some ⟨gb, 0, none⟩) n gc := by rw [e20, put_ne _ _ _ _ (by decide)]; exact t4
  replace t6 : a20.tmps.getD 6 undef = .pointer (some ⟨ob, 0, none⟩) := by rw [e20, put_ne _ _ _ _ (by decide)]; exact t6
  replace t7 : a20.tmps.getD 7 undef = .int .i64 (i : Int) := by rw [e20, put_ne _ _ _ _ (by decide)]; exact t7
  replace t53 : a20.tmps.getD 53 undef = .bool true := by rw [e20, put_ne _ _ _ _ (by decide)]; exact t53
  clear t56
  have t57 : a20.tmps.getD 57 undef = .pointer px := by rw [e20]; exact put_same _ _ _ (by omega)
  clear e20 z19
  refine wpAnyH_take (i := 20) (oi := { dst := some 58, op := Op.fieldAddr 33 (Operand.tmp 6) 3, type := 0, pos := "law.go:82", after := #[{ on := 15, ground := Ground.guard }], guard := some (15, true) }) (v := .pointer (some ⟨ob, 3, none⟩)) rfl (by kernel_rfl) (by kernel_rfl) (by kernel_rfl) (fun _ _ _ h => h) (Or.inl ⟨by simp [Region.wanted, yielded, plays11_ops, tget z20 (by decide) t53], fun w1 hw => by go_simp⟩) hHeld ?_
  change wpAnyH _ _ _ _ _ _ _ (a20.put (some 58) (.pointer (some ⟨ob, 3, none⟩))) _
  obtain ⟨a21, e21⟩ : ∃ act, act = a20.put (some 58) (.pointer (some ⟨ob, 3, none⟩)) := ⟨_, rfl⟩
  rw [← e21] at h ⊢
  have z21 : a21.tmps.size = 222 := by rw [e21, put_size]; exact z20
  replace t4 : a21.tmps.getD 4 undef = .slice (some ⟨gb, 0, none⟩) n gc := by rw [e21, put_ne _ _ _ _ (by decide)]; exact t4
  replace t6 : a21.tmps.getD 6 undef = .pointer (some ⟨ob, 0, none⟩) := by rw [e21, put_ne _ _ _ _ (by decide)]; exact t6
  replace t7 : a21.tmps.getD 7 undef = .int .i64 (i : Int) := by rw [e21, put_ne _ _ _ _ (by decide)]; exact t7
  replace t53 : a21.tmps.getD 53 undef = .bool true := by rw [e21, put_ne _ _ _ _ (by decide)]; exact t53
  replace t57 : a21.tmps.getD 57 undef = .pointer px := by rw [e21, put_ne _ _ _ _ (by decide)]; exact t57
  have t58 : a21.tmps.getD 58 undef = .pointer (some ⟨ob, 3, none⟩) := by rw [e21]; exact put_same _ _ _ (by omega)
  clear e21 z20
  refine wpAnyH_take (i := 21) (oi := { dst := some 59, op := Op.load 30 (Operand.tmp 58), type := 30, pos := "law.go:82", after := #[{ on := 20, ground := Ground.data }, { on := 15, ground := Ground.guard }], guard := some (15, true) }) (v := .agg (bs hh)) rfl (by kernel_rfl) (by kernel_rfl) (by kernel_rfl) (fun _ _ _ h => h) (Or.inl ⟨by simp [Region.wanted, yielded, plays11_ops, tget z21 (by decide) t53], fun w1 hw => exec_load rfl t58 (HLD _ hw)⟩) hHeld ?_
  change wpAnyH _ _ _ _ _ _ _ (a21.put (some 59) (.agg (bs hh))) _
  obtain ⟨a22, e22⟩ : ∃ act, act = a21.put (some 59) (.agg (bs hh)) := ⟨_, rfl⟩
  rw [← e22] at h ⊢
  have z22 : a22.tmps.size = 222 := by rw [e22, put_size]; exact z21
  replace t4 : a22.tmps.getD 4 undef = .slice (some ⟨gb, 0, none⟩) n gc := by rw [e22, put_ne _ _ _ _ (by decide)]; exact t4
  replace t6 : a22.tmps.getD 6 undef = .pointer (some ⟨ob, 0, none⟩) := by rw [e22, put_ne _ _ _ _ (by decide)]; exact t6
  replace t7 : a22.tmps.getD 7 undef = .int .i64 (i : Int) := by rw [e22, put_ne _ _ _ _ (by decide)]; exact t7
  replace t53 : a22.tmps.getD 53 undef = .bool true := by rw [e22, put_ne _ _ _ _ (by decide)]; exact t53
  replace t57 : a22.tmps.getD 57 undef = .pointer px := by rw [e22, put_ne _ _ _ _ (by decide)]; exact t57
  clear t58
  have t59 : a22.tmps.getD 59 undef = .agg (bs hh) := by rw [e22]; exact put_same _ _ _ (by omega)
  clear e22 z21
  refine wpAnyH_take (i := 23) (oi := { dst := some 61, op := Op.move (Operand.tmp 4), type := 28, pos := "law.go:82", after := #[{ on := 15, ground := Ground.guard }], guard := some (15, true) }) (v := .slice (some ⟨gb, 0, none⟩) n gc) rfl (by kernel_rfl) (by kernel_rfl) (by kernel_rfl) (fun _ _ _ h => h) (Or.inl ⟨by simp [Region.wanted, yielded, plays11_ops, tget z22 (by decide) t53], fun w1 hw => by go_simp⟩) hHeld ?_
  change wpAnyH _ _ _ _ _ _ _ (a22.put (some 61) (.slice (some ⟨gb, 0, none⟩) n gc)) _
  obtain ⟨a23, e23⟩ : ∃ act, act = a22.put (some 61) (.slice (some ⟨gb, 0, none⟩) n gc) := ⟨_, rfl⟩
  rw [← e23] at h ⊢
  have z23 : a23.tmps.size = 222 := by rw [e23, put_size]; exact z22
  clear t4
  replace t6 : a23.tmps.getD 6 undef = .pointer (some ⟨ob, 0, none⟩) := by rw [e23, put_ne _ _ _ _ (by decide)]; exact t6
  replace t7 : a23.tmps.getD 7 undef = .int .i64 (i : Int) := by rw [e23, put_ne _ _ _ _ (by decide)]; exact t7
  replace t53 : a23.tmps.getD 53 undef = .bool true := by rw [e23, put_ne _ _ _ _ (by decide)]; exact t53
  replace t57 : a23.tmps.getD 57 undef = .pointer px := by rw [e23, put_ne _ _ _ _ (by decide)]; exact t57
  replace t59 : a23.tmps.getD 59 undef = .agg (bs hh) := by rw [e23, put_ne _ _ _ _ (by decide)]; exact t59
  have t61 : a23.tmps.getD 61 undef = .slice (some ⟨gb, 0, none⟩) n gc := by rw [e23]; exact put_same _ _ _ (by omega)
  clear e23 z22
  refine wpAnyH_take (i := 24) (oi := { dst := some 62, op := Op.move (Operand.tmp 7), type := 3, pos := "law.go:82", after := #[{ on := 15, ground := Ground.guard }], guard := some (15, true) }) (v := .int .i64 (i : Int)) rfl (by kernel_rfl) (by kernel_rfl) (by kernel_rfl) (fun _ _ _ h => h) (Or.inl ⟨by simp [Region.wanted, yielded, plays11_ops, tget z23 (by decide) t53], fun w1 hw => by go_simp⟩) hHeld ?_
  change wpAnyH _ _ _ _ _ _ _ (a23.put (some 62) (.int .i64 (i : Int))) _
  obtain ⟨a24, e24⟩ : ∃ act, act = a23.put (some 62) (.int .i64 (i : Int)) := ⟨_, rfl⟩
  rw [← e24] at h ⊢
  have z24 : a24.tmps.size = 222 := by rw [e24, put_size]; exact z23
  replace t6 : a24.tmps.getD 6 undef = .pointer (some ⟨ob, 0, none⟩) := by rw [e24, put_ne _ _ _ _ (by decide)]; exact t6
  clear t7
  replace t53 : a24.tmps.getD 53 undef = .bool true := by rw [e24, put_ne _ _ _ _ (by decide)]; exact t53
  replace t57 : a24.tmps.getD 57 undef = .pointer px := by rw [e24, put_ne _ _ _ _ (by decide)]; exact t57
  replace t59 : a24.tmps.getD 59 undef = .agg (bs hh) := by rw [e24, put_ne _ _ _ _ (by decide)]; exact t59
  replace t61 : a24.tmps.getD 61 undef = .slice (some ⟨gb, 0, none⟩) n gc := by rw [e24, put_ne _ _ _ _ (by decide)]; exact t61
  have t62 : a24.tmps.getD 62 undef = .int .i64 (i : Int) := by rw [e24]; exact put_same _ _ _ (by omega)
  clear e24 z23
  refine wpAnyH_take (i := 25) (oi := { dst := some 63, op := Op.indexAddr 28 (Operand.tmp 61) (Operand.tmp 62), type := 0, pos := "law.go:82", after := #[{ on := 23, ground := Ground.data }, { on := 24, ground := Ground.data }, { on := 15, ground := Ground.guard }], guard := some (15, true) }) (v := .pointer (some ⟨gb, i, none⟩)) rfl (by kernel_rfl) (by kernel_rfl) (by kernel_rfl) (fun _ _ _ h => h) (Or.inl ⟨by simp [Region.wanted, yielded, plays11_ops, tget z24 (by decide) t53], fun w1 hw => by go_simp⟩) hHeld ?_
  change wpAnyH _ _ _ _ _ _ _ (a24.put (some 63) (.pointer (some ⟨gb, i, none⟩))) _
  obtain ⟨a25, e25⟩ : ∃ act, act = a24.put (some 63) (.pointer (some ⟨gb, i, none⟩)) := ⟨_, rfl⟩
  rw [← e25] at h ⊢
  have z25 : a25.tmps.size = 222 := by rw [e25, put_size]; exact z24
  replace t6 : a25.tmps.getD 6 undef = .pointer (some ⟨ob, 0, none⟩) := by rw [e25, put_ne _ _ _ _ (by decide)]; exact t6
  replace t53 : a25.tmps.getD 53 undef = .bool true := by rw [e25, put_ne _ _ _ _ (by decide)]; exact t53
  replace t57 : a25.tmps.getD 57 undef = .pointer px := by rw [e25, put_ne _ _ _ _ (by decide)]; exact t57
  replace t59 : a25.tmps.getD 59 undef = .agg (bs hh) := by rw [e25, put_ne _ _ _ _ (by decide)]; exact t59
  clear t61
  clear t62
  have t63 : a25.tmps.getD 63 undef = .pointer (some ⟨gb, i, none⟩) := by rw [e25]; exact put_same _ _ _ (by omega)
  clear e25 z24
  refine wpAnyH_take (i := 26) (oi := { dst := some 64, op := Op.load 26 (Operand.tmp 63), type := 26, pos := "law.go:82", after := #[{ on := 25, ground := Ground.data }, { on := 15, ground := Ground.guard }], guard := some (15, true) }) (v := .pointer py) rfl (by kernel_rfl) (by kernel_rfl) (by kernel_rfl) (fun _ _ _ h => h) (Or.inl ⟨by simp [Region.wanted, yielded, plays11_ops, tget z25 (by decide) t53], fun w1 hw => by have c := L2 _ hw; go_simp⟩) hHeld ?_
  change wpAnyH _ _ _ _ _ _ _ (a25.put (some 64) (.pointer py)) _
  obtain ⟨a26, e26⟩ : ∃ act, act = a25.put (some 64) (.pointer py) := ⟨_, rfl⟩
  rw [← e26] at h ⊢
  have z26 : a26.tmps.size = 222 := by rw [e26, put_size]; exact z25
  replace t6 : a26.tmps.getD 6 undef = .pointer (some ⟨ob, 0, none⟩) := by rw [e26, put_ne _ _ _ _ (by decide)]; exact t6
  replace t53 : a26.tmps.getD 53 undef = .bool true := by rw [e26, put_ne _ _ _ _ (by decide)]; exact t53
  replace t57 : a26.tmps.getD 57 undef = .pointer px := by rw [e26, put_ne _ _ _ _ (by decide)]; exact t57
  replace t59 : a26.tmps.getD 59 undef = .agg (bs hh) := by rw [e26, put_ne _ _ _ _ (by decide)]; exact t59
  clear t63
  have t64 : a26.tmps.getD 64 undef = .pointer py := by rw [e26]; exact put_same _ _ _ (by omega)
  clear e26 z25
  refine wpAnyH_take (i := 27) (oi := { dst := some 65, op := Op.fieldAddr 33 (Operand.tmp 6) 3, type := 0, pos := "law.go:82", after := #[{ on := 15, ground := Ground.guard }], guard := some (15, true) }) (v := .pointer (some ⟨ob, 3, none⟩)) rfl (by kernel_rfl) (by kernel_rfl) (by kernel_rfl) (fun _ _ _ h => h) (Or.inl ⟨by simp [Region.wanted, yielded, plays11_ops, tget z26 (by decide) t53], fun w1 hw => by go_simp⟩) hHeld ?_
  change wpAnyH _ _ _ _ _ _ _ (a26.put (some 65) (.pointer (some ⟨ob, 3, none⟩))) _
  obtain ⟨a27, e27⟩ : ∃ act, act = a26.put (some 65) (.pointer (some ⟨ob, 3, none⟩)) := ⟨_, rfl⟩
  rw [← e27] at h ⊢
  have z27 : a27.tmps.size = 222 := by rw [e27, put_size]; exact z26
  clear t6
  replace t53 : a27.tmps.getD 53 undef = .bool true := by rw [e27, put_ne _ _ _ _ (by decide)]; exact t53
  replace t57 : a27.tmps.getD 57 undef = .pointer px := by rw [e27, put_ne _ _ _ _ (by decide)]; exact t57
  replace t59 : a27.tmps.getD 59 undef = .agg (bs hh) := by rw [e27, put_ne _ _ _ _ (by decide)]; exact t59
  replace t64 : a27.tmps.getD 64 undef = .pointer py := by rw [e27, put_ne _ _ _ _ (by decide)]; exact t64
  have t65 : a27.tmps.getD 65 undef = .pointer (some ⟨ob, 3, none⟩) := by rw [e27]; exact put_same _ _ _ (by omega)
  clear e27 z26
  refine wpAnyH_take (i := 28) (oi := { dst := some 66, op := Op.load 30 (Operand.tmp 65), type := 30, pos := "law.go:82", after := #[{ on := 27, ground := Ground.data }, { on := 15, ground := Ground.guard }], guard := some (15, true) }) (v := .agg (bs hh)) rfl (by kernel_rfl) (by kernel_rfl) (by kernel_rfl) (fun _ _ _ h => h) (Or.inl ⟨by simp [Region.wanted, yielded, plays11_ops, tget z27 (by decide) t53], fun w1 hw => exec_load rfl t65 (HLD _ hw)⟩) hHeld ?_
  change wpAnyH _ _ _ _ _ _ _ (a27.put (some 66) (.agg (bs hh))) _
  obtain ⟨a28, e28⟩ : ∃ act, act = a27.put (some 66) (.agg (bs hh)) := ⟨_, rfl⟩
  rw [← e28] at h ⊢
  have z28 : a28.tmps.size = 222 := by rw [e28, put_size]; exact z27
  replace t53 : a28.tmps.getD 53 undef = .bool true := by rw [e28, put_ne _ _ _ _ (by decide)]; exact t53
  replace t57 : a28.tmps.getD 57 undef = .pointer px := by rw [e28, put_ne _ _ _ _ (by decide)]; exact t57
  replace t59 : a28.tmps.getD 59 undef = .agg (bs hh) := by rw [e28, put_ne _ _ _ _ (by decide)]; exact t59
  replace t64 : a28.tmps.getD 64 undef = .pointer py := by rw [e28, put_ne _ _ _ _ (by decide)]; exact t64
  clear t65
  have t66 : a28.tmps.getD 66 undef = .agg (bs hh) := by rw [e28]; exact put_same _ _ _ (by omega)
  clear e28 z27
  refine wpAnyH_ready (rs := [22]) (by kernel_rfl) (by simp) ?_
  refine AllReadyH.cons (o := { dst := some 60, op := Op.call { callee := Callee.value (Operand.func 25), args := #[Operand.tmp 57, Operand.tmp 59], argTypes := #[23, 30] }, type := 49, pos := "law.go:82", after := #[{ on := 19, ground := Ground.data }, { on := 21, ground := Ground.data }, { on := 15, ground := Ground.chain }, { on := 15, ground := Ground.guard }], guard := some (15, true) }) rfl (fun K hK => ?_) AllReadyH.nil
  rw [if_pos (by simp [Region.wanted, yielded, plays11_ops, tget z28 (by decide) t53])]
  go_simp
  refine (C25 _ hHeld).mono ?_
  rintro e x29 ⟨s1, c1, rfl, y1, l3⟩
  try go_wp2_with fail
  replace h := h s1 c1
  refine hK.out _ _ (hHeld.trans (l3.mono (hN _ hHeld))) (fun hHeld => ?_)
  clear hK K
  change wpAnyH _ _ _ _ _ _ _ (a28.put (some 60) (.slice s1 nS c1)) _
  obtain ⟨a29, e29⟩ : ∃ act, act = a28.put (some 60) (.slice s1 nS c1) := ⟨_, rfl⟩
  rw [← e29] at h ⊢
  have z29 : a29.tmps.size = 222 := by rw [e29, put_size]; exact z28
  replace t53 : a29.tmps.getD 53 undef = .bool true := by rw [e29, put_ne _ _ _ _ (by decide)]; exact t53
  clear t57
  clear t59
  replace t64 : a29.tmps.getD 64 undef = .pointer py := by rw [e29, put_ne _ _ _ _ (by decide)]; exact t64
  replace t66 : a29.tmps.getD 66 undef = .agg (bs hh) := by rw [e29, put_ne _ _ _ _ (by decide)]; exact t66
  have t60 : a29.tmps.getD 60 undef = .slice s1 nS c1 := by rw [e29]; exact put_same _ _ _ (by omega)
  clear e29 z28
  refine wpAnyH_ready (rs := [29]) (by kernel_rfl) (by simp) ?_
  refine AllReadyH.cons (o := { dst := some 67, op := Op.call { callee := Callee.value (Operand.func 26), args := #[Operand.tmp 64, Operand.tmp 66], argTypes := #[26, 30] }, type := 49, pos := "law.go:82", after := #[{ on := 26, ground := Ground.data }, { on := 28, ground := Ground.data }, { on := 22, ground := Ground.chain }, { on := 15, ground := Ground.guard }], guard := some (15, true) }) rfl (fun K hK => ?_) AllReadyH.nil
  rw [if_pos (by simp [Region.wanted, yielded, plays11_ops, tget z29 (by decide) t53])]
  go_simp
  refine (C26 _ hHeld).mono ?_
  rintro e x30 ⟨s2, c2, rfl, y2, l4⟩
  try go_wp2_with fail
  replace h := h s2 c2; have y1b := RowOn.below (l := lS) y1 l4
  refine hK.out _ _ (hHeld.trans (l4.mono (hN _ hHeld))) (fun hHeld => ?_)
  clear hK K
  change wpAnyH _ _ _ _ _ _ _ (a29.put (some 67) (.slice s2 nS c2)) _
  obtain ⟨a30, e30⟩ : ∃ act, act = a29.put (some 67) (.slice s2 nS c2) := ⟨_, rfl⟩
  rw [← e30] at h ⊢
  have z30 : a30.tmps.size = 222 := by rw [e30, put_size]; exact z29
  replace t53 : a30.tmps.getD 53 undef = .bool true := by rw [e30, put_ne _ _ _ _ (by decide)]; exact t53
  clear t64
  clear t66
  replace t60 : a30.tmps.getD 60 undef = .slice s1 nS c1 := by rw [e30, put_ne _ _ _ _ (by decide)]; exact t60
  have t67 : a30.tmps.getD 67 undef = .slice s2 nS c2 := by rw [e30]; exact put_same _ _ _ (by omega)
  clear e30 z29
  refine wpAnyH_ready (rs := [30]) (by kernel_rfl) (by simp) ?_
  refine AllReadyH.cons (o := { dst := some 68, op := Op.call { callee := Callee.value (Operand.func 24), args := #[Operand.tmp 60, Operand.tmp 67], argTypes := #[49, 49] }, type := 4, pos := "law.go:82", after := #[{ on := 22, ground := Ground.data }, { on := 29, ground := Ground.data }, { on := 29, ground := Ground.chain }, { on := 15, ground := Ground.guard }], guard := some (15, true) }) rfl (fun K hK => ?_) AllReadyH.nil
  rw [if_pos (by simp [Region.wanted, yielded, plays11_ops, tget z30 (by decide) t53])]
  go_simp
  refine (C24 _ s1 c1 s2 c2 hHeld y1b y2).mono ?_
  rintro e x31 ⟨rfl, l5⟩
  try go_wp2_with fail
  skip
  refine hK.out _ _ (hHeld.trans (l5.mono (hN _ hHeld))) (fun hHeld => ?_)
  clear hK K
  change wpAnyH _ _ _ _ _ _ _ (a30.put (some 68) (.bool true)) _
  obtain ⟨a31, e31⟩ : ∃ act, act = a30.put (some 68) (.bool true) := ⟨_, rfl⟩
  rw [← e31] at h ⊢
  have z31 : a31.tmps.size = 222 := by rw [e31, put_size]; exact z30
  replace t53 : a31.tmps.getD 53 undef = .bool true := by rw [e31, put_ne _ _ _ _ (by decide)]; exact t53
  clear t60
  clear t67
  have t68 : a31.tmps.getD 68 undef = .bool true := by rw [e31]; exact put_same _ _ _ (by omega)
  clear e31 z30
  refine wpAnyH_take (i := 31) (oi := { dst := some 69, op := Op.pick (Operand.tmp 53) (Operand.tmp 68) (Operand.const (Value.bool false)), type := 4, pos := "law.go:82", after := #[{ on := 15, ground := Ground.data }, { on := 30, ground := Ground.data }], guard := none }) (v := .bool true) rfl (by kernel_rfl) (by kernel_rfl) (by kernel_rfl) (fun _ _ _ h => h) (Or.inl ⟨by rfl, fun w1 hw => by go_simp⟩) hHeld ?_
  change wpAnyH _ _ _ _ _ _ _ (a31.put (some 69) (.bool true)) _
  obtain ⟨a32, e32⟩ : ∃ act, act = a31.put (some 69) (.bool true) := ⟨_, rfl⟩
  rw [← e32] at h ⊢
  have z32 : a32.tmps.size = 222 := by rw [e32, put_size]; exact z31
  clear t53
  clear t68
  have t69 : a32.tmps.getD 69 undef = .bool true := by rw [e32]; exact put_same _ _ _ (by omega)
  clear e32 z31
  refine wpAnyH_take (i := 32) (oi := { dst := some 8, op := Op.assign (Operand.tmp 69), type := 4, pos := "law.go:82", after := #[{ on := 31, ground := Ground.data }, { on := 30, ground := Ground.chain }, { on := 0, ground := Ground.phase }, { on := 1, ground := Ground.phase }, { on := 2, ground := Ground.phase }, { on := 3, ground := Ground.phase }, { on := 4, ground := Ground.phase }, { on := 5, ground := Ground.phase }, { on := 6, ground := Ground.phase }, { on := 7, ground := Ground.phase }, { on := 8, ground := Ground.phase }, { on := 9, ground := Ground.phase }, { on := 10, ground := Ground.phase }, { on := 11, ground := Ground.phase }, { on := 12, ground := Ground.phase }, { on := 13, ground := Ground.phase }, { on := 14, ground := Ground.phase }, { on := 15, ground := Ground.phase }, { on := 16, ground := Ground.phase }, { on := 17, ground := Ground.phase }, { on := 18, ground := Ground.phase }, { on := 19, ground := Ground.phase }, { on := 20, ground := Ground.phase }, { on := 21, ground := Ground.phase }, { on := 22, ground := Ground.phase }, { on := 23, ground := Ground.phase }, { on := 24, ground := Ground.phase }, { on := 25, ground := Ground.phase }, { on := 26, ground := Ground.phase }, { on := 27, ground := Ground.phase }, { on := 28, ground := Ground.phase }, { on := 29, ground := Ground.phase }, { on := 30, ground := Ground.phase }, { on := 31, ground := Ground.phase }], guard := none }) (v := .bool true) rfl (by kernel_rfl) (by kernel_rfl) (by kernel_rfl) (fun _ _ _ h => h) (Or.inl ⟨by rfl, fun w1 hw => by go_simp⟩) hHeld ?_
  change wpAnyH _ _ _ _ _ _ _ (a32.put (some 8) (.bool true)) _
  obtain ⟨a33, e33⟩ : ∃ act, act = a32.put (some 8) (.bool true) := ⟨_, rfl⟩
  rw [← e33] at h ⊢
  have z33 : a33.tmps.size = 222 := by rw [e33, put_size]; exact z32
  clear t69
  clear e33 z32
  exact wpAnyH_done (by kernel_rfl) (NoPanic.normal (h _ _ hHeld rfl)) _
end Go.Proofs.Ytdajeabhhkgibaa

