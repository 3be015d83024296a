import Derived.Test.YtphpaaajfcbafaaDoorQn
namespace Go.Proofs.YtphpaaajfcbafaaDoor.K
open Go.RowKit
set_option linter.unusedVariables false
set_option linter.unusedSimpArgs false

section
variable {T : TypeId} {r cap : Nat} {a : Option Addr} {L : List UInt8} {s : St}
set_option maxRecDepth 100000 in
set_option maxHeartbeats 1000000 in
theorem qleft_any (w : World) (h : RD w T r a cap L s) :
    Calls Tryd.prog 18 #[.pointer (some ⟨r, 0, none⟩)] w fun e w' => e = .returned (.int .i64 ((L.length : Int) - (s.k : Int))) ∧ ∃ m, w' = w.drewN m := by
  have c0 := h.c0
  have c1 := h.c1
  have hf := h.few
  have ha := h.at_le
  clear h
  go_enter Tryd.func18, Tryd.ntmps18
  go_wp2
  try (go_quiet (fail); go_wp2)
  go_ret
  first | exact ⟨rfl, 0, rfl⟩ | exact ⟨rfl, _, rfl⟩
end
theorem below0 (w : World) : Below w.heap.size w (w.alloc (.cells #[] 5)) := (Below.refl _ _).alloc (Nat.le_refl _) _
theorem own0 (w : World) : OwnB (w.alloc (.cells #[] 5)) w.heap.size (.slice (some ⟨w.heap.size, 0, none⟩) 0 0) [] := ⟨rfl, .inr ⟨w.heap.size, 0, #[], rfl, Nat.le_refl _, heap_alloc_new _ _, by simp, by simp [maxLen], rfl, rfl⟩⟩
set_option maxRecDepth 100000 in
set_option maxHeartbeats 1000000 in
theorem qnew_x (a : Option Addr) (l : List UInt8) (n cap : Nat) (w : World) (hl : l.length = n) (hb : Byt w a l) (hn : n ≤ 140737488351232) :
    Calls Tryd.prog 17 #[.slice a n cap] w fun e w' => ∃ r a c, e = .returned (.pointer (some ⟨r, 0, none⟩)) ∧ RD w' 79 r a c l ⟨0, 0, 0⟩ ∧ w.heap.size ≤ r ∧ r < w'.heap.size ∧ (∀ ad, a = some ad → w.heap.size ≤ ad.block ∧ ad.block < w'.heap.size) ∧ Below w.heap.size w w' := by
  have O0 := Hid.mk' (own0 w)
  have B0 := Hid.mk' (byt_below hb (below0 w))
  have S0 : Hid (([] : List UInt8).length + l.length ≤ 225000000000000) := by show _ ≤ _; simp; omega
  have Z0 := Hid.mk' (below0 w).size
  clear hb
  go_enter Tryd.func17, Tryd.ntmps17
  go_wp2_with (first | (at_builtin; refine wpList_app rfl (.tmp 3) (.tmp 4) rfl w.heap.size (.slice (some ⟨w.heap.size, 0, none⟩) 0 0) [] rfl O0.out a n cap l rfl hl B0.out S0.out Z0.out ?_) | fail)
  intro v w1 own1 gr1
  have own1' : OwnB w1 w.heap.size v l := by simpa using own1
  have b1 : Below w.heap.size w w1 := (below0 w).grown gr1 Z0.out (fun k hk => (World.ownsRow.lt O0.out k hk).1)
  obtain ⟨a2, c2, rfl, rd, hp⟩ := rd_of_own (w := w1) (T := 79) own1' (by omega)
  have z1 := b1.size
  obtain ⟨W, hW⟩ : ∃ W, W = w1.alloc (.cells #[.slice a2 l.length c2, .int .i64 0, .int .i64 0, .int .i64 0] 79) := ⟨_, rfl⟩
  rw [← hW] at rd
  have HRD := Hid.mk' rd
  have ZW : Hid (w1.heap.size < W.heap.size) := by show _ < _; rw [hW]; simp
  have B2 : Hid (Below w.heap.size w W) := by show Below _ _ _; rw [hW]; exact b1.alloc (by omega) _
  have HP : Hid (∀ ad, a2 = some ad → w.heap.size ≤ ad.block ∧ ad.block < W.heap.size) := fun ad e => ⟨(hp ad e).1, by have := (hp ad e).2; have := ZW.out; omega⟩
  rw [hl] at hW
  have HW := Hid.mk' hW
  clear own1 own1' rd hp b1 gr1 O0 B0 S0 Z0 hW
  go_wp2
  rw [← HW.out]
  go_ret
  exact ⟨_, a2, c2, rfl, HRD.out, z1, ZW.out, HP.out, B2.out⟩
/-- The document's UnRuns, as long as all is well. -/
structure UI (w wr : World) (r : Nat) (a : Option Addr) (cap : Nat) (L : List UInt8) (n : Nat) (s : St) (l : List Nat) (lr : Bool) (la : Option Addr) (lc : Nat) : Prop where
  rd : RD wr 79 r a cap L s
  bad : s.bad = 0
  own : OwnV wr w.heap.size 35 (.slice la l.length lc) (uC l)
  nr : (Value.slice la l.length lc).ownBlock ≠ some r
  eq : un L n s l lr = un L n ⟨0, 0, 0⟩ [] false
  len : l.length ≤ n
  bel : Below w.heap.size w wr
  rb : w.heap.size ≤ r
  ab : ∀ ad, a = some ad → ad.block < wr.heap.size ∧ some ad.block ≠ (Value.slice la l.length lc).ownBlock
variable {w wr W1 W2 : World} {r cap : Nat} {a : Option Addr} {L : List UInt8} {n : Nat} {s : St} {l : List Nat} {lr : Bool} {la : Option Addr} {lc : Nat}
theorem UI.drew (h : UI w wr r a cap L n s l lr la lc) (m : Nat) : UI w (wr.drewN m) r a cap L n s l lr la lc :=
  have be := below_drewN (Below.refl wr.heap.size wr) m
  ⟨h.rd.drew m, h.bad, h.own.below be, h.nr, h.eq, h.len, below_drewN h.bel m, h.rb, h.ab⟩
/-- Behind a piece. -/
structure UJ (w wr W : World) (r : Nat) (a : Option Addr) (cap : Nat) (L : List UInt8) (s' : St) (l p : List Nat) (la : Option Addr) (lc : Nat) (pa : Option Addr) (pc : Nat) : Prop where
  rd : RD W 79 r a cap L s'
  own : OwnV W w.heap.size 35 (.slice la l.length lc) (uC l)
  pw : OwnV W wr.heap.size 35 (.slice pa p.length pc) (uC p)
  bel : Below w.heap.size w W
  size : wr.heap.size ≤ W.heap.size
theorem UJ.drew {s' : St} {p : List Nat} {pa : Option Addr} {pc : Nat} (h : UJ w wr W1 r a cap L s' l p la lc pa pc) (m : Nat) : UJ w wr (W1.drewN m) r a cap L s' l p la lc pa pc :=
  have be := below_drewN (Below.refl W1.heap.size W1) m
  ⟨h.rd.drew m, h.own.below be, h.pw.below be, below_drewN h.bel m, h.size⟩
theorem UI.piece {s' : St} {p : List Nat} {pa : Option Addr} {pc : Nat} (h : UI w wr r a cap L n s l lr la lc) (hp : PI wr W1 r a cap L s' p pa pc) : UJ w wr W1 r a cap L s' l p la lc pa pc :=
  ⟨hp.rd, ownV_fr h.own hp.fr h.nr, hp.own, h.bel.trans ⟨hp.fr.os, hp.fr.tape, hp.fr.output, hp.fr.size, fun k hk => hp.fr.block k (by have := h.bel.size; omega) (by have := h.rb; omega)⟩, hp.fr.size⟩
theorem UI.step {pa : Option Addr} {pc : Nat} (h : UI w wr r a cap L n s l lr la lc) (hk : s.k < L.length) (hb : (pcS L (n - l.length) s).bad = 0) (hf : ¬ nof l (pcL L (n - l.length) s) (pcR L s) lr = true) (hj : UJ w wr W1 r a cap L (pcS L (n - l.length) s) l (pcL L (n - l.length) s) la lc pa pc) {v2 : Value}
    (own2 : OwnV W2 w.heap.size 35 v2 (uC l ++ uC (pcL L (n - l.length) s))) (gr : W1.grownBy W2 (Value.slice la l.length lc).ownBlock) (hblk : v2.ownBlock = (Value.slice la l.length lc).ownBlock ∨ v2.ownBlock = some W1.heap.size) :
    ∃ la2 lc2, v2 = .slice la2 (l ++ pcL L (n - l.length) s).length lc2 ∧ UI w W2 r a cap L n (pcS L (n - l.length) s) (l ++ pcL L (n - l.length) s) (pcR L s) la2 lc2 ∧ s.k < (pcS L (n - l.length) s).k ∧ l ++ pcL L (n - l.length) s ≠ [] := by
  have hl := pcL_len (Nat.le_of_lt hk) hb
  have hr := h.rd.lt
  have hz := hj.size
  obtain ⟨av2, cv2, e2, _⟩ := own2.open
  have hlen : (uC l ++ uC (pcL L (n - l.length) s)).length = (l ++ pcL L (n - l.length) s).length := by rw [List.length_append, List.length_append, uC_len, uC_len]
  rw [hlen] at e2
  subst e2
  refine ⟨av2, cv2, rfl, ⟨?_, hb, ?_, ?_, ?_, ?_, ?_, h.rb, ?_⟩, (pc_good (Nat.le_of_lt hk) hb).2.1, fun e => ?_⟩
  · exact hj.rd.keep (gr.block r (by omega) (fun e => h.nr e.symm)) (fun ad e => gr.block _ (by have := (h.ab ad e).1; omega) (h.ab ad e).2)
  · rw [uC_app]; exact own2
  · rcases hblk with e | e
    · rw [e]; exact h.nr
    · rw [e]; intro e3; cases e3; omega
  · rw [← h.eq, un_step hk hb hf]
  · rw [List.length_append]; have := h.len; omega
  · exact hj.bel.grown gr (Nat.le_trans h.bel.size hz) (fun k hk => (World.ownsRow.lt h.own k hk).1)
  · intro ad e
    obtain ⟨b1, b2⟩ := h.ab ad e
    refine ⟨by have := gr.size; omega, ?_⟩
    rcases hblk with e1 | e1
    · rw [e1]; exact b2
    · rw [e1]; intro e3; simp at e3; omega
  · have := congrArg List.length e
    rw [List.length_append] at this
    simp at this
    have h0 := hl.2.1
    rw [this.2] at h0
    simp at h0
end Go.Proofs.YtphpaaajfcbafaaDoor.K
