import Derived.Test.YtnbdohomaadbfaaZf
import Derived.Test.YtnbdohomaadbfaaYg0
namespace Go.Proofs.Ytnbdohomaadbfaa
open Go.RowKit
set_option linter.unusedVariables false
set_option linter.unusedSimpArgs false

/-- The program's filter, as Decode hands it back. -/
def PkPost (L : List UInt8) (v : Nat) (w : World) (e : Ending) (w' : World) : Prop := ∃ q g, e = .returned (.tuple #[.pointer (some ⟨q, 0, none⟩), .int .i64 0, .int .i64 0]) ∧ FW w' q g (dU L) v (ldF (dR L) (dU L / 8)) ∧ Below w.heap.size w w'
def QkPost (L : List UInt8) (v : Nat) (w : World) (e : Ending) (w' : World) : Prop := ∃ q g, e = .returned (.tuple #[.pointer (some ⟨q, 0, none⟩), .int .i64 0, .int .i64 0]) ∧ RW w' q g (dU L) v (bitAt (ldF (dR L) (dU L / 8))) ∧ Below w.heap.size w w'
theorem pdec_ok {a0 : Option Addr} {cap : Nat} {L : List UInt8} {w : World} (hl : L.length ≤ 140737488351232) (ha : a0 = none → cap = 0) (hb : K.Byt w a0 L) {v : Nat} (hv : dV L = (v : Int)) (hE : K.doneE L (d4 L) = 0) : Calls Try.prog 29 #[.slice a0 L.length cap] w (PkPost L v w) := by
  refine (decode_any a0 cap L w hl ha hb).mono ?_
  rintro e w' ⟨be, ⟨h1, _⟩ | ⟨h1, q, g, v', hv', rfl, f⟩⟩
  · exact absurd hE h1
  · obtain rfl : v = v' := by omega
    exact ⟨q, g, rfl, f.fw, be⟩
theorem qdec_ok {a0 : Option Addr} {cap : Nat} {L : List UInt8} {w : World} (hl : L.length ≤ 140737488351232) (hb : K.Byt w a0 L) {v : Nat} (hv : dV L = (v : Int)) (hE : K.doneE L (d4 L) = 0) : Calls Try.prog 30 #[.slice a0 L.length cap] w (QkPost L v w) := by
  refine (rdecode_any a0 cap L w hl hb).mono ?_
  rintro e w' ⟨be, ⟨h1, _⟩ | ⟨h1, q, g, v', hv', rfl, f⟩⟩
  · exact absurd hE h1
  · obtain rfl : v = v' := by omega
    exact ⟨q, g, rfl, f, be⟩
theorem qdec_no {a0 : Option Addr} {cap : Nat} {L : List UInt8} {w : World} (hl : L.length ≤ 140737488351232) (hb : K.Byt w a0 L) (hE : ¬ K.doneE L (d4 L) = 0) : Calls Try.prog 30 #[.slice a0 L.length cap] w fun e w' => e = .returned (.tuple #[.pointer none, .int .i64 (K.doneE L (d4 L)), .int .i64 (K.doneP L (d4 L))]) ∧ Below w.heap.size w w' := by
  refine (rdecode_any a0 cap L w hl hb).mono ?_
  rintro e w' ⟨be, ⟨h1, rfl⟩ | ⟨h1, _⟩⟩
  · exact ⟨rfl, be⟩
  · exact absurd h1 hE
theorem hand_byt {w : World} {g : Nat} {l : List UInt8} (hg : w.heap[g]? = some (.cells (K.bs (l ++ K.marks)) 5 (0, 0))) : K.Byt w (some ⟨g, 0, none⟩) l :=
  .inr ⟨g, 0, rfl, fun j hj => by rw [Nat.zero_add, ← K.own_at l j hj]; exact (cell_of_row w g j _ _ _ hg).trans (K.bs_get _ j (by simp; omega))⟩
set_option maxRecDepth 100000 in
set_option maxHeartbeats 8000000 in
theorem decodes_all (a0 : Option Addr) (cap : Nat) (L : List UInt8) (w : World) (hl : L.length ≤ 140737488351232) (hb : K.Byt w a0 L) :
    Calls Try.prog 4 #[.slice a0 L.length cap] w fun e w' => e = .returned (.bool true) ∧ Below w.heap.size w w' := by
  have C28 := Hid.mk' (K.hand_any a0 L cap w hb hl)
  have HBW : Hid (∀ W, Below w.heap.size w W → K.Byt W a0 L) := fun W h => K.byt_below hb h
  have HKE : Hid (∀ W g, W.heap[g]? = some (.cells (K.bs (L ++ K.marks)) 5 (0, 0)) → Below w.heap.size w W → Calls Try.prog 31 #[.slice (some ⟨g, 0, none⟩) L.length (L.length + 9), .slice a0 L.length cap] W fun e w' => e = .returned (.bool true) ∧ Below W.heap.size W w') := fun W g hg be => (K.kept_any g a0 L cap W hg (HBW.out W be) hl).mono (by
    rintro e w' ⟨rfl, m, rfl⟩
    exact ⟨rfl, K.below_drewN (Below.refl _ _) m⟩)
  by_cases hE : K.doneE L (d4 L) = 0
  · obtain ⟨o1, o2, o3, v, hv, hLL⟩ := dec_ok hE
    clear hLL
    have hp2 := of_decide_eq_true o2
    have hob := of_decide_eq_true o1
    have C29 : Hid (∀ W g, W.heap[g]? = some (.cells (K.bs (L ++ K.marks)) 5 (0, 0)) → Calls Try.prog 29 #[.slice (some ⟨g, 0, none⟩) L.length (L.length + 9)] W (PkPost L v W)) := fun W g hg => pdec_ok hl (fun e => by cases e) (hand_byt hg) hv hE
    have C30 : Hid (∀ W, Below w.heap.size w W → Calls Try.prog 30 #[.slice a0 L.length cap] W (QkPost L v W)) := fun W be => qdec_ok hl (HBW.out W be) hv hE
    have C27 : Hid (∀ W qf gf qg gg, FW W qf gf (dU L) v (ldF (dR L) (dU L / 8)) → RW W qg gg (dU L) v (bitAt (ldF (dR L) (dU L / 8))) → Calls Try.prog 27 #[.pointer (some ⟨qf, 0, none⟩), .pointer (some ⟨qg, 0, none⟩)] W fun e w' => e = .returned (.bool true) ∧ Below W.heap.size W w') := fun W qf gf qg gg f g =>
      alike_ok qf gf qg gg (dU L) v _ W f g (by have := within_ldF (dR L) (dU L / 8); rw [show 8 * (dU L / 8) = dU L by omega] at this; exact this) (ldF_lt _ _) o1 (by omega)
    clear hb hE o1 o2 o3 hv hp2 hob
    go_enter Try.func4, Try.ntmps4
    go_wp2_with (first
      | (go_at_call 28; refine C28.out.mono ?_; clear C28; rintro e W1 ⟨rfl, r1, b1⟩; have R1 := Hid.mk' r1; have B1 := Hid.mk' b1; clear r1 b1; have LT1 : Hid (w.heap.size < W1.heap.size) := (Array.getElem?_eq_some_iff.1 R1.out).1)
      | (go_at_call 29; refine (C29.out _ _ R1.out).mono ?_; clear C29; rintro e W2 ⟨qf, gf, rfl, f2, b2⟩; have F2 := Hid.mk' f2; have B2 := Hid.mk' (B1.out.trans (b2.mono B1.out.size)); have R2 := Hid.mk' ((b2.block _ LT1.out).trans R1.out); have S2 := Hid.mk' b2.size; clear f2 b2)
      | (go_at_call 30; refine (C30.out _ B2.out).mono ?_; clear C30; rintro e W3 ⟨qg, gg, rfl, f3, b3⟩; have B3 := Hid.mk' (B2.out.trans (b3.mono B2.out.size)); have D27 := Hid.mk' (C27.out _ qf gf qg gg (F2.out.below b3) f3); have R3 := Hid.mk' ((b3.block _ (Nat.lt_of_lt_of_le LT1.out S2.out)).trans R2.out); have S3 := Hid.mk' (Nat.le_trans S2.out b3.size); clear f3 b3)
      | (go_at_call 27; refine D27.out.mono ?_; clear D27; rintro e W4 ⟨rfl, b4⟩; have B4 := Hid.mk' (B3.out.trans (b4.mono B3.out.size)); have D31 := Hid.mk' (HKE.out _ _ ((b4.block _ (Nat.lt_of_lt_of_le LT1.out S3.out)).trans R3.out) B4.out); clear b4)
      | (go_at_call 31; refine D31.out.mono ?_; clear D31; rintro e W5 ⟨rfl, b5⟩; have B5 := Hid.mk' (B4.out.trans (b5.mono B4.out.size)); clear b5)
      | fail)
    go_ret
    exact ⟨rfl, B5.out⟩
  · have C29 : Hid (∀ W g, W.heap[g]? = some (.cells (K.bs (L ++ K.marks)) 5 (0, 0)) → Calls Try.prog 29 #[.slice (some ⟨g, 0, none⟩) L.length (L.length + 9)] W fun e w' => e = .returned (.tuple #[.pointer none, .int .i64 (K.doneE L (d4 L)), .int .i64 (K.doneP L (d4 L))]) ∧ Below W.heap.size W w') := fun W g hg => dec_no _ _ L W hl (fun e => by cases e) (hand_byt hg) hE
    have C30 : Hid (∀ W, Below w.heap.size w W → Calls Try.prog 30 #[.slice a0 L.length cap] W fun e w' => e = .returned (.tuple #[.pointer none, .int .i64 (K.doneE L (d4 L)), .int .i64 (K.doneP L (d4 L))]) ∧ Below W.heap.size W w') := fun W be => qdec_no hl (HBW.out W be) hE
    clear hb hE
    generalize K.doneE L (d4 L) = dE at *
    generalize K.doneP L (d4 L) = dP at *
    go_enter Try.func4, Try.ntmps4
    go_wp2_with (first
      | (go_at_call 28; refine C28.out.mono ?_; clear C28; rintro e W1 ⟨rfl, r1, b1⟩; have R1 := Hid.mk' r1; have B1 := Hid.mk' b1; clear r1 b1; have LT1 : Hid (w.heap.size < W1.heap.size) := (Array.getElem?_eq_some_iff.1 R1.out).1)
      | (go_at_call 29; refine (C29.out _ _ R1.out).mono ?_; clear C29; rintro e W2 ⟨rfl, b2⟩; have B2 := Hid.mk' (B1.out.trans (b2.mono B1.out.size)); have R2 := Hid.mk' ((b2.block _ LT1.out).trans R1.out); have S2 := Hid.mk' b2.size; clear b2)
      | (go_at_call 30; refine (C30.out _ B2.out).mono ?_; clear C30; rintro e W3 ⟨rfl, b3⟩; have B3 := Hid.mk' (B2.out.trans (b3.mono B2.out.size)); have R3 := Hid.mk' ((b3.block _ (Nat.lt_of_lt_of_le LT1.out S2.out)).trans R2.out); have S3 := Hid.mk' (Nat.le_trans S2.out b3.size); clear b3)
      | (go_at_call 27; refine (alike_nil _).mono ?_; rintro e W4 ⟨rfl, b4⟩; have B4 := Hid.mk' (B3.out.trans (b4.mono B3.out.size)); have D31 := Hid.mk' (HKE.out _ _ ((b4.block _ (Nat.lt_of_lt_of_le LT1.out S3.out)).trans R3.out) B4.out); clear b4)
      | (go_at_call 31; refine D31.out.mono ?_; clear D31; rintro e W5 ⟨rfl, b5⟩; have B5 := Hid.mk' (B4.out.trans (b5.mono B4.out.size)); clear b5)
      | fail)
    go_ret
    exact ⟨rfl, B5.out⟩
end Go.Proofs.Ytnbdohomaadbfaa
