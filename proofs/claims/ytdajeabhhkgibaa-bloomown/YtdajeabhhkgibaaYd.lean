import Derived.Test.YtdajeabhhkgibaaYc
namespace Go.Proofs.Ytdajeabhhkgibaa
open Go.RowKit
set_option linter.unusedVariables false
set_option linter.unusedSimpArgs false

set_option maxRecDepth 100000 in
theorem rbits_any (u : Nat) (w : World) (h2 : u ≤ 65536) : Calls Try.prog 46 #[.int .i64 (u : Int)] w fun e w' => e = .returned (.bool (okB u)) ∧ w' = w := by
  by_cases hk : okB u = true
  · rw [hk]
    have := of_decide_eq_true hk
    exact rbits_ok u w this.1 this.2.1 this.2.2
  · rw [Bool.not_eq_true] at hk
    rw [hk]
    have hk' := of_decide_eq_false hk
    by_cases h8 : 8 ≤ u
    · have e1 : (8 : Int) ≤ (u : Int) := by omega
      have e2 : (u : Int) ≤ 65536 := by omega
      have e3 : (u : Int).tmod 8 = ((u % 8 : Nat) : Int) := by rw [Int.tmod_eq_emod_of_nonneg (by omega)]; omega
      have e4 : 0 < u % 8 := by omega
      have e5 : (((u % 8 : Nat) : Int) == 0) = false := by simp; omega
      clear hk hk'
      generalize u % 8 = z at *
      go_enter Try.func46, Try.ntmps46
      go_wp2
      go_ret
      exact ⟨rfl, rfl⟩
    · have e1 : ¬ (8 : Int) ≤ (u : Int) := by omega
      clear hk hk' h8
      go_enter Try.func46, Try.ntmps46
      go_wp2
      go_ret
      exact ⟨rfl, rfl⟩
set_option maxRecDepth 100000 in
theorem rprobes_any (v : Nat) (w : World) (h : v < 256) : Calls Try.prog 47 #[.int .i64 (v : Int)] w fun e w' => e = .returned (.bool (okP (v : Int))) ∧ w' = w := by
  by_cases hk : okP (v : Int) = true
  · rw [hk]
    have := of_decide_eq_true hk
    exact rprobes_ok v w (by omega) (by omega)
  · rw [Bool.not_eq_true] at hk
    rw [hk]
    have hk' := of_decide_eq_false hk
    by_cases h8 : 1 ≤ v
    · have e1 : (1 : Int) ≤ (v : Int) := by omega
      have e2 : ¬ (v : Int) ≤ 16 := by omega
      clear hk hk'
      go_enter Try.func47, Try.ntmps47
      go_wp2
      go_ret
      exact ⟨rfl, rfl⟩
    · have e1 : ¬ (1 : Int) ≤ (v : Int) := by omega
      clear hk hk' h8
      go_enter Try.func47, Try.ntmps47
      go_wp2
      go_ret
      exact ⟨rfl, rfl⟩
/-- A Reader that was made since. -/
structure DI (w W : World) (r : Nat) (a : Option Addr) (c : Nat) (L : List UInt8) (s : K.St) : Prop where
  rd : K.RD W 139 r a c L s
  be : Below w.heap.size w W
  le : w.heap.size ≤ r
theorem DI.on {w W W' : World} {r c : Nat} {a : Option Addr} {L : List UInt8} {s s' : K.St} (h : DI w W r a c L s) (o : K.On W W' 139 r a c L s') : DI w W' r a c L s' :=
  ⟨o.1, h.be.trans (o.2.below _ h.le h.be.size), h.le⟩
theorem DI.below {w W W' : World} {r c : Nat} {a : Option Addr} {L : List UInt8} {s : K.St} (h : DI w W r a c L s) (b : Below W.heap.size W W') : DI w W' r a c L s :=
  ⟨h.rd.below b, h.be.trans (b.mono h.be.size), h.le⟩
/-- What NewReader tells. -/
def RdPost (L : List UInt8) (w : World) (e : Ending) (w' : World) : Prop := ∃ r a c, e = .returned (.pointer (some ⟨r, 0, none⟩)) ∧ DI w w' r a c L d0
/-- What Raw tells. -/
def RwPost (w W : World) (r : Nat) (a : Option Addr) (c : Nat) (L R : List UInt8) (n : Nat) (s : K.St) (e : Ending) (w' : World) : Prop := ∃ a2 c2, e = .returned (.slice a2 n c2) ∧ DI w w' r a c L s ∧ (0 < n → ∃ b, a2 = some ⟨b, 0, none⟩ ∧ b < w'.heap.size ∧ K.Byt w' a2 R)
/-- What Decode tells. -/
def DcPost (L : List UInt8) (w : World) (e : Ending) (w' : World) : Prop := Below w.heap.size w w' ∧ ((K.doneE L (d4 L) ≠ 0 ∧ e = .returned (.tuple #[.pointer none, .int .i64 (K.doneE L (d4 L)), .int .i64 (K.doneP L (d4 L))])) ∨ (K.doneE L (d4 L) = 0 ∧ ∃ q g v : Nat, dV L = (v : Int) ∧ e = .returned (.tuple #[.pointer (some ⟨q, 0, none⟩), .int .i64 0, .int .i64 0]) ∧ FAt w.heap.size w' q g (dU L) v (ldF (dR L) (dU L / 8))))
theorem dU_le (L : List UInt8) : dU L ≤ 65536 := by
  unfold dU K.rUint
  rw [if_pos (show d0.bad = 0 from rfl)]
  split
  · split
    · assumption
    · simp
  · simp
theorem dV_nat (L : List UInt8) : ∃ v : Nat, dV L = (v : Int) ∧ v < 256 := by
  unfold dV K.rByte
  split
  · split
    · exact ⟨_, rfl, UInt8.toNat_lt _⟩
    · exact ⟨0, rfl, by omega⟩
  · exact ⟨0, rfl, by omega⟩
/-- The filter that was made, and then loaded. -/
def LdPost (w : World) (q g u v : Nat) (R : List UInt8) (e : Ending) (w' : World) : Prop := e = .returned (.tuple #[]) ∧ FAt w.heap.size w' q g u v (ldF R (u / 8)) ∧ Below w.heap.size w w'
theorem load_post {w W W1 : World} (u v b c2 : Nat) (R : List UInt8) (hb : Below w.heap.size w W) (b1 : Below W.heap.size W W1) (fc : FC W1 (W.heap.size + 1) W.heap.size u v) (wr : WR W1 W.heap.size ((u + 63) / 64) (fun _ => 0)) (hu8 : 8 ≤ u) (hu : u ≤ 65536) (hR : R.length = u / 8) (hlt : b < W.heap.size) (hy : K.Byt W (some ⟨b, 0, none⟩) R) :
    Calls Try.prog 64 #[.slice (some ⟨W.heap.size, 0, none⟩) ((u + 63) / 64) ((u + 63) / 64), .slice (some ⟨b, 0, none⟩) (u / 8) c2] W1 (LdPost w (W.heap.size + 1) W.heap.size u v R) := by
  refine (load_any W.heap.size ((u + 63) / 64) b (u / 8) c2 _ R W1 wr (K.byt_below hy b1) hR (by omega) (by omega) (by omega) (by omega)).mono ?_
  rintro e W2 ⟨rfl, wr2, fr⟩
  have hs := hb.size
  have l1 := fc.lt
  exact ⟨rfl, ⟨⟨fc.of (fr.block _ fc.lt (by omega)), wr2⟩, by omega, hs⟩, (hb.trans (b1.mono hs)).trans (fr.below _ hs (by have := b1.size; omega))⟩
set_option maxRecDepth 100000 in
set_option maxHeartbeats 16000000 in
theorem decode_any (a0 : Option Addr) (cap : Nat) (L : List UInt8) (w : World) (hl : L.length ≤ 140737488351232) (ha : a0 = none → cap = 0) (hb : K.Byt w a0 L) :
    Calls Try.prog 29 #[.slice a0 L.length cap] w (DcPost L w) := by
  have HN : Hid (Calls Try.prog 57 #[.slice a0 L.length cap] w (RdPost L w)) := (K.new_gen a0 L.length cap L w rfl hl ha hb).mono (by
    rintro e w' ⟨r, a, c, rfl, rd, le, be, _⟩
    exact ⟨r, a, c, rfl, rd, be, le⟩)
  have hu := dU_le L
  obtain ⟨v, hv, hv2⟩ := dV_nat L
  have HPO : Hid (∀ W, Below w.heap.size w W → K.doneE L (d4 L) ≠ 0 → DcPost L w (.returned (.tuple #[.pointer none, .int .i64 (K.doneE L (d4 L)), .int .i64 (K.doneP L (d4 L))])) W) := fun W b h => ⟨b, .inl ⟨h, rfl⟩⟩
  have HPO2 : Hid (∀ W q g, K.doneE L (d4 L) = 0 → Below w.heap.size w W → FAt w.heap.size W q g (dU L) v (ldF (dR L) (dU L / 8)) → DcPost L w (.returned (.tuple #[.pointer (some ⟨q, 0, none⟩), .int .i64 0, .int .i64 0])) W) := fun W q g h b f => ⟨b, .inr ⟨h, q, g, v, hv, rfl, f⟩⟩
  have H58a : Hid (∀ W r a c, DI w W r a c L d0 → Calls Try.prog 58 #[.pointer (some ⟨r, 0, none⟩)] W fun e w' => e = .returned (.int .i64 0) ∧ w' = W) := fun W r a c h => K.rat_any W h.rd
  have H59 : Hid (∀ W r a c, DI w W r a c L d0 → Calls Try.prog 59 #[.pointer (some ⟨r, 0, none⟩), .int .u64 65536] W fun e w' => e = .returned (.int .u64 (dU L : Int)) ∧ DI w w' r a c L (d1 L)) := fun W r a c h => (K.uint_any 65536 (by omega) W h.rd).mono (by
    rintro e w' ⟨rfl, o⟩
    exact ⟨rfl, h.on o⟩)
  have H46 : Hid (∀ W, Calls Try.prog 46 #[.int .i64 (dU L : Int)] W fun e w' => e = .returned (.bool (okB (dU L))) ∧ w' = W) := fun W => rbits_any (dU L) W hu
  have H60 : Hid (∀ W r a c s e p, DI w W r a c L s → Calls Try.prog 60 #[.pointer (some ⟨r, 0, none⟩), .int .i64 e, .int .i64 p] W fun x w' => x = .returned (.tuple #[]) ∧ DI w w' r a c L (s.fl e p)) := fun W r a c s e p h => (K.rfail_any e p W h.rd).mono (by
    rintro x w' ⟨rfl, o⟩
    exact ⟨rfl, h.on o⟩)
  have H58 : Hid (∀ W r a c s (k : Nat), s.k = k → DI w W r a c L s → Calls Try.prog 58 #[.pointer (some ⟨r, 0, none⟩)] W fun e w' => e = .returned (.int .i64 (k : Int)) ∧ w' = W) := fun W r a c s k hk h => by subst hk; exact K.rat_any W h.rd
  have H61 : Hid (∀ W r a c, DI w W r a c L (d2 L) → Calls Try.prog 61 #[.pointer (some ⟨r, 0, none⟩)] W fun e w' => e = .returned (.int .u8 (v : Int)) ∧ DI w w' r a c L (d2b L)) := fun W r a c h => (K.byte_any W h.rd).mono (by
    rintro e w' ⟨rfl, o⟩
    exact ⟨by rw [← hv]; rfl, h.on o⟩)
  have H47 : Hid (∀ W, Calls Try.prog 47 #[.int .i64 (v : Int)] W fun e w' => e = .returned (.bool (okP (dV L))) ∧ w' = W) := fun W => by rw [hv]; exact rprobes_any v W hv2
  have H62 : Hid (∀ W r a c, DI w W r a c L (d3 L) → Calls Try.prog 62 #[.pointer (some ⟨r, 0, none⟩), .int .i64 8192] W (RwPost w W r a c L (dR L) (dR L).length (d3b L))) := fun W r a c h => (K.raw_any 8192 (by omega) W h.rd).mono (by
    rintro e w' ⟨x, base, rfl, hbs, ow, o⟩
    obtain ⟨a2, c2, rfl, h1, h2, h3⟩ := ow.open
    refine ⟨a2, c2, rfl, h.on o, fun h0 => ?_⟩
    obtain ⟨g, cp, e, k1, k2, k3, k4⟩ := ow.open1 h0
    cases e
    exact ⟨g, rfl, k4, h2⟩)
  have H63 : Hid (∀ W r a c, DI w W r a c L (d4 L) → Calls Try.prog 63 #[.pointer (some ⟨r, 0, none⟩)] W fun e w' => e = .returned (.tuple #[.int .i64 (K.doneE L (d4 L)), .int .i64 (K.doneP L (d4 L))]) ∧ DI w w' r a c L (d4 L) ∧ Below W.heap.size W w') := fun W r a c h => (K.rdone_any W h.rd).mono (by
    rintro e w' ⟨rfl, m, rfl⟩
    exact ⟨rfl, h.below (K.below_drewN (Below.refl _ _) m), K.below_drewN (Below.refl _ _) m⟩)
  have HDO := Hid.mk' (fun h => dec_ok (L := L) h)
  have h8u : 0 ≤ dU L / 8 := by omega
  have e8 : (dU L : Int).tdiv 8 = ((dU L / 8 : Nat) : Int) := by rw [Int.tdiv_eq_ediv_of_nonneg (by omega)]; omega
  have e9 : (dU L : Int) / 8 = ((dU L / 8 : Nat) : Int) := by omega
  have hu8 : dU L / 8 ≤ 8192 := by omega
  have HU := Hid.mk' hu
  have HLD := Hid.mk' (fun W W1 b c2 => load_post (w := w) (W := W) (W1 := W1) (dU L) v b c2 (dR L))
  have HEM := Hid.mk' (fun W h0 hv => empty_any (dU L) v W hu h0 hv)
  have HD2 : Hid ((okB (dU L) = true → d2 L = d1 L) ∧ (okB (dU L) = false → d2 L = (d1 L).fl 2 0)) := ⟨fun h => if_pos h, fun h => if_neg (by rw [h]; simp)⟩
  have HD3 : Hid ((okP (dV L) = true → d3 L = d2b L) ∧ (okP (dV L) = false → d3 L = (d2b L).fl 2 ((d2 L).k : Int))) := ⟨fun h => if_pos h, fun h => if_neg (by rw [h]; simp)⟩
  have HD4 : Hid (((dR L).length = dU L / 8 → d4 L = d3b L) ∧ (¬ (dR L).length = dU L / 8 → d4 L = (d3b L).fl 21 ((d3 L).k : Int))) := ⟨fun h => if_pos h, fun h => if_neg h⟩
  have HRL : Hid ((dR L).length ≤ 9223372036854775807) := by
    show _ ≤ _
    unfold dR K.rRaw
    split
    · split
      · simp [K.cut]; omega
      · simp
    · simp
  have HHV := Hid.mk' hv
  clear hv hb ha h8u
  generalize d1 L = s1 at *
  generalize hk1 : (d2 L).k = k1 at *
  generalize hk2 : (d3 L).k = k2 at *
  have HK1 := Hid.mk' hk1
  have HK2 := Hid.mk' hk2
  clear hk1 hk2
  generalize hRR : dR L = R at *
  generalize hUU : dU L = u at *
  generalize d2 L = s2 at *
  generalize d2b L = s2b at *
  generalize d3 L = s3 at *
  generalize d3b L = s3b at *
  generalize d4 L = s4 at *
  generalize K.doneE L s4 = dE at *
  generalize K.doneP L s4 = dP at *
  generalize hb1 : okB u = b1 at *
  generalize hb2 : okP (dV L) = b2 at *
  have HRR := Hid.mk' hRR
  have HUU := Hid.mk' hUU
  clear hRR hUU
  generalize hnR : R.length = nR at *
  have HnR := Hid.mk' hnR
  have HB1 := Hid.mk' hb1
  have HB2 := Hid.mk' hb2
  generalize hu8e : u / 8 = u8 at *
  have HU8 := Hid.mk' hu8e
  clear hu8e
  have hRl := HRL.out
  clear hnR hb1 hb2 HRL
  have HFIN : Hid (dE = 0 → b1 = true ∧ b2 = true ∧ nR = u8) := fun h => ⟨(HDO.out h).1, (HDO.out h).2.1, (HDO.out h).2.2.1⟩
  clear HDO
  cases b1 with
  | false =>
    cases b2 with
    | false =>
      by_cases h3 : nR = u8
      · have E2 := Hid.mk' (HD2.out.2 rfl)
        have E3 := Hid.mk' (HD3.out.2 rfl)
        have E4 := Hid.mk' (HD4.out.1 h3)
        clear HD2 HD3 HD4
        obtain rfl := h3
        have hdE : ¬ dE = 0 := fun h => by have := (HFIN.out h).1; cases this
        have hdE' : (dE == 0) = false := by simp [hdE]
        clear HFIN HPO2 HB1 HB2 HHV
        go_enter Try.func29, Try.ntmps29
        go_wp2_with (first
          | (go_at_call 57; refine HN.out.mono ?_; clear HN; rintro e W0 ⟨r, a, c, rfl, t0⟩; have D0 := Hid.mk' t0; clear t0; have C58a := Hid.mk' (H58a.out _ _ _ _ D0.out); have C59 := Hid.mk' (H59.out _ _ _ _ D0.out))
          | (go_at_call 58; refine C58a.out.mono ?_; clear C58a; rintro e WX ⟨rfl, hw⟩; obtain rfl := hw.symm; clear hw)
          | (go_at_call 59; refine C59.out.mono ?_; clear C59; rintro e W1 ⟨rfl, t1⟩; have D1 := Hid.mk' t1; clear t1)
          | (go_at_call 46; refine (H46.out _).mono ?_; rintro e WX ⟨rfl, hw⟩; obtain rfl := hw.symm; clear hw; have F1 := Hid.mk' D1.out)
          | (go_at_call 60; refine (H60.out _ _ _ _ _ _ _ F1.out).mono ?_; clear F1; rintro e W2 ⟨rfl, t2⟩; rw [← E2.out] at t2; have D2 := Hid.mk' t2; clear t2; have C58b := Hid.mk' (H58.out _ _ _ _ _ k1 HK1.out D2.out); have C61 := Hid.mk' (H61.out _ _ _ _ D2.out))
          | (go_at_call 58; refine C58b.out.mono ?_; clear C58b; rintro e WX ⟨rfl, hw⟩; obtain rfl := hw.symm; clear hw)
          | (go_at_call 61; refine C61.out.mono ?_; clear C61; rintro e W3 ⟨rfl, t3⟩; have D2b := Hid.mk' t3; clear t3)
          | (go_at_call 47; refine (H47.out _).mono ?_; rintro e WX ⟨rfl, hw⟩; obtain rfl := hw.symm; clear hw; have F2 := Hid.mk' D2b.out)
          | (go_at_call 60; refine (H60.out _ _ _ _ _ _ _ F2.out).mono ?_; clear F2; rintro e W4 ⟨rfl, t4⟩; rw [← E3.out] at t4; have D3 := Hid.mk' t4; clear t4; have C58c := Hid.mk' (H58.out _ _ _ _ _ k2 HK2.out D3.out); have C62 := Hid.mk' (H62.out _ _ _ _ D3.out))
          | (go_at_call 58; refine C58c.out.mono ?_; clear C58c; rintro e WX ⟨rfl, hw⟩; obtain rfl := hw.symm; clear hw)
          | (go_at_call 62; refine C62.out.mono ?_; clear C62; rintro e W5 ⟨a2, c2, rfl, t5, y5⟩; clear y5; rw [← E4.out] at t5; have D4 := Hid.mk' t5; clear t5; have C63 := Hid.mk' (H63.out _ _ _ _ D4.out))
          | (go_at_call 63; refine C63.out.mono ?_; clear C63; rintro e W7 ⟨rfl, t7, l7⟩; have D5 := Hid.mk' t7; have L7 := Hid.mk' l7; clear t7 l7)
          | fail)
        go_ret3
        exact HPO.out _ D5.out.be hdE
      · have E2 := Hid.mk' (HD2.out.2 rfl)
        have E3 := Hid.mk' (HD3.out.2 rfl)
        have E4 := Hid.mk' (HD4.out.2 h3)
        clear HD2 HD3 HD4
        have h3' : ¬ (nR : Int) = (u8 : Int) := by omega
        have h3'' : ((nR : Int) == (u8 : Int)) = false := by simp; omega
        have hdE : ¬ dE = 0 := fun h => by have := (HFIN.out h).1; cases this
        have hdE' : (dE == 0) = false := by simp [hdE]
        clear HFIN HPO2 HB1 HB2 HHV
        go_enter Try.func29, Try.ntmps29
        go_wp2_with (first
          | (go_at_call 57; refine HN.out.mono ?_; clear HN; rintro e W0 ⟨r, a, c, rfl, t0⟩; have D0 := Hid.mk' t0; clear t0; have C58a := Hid.mk' (H58a.out _ _ _ _ D0.out); have C59 := Hid.mk' (H59.out _ _ _ _ D0.out))
          | (go_at_call 58; refine C58a.out.mono ?_; clear C58a; rintro e WX ⟨rfl, hw⟩; obtain rfl := hw.symm; clear hw)
          | (go_at_call 59; refine C59.out.mono ?_; clear C59; rintro e W1 ⟨rfl, t1⟩; have D1 := Hid.mk' t1; clear t1)
          | (go_at_call 46; refine (H46.out _).mono ?_; rintro e WX ⟨rfl, hw⟩; obtain rfl := hw.symm; clear hw; have F1 := Hid.mk' D1.out)
          | (go_at_call 60; refine (H60.out _ _ _ _ _ _ _ F1.out).mono ?_; clear F1; rintro e W2 ⟨rfl, t2⟩; rw [← E2.out] at t2; have D2 := Hid.mk' t2; clear t2; have C58b := Hid.mk' (H58.out _ _ _ _ _ k1 HK1.out D2.out); have C61 := Hid.mk' (H61.out _ _ _ _ D2.out))
          | (go_at_call 58; refine C58b.out.mono ?_; clear C58b; rintro e WX ⟨rfl, hw⟩; obtain rfl := hw.symm; clear hw)
          | (go_at_call 61; refine C61.out.mono ?_; clear C61; rintro e W3 ⟨rfl, t3⟩; have D2b := Hid.mk' t3; clear t3)
          | (go_at_call 47; refine (H47.out _).mono ?_; rintro e WX ⟨rfl, hw⟩; obtain rfl := hw.symm; clear hw; have F2 := Hid.mk' D2b.out)
          | (go_at_call 60; refine (H60.out _ _ _ _ _ _ _ F2.out).mono ?_; clear F2; rintro e W4 ⟨rfl, t4⟩; rw [← E3.out] at t4; have D3 := Hid.mk' t4; clear t4; have C58c := Hid.mk' (H58.out _ _ _ _ _ k2 HK2.out D3.out); have C62 := Hid.mk' (H62.out _ _ _ _ D3.out))
          | (go_at_call 58; refine C58c.out.mono ?_; clear C58c; rintro e WX ⟨rfl, hw⟩; obtain rfl := hw.symm; clear hw)
          | (go_at_call 62; refine C62.out.mono ?_; clear C62; rintro e W5 ⟨a2, c2, rfl, t5, y5⟩; clear y5; have F3 := Hid.mk' t5; clear t5)
          | (go_at_call 60; refine (H60.out _ _ _ _ _ _ _ F3.out).mono ?_; clear F3; rintro e W6 ⟨rfl, t6⟩; rw [← E4.out] at t6; have D4 := Hid.mk' t6; clear t6; have C63 := Hid.mk' (H63.out _ _ _ _ D4.out))
          | (go_at_call 63; refine C63.out.mono ?_; clear C63; rintro e W7 ⟨rfl, t7, l7⟩; have D5 := Hid.mk' t7; have L7 := Hid.mk' l7; clear t7 l7)
          | fail)
        go_ret3
        exact HPO.out _ D5.out.be hdE
    | true =>
      by_cases h3 : nR = u8
      · have E2 := Hid.mk' (HD2.out.2 rfl)
        have E3 := Hid.mk' (HD3.out.1 rfl)
        have E4 := Hid.mk' (HD4.out.1 h3)
        clear HD2 HD3 HD4
        obtain rfl := h3
        have hdE : ¬ dE = 0 := fun h => by have := (HFIN.out h).1; cases this
        have hdE' : (dE == 0) = false := by simp [hdE]
        clear HFIN HPO2 HB1 HB2 HHV
        go_enter Try.func29, Try.ntmps29
        go_wp2_with (first
          | (go_at_call 57; refine HN.out.mono ?_; clear HN; rintro e W0 ⟨r, a, c, rfl, t0⟩; have D0 := Hid.mk' t0; clear t0; have C58a := Hid.mk' (H58a.out _ _ _ _ D0.out); have C59 := Hid.mk' (H59.out _ _ _ _ D0.out))
          | (go_at_call 58; refine C58a.out.mono ?_; clear C58a; rintro e WX ⟨rfl, hw⟩; obtain rfl := hw.symm; clear hw)
          | (go_at_call 59; refine C59.out.mono ?_; clear C59; rintro e W1 ⟨rfl, t1⟩; have D1 := Hid.mk' t1; clear t1)
          | (go_at_call 46; refine (H46.out _).mono ?_; rintro e WX ⟨rfl, hw⟩; obtain rfl := hw.symm; clear hw; have F1 := Hid.mk' D1.out)
          | (go_at_call 60; refine (H60.out _ _ _ _ _ _ _ F1.out).mono ?_; clear F1; rintro e W2 ⟨rfl, t2⟩; rw [← E2.out] at t2; have D2 := Hid.mk' t2; clear t2; have C58b := Hid.mk' (H58.out _ _ _ _ _ k1 HK1.out D2.out); have C61 := Hid.mk' (H61.out _ _ _ _ D2.out))
          | (go_at_call 58; refine C58b.out.mono ?_; clear C58b; rintro e WX ⟨rfl, hw⟩; obtain rfl := hw.symm; clear hw)
          | (go_at_call 61; refine C61.out.mono ?_; clear C61; rintro e W3 ⟨rfl, t3⟩; have D2b := Hid.mk' t3; clear t3)
          | (go_at_call 47; refine (H47.out _).mono ?_; rintro e WX ⟨rfl, hw⟩; obtain rfl := hw.symm; clear hw; have t3 := D2b.out; rw [← E3.out] at t3; have D3 := Hid.mk' t3; clear t3; have C58c := Hid.mk' (H58.out _ _ _ _ _ k2 HK2.out D3.out); have C62 := Hid.mk' (H62.out _ _ _ _ D3.out))
          | (go_at_call 58; refine C58c.out.mono ?_; clear C58c; rintro e WX ⟨rfl, hw⟩; obtain rfl := hw.symm; clear hw)
          | (go_at_call 62; refine C62.out.mono ?_; clear C62; rintro e W5 ⟨a2, c2, rfl, t5, y5⟩; clear y5; rw [← E4.out] at t5; have D4 := Hid.mk' t5; clear t5; have C63 := Hid.mk' (H63.out _ _ _ _ D4.out))
          | (go_at_call 63; refine C63.out.mono ?_; clear C63; rintro e W7 ⟨rfl, t7, l7⟩; have D5 := Hid.mk' t7; have L7 := Hid.mk' l7; clear t7 l7)
          | fail)
        go_ret3
        exact HPO.out _ D5.out.be hdE
      · have E2 := Hid.mk' (HD2.out.2 rfl)
        have E3 := Hid.mk' (HD3.out.1 rfl)
        have E4 := Hid.mk' (HD4.out.2 h3)
        clear HD2 HD3 HD4
        have h3' : ¬ (nR : Int) = (u8 : Int) := by omega
        have h3'' : ((nR : Int) == (u8 : Int)) = false := by simp; omega
        have hdE : ¬ dE = 0 := fun h => by have := (HFIN.out h).1; cases this
        have hdE' : (dE == 0) = false := by simp [hdE]
        clear HFIN HPO2 HB1 HB2 HHV
        go_enter Try.func29, Try.ntmps29
        go_wp2_with (first
          | (go_at_call 57; refine HN.out.mono ?_; clear HN; rintro e W0 ⟨r, a, c, rfl, t0⟩; have D0 := Hid.mk' t0; clear t0; have C58a := Hid.mk' (H58a.out _ _ _ _ D0.out); have C59 := Hid.mk' (H59.out _ _ _ _ D0.out))
          | (go_at_call 58; refine C58a.out.mono ?_; clear C58a; rintro e WX ⟨rfl, hw⟩; obtain rfl := hw.symm; clear hw)
          | (go_at_call 59; refine C59.out.mono ?_; clear C59; rintro e W1 ⟨rfl, t1⟩; have D1 := Hid.mk' t1; clear t1)
          | (go_at_call 46; refine (H46.out _).mono ?_; rintro e WX ⟨rfl, hw⟩; obtain rfl := hw.symm; clear hw; have F1 := Hid.mk' D1.out)
          | (go_at_call 60; refine (H60.out _ _ _ _ _ _ _ F1.out).mono ?_; clear F1; rintro e W2 ⟨rfl, t2⟩; rw [← E2.out] at t2; have D2 := Hid.mk' t2; clear t2; have C58b := Hid.mk' (H58.out _ _ _ _ _ k1 HK1.out D2.out); have C61 := Hid.mk' (H61.out _ _ _ _ D2.out))
          | (go_at_call 58; refine C58b.out.mono ?_; clear C58b; rintro e WX ⟨rfl, hw⟩; obtain rfl := hw.symm; clear hw)
          | (go_at_call 61; refine C61.out.mono ?_; clear C61; rintro e W3 ⟨rfl, t3⟩; have D2b := Hid.mk' t3; clear t3)
          | (go_at_call 47; refine (H47.out _).mono ?_; rintro e WX ⟨rfl, hw⟩; obtain rfl := hw.symm; clear hw; have t3 := D2b.out; rw [← E3.out] at t3; have D3 := Hid.mk' t3; clear t3; have C58c := Hid.mk' (H58.out _ _ _ _ _ k2 HK2.out D3.out); have C62 := Hid.mk' (H62.out _ _ _ _ D3.out))
          | (go_at_call 58; refine C58c.out.mono ?_; clear C58c; rintro e WX ⟨rfl, hw⟩; obtain rfl := hw.symm; clear hw)
          | (go_at_call 62; refine C62.out.mono ?_; clear C62; rintro e W5 ⟨a2, c2, rfl, t5, y5⟩; clear y5; have F3 := Hid.mk' t5; clear t5)
          | (go_at_call 60; refine (H60.out _ _ _ _ _ _ _ F3.out).mono ?_; clear F3; rintro e W6 ⟨rfl, t6⟩; rw [← E4.out] at t6; have D4 := Hid.mk' t6; clear t6; have C63 := Hid.mk' (H63.out _ _ _ _ D4.out))
          | (go_at_call 63; refine C63.out.mono ?_; clear C63; rintro e W7 ⟨rfl, t7, l7⟩; have D5 := Hid.mk' t7; have L7 := Hid.mk' l7; clear t7 l7)
          | fail)
        go_ret3
        exact HPO.out _ D5.out.be hdE
  | true =>
    cases b2 with
    | false =>
      by_cases h3 : nR = u8
      · have E2 := Hid.mk' (HD2.out.1 rfl)
        have E3 := Hid.mk' (HD3.out.2 rfl)
        have E4 := Hid.mk' (HD4.out.1 h3)
        clear HD2 HD3 HD4
        obtain rfl := h3
        have hdE : ¬ dE = 0 := fun h => by have := (HFIN.out h).2.1; cases this
        have hdE' : (dE == 0) = false := by simp [hdE]
        clear HFIN HPO2 HB1 HB2 HHV
        go_enter Try.func29, Try.ntmps29
        go_wp2_with (first
          | (go_at_call 57; refine HN.out.mono ?_; clear HN; rintro e W0 ⟨r, a, c, rfl, t0⟩; have D0 := Hid.mk' t0; clear t0; have C58a := Hid.mk' (H58a.out _ _ _ _ D0.out); have C59 := Hid.mk' (H59.out _ _ _ _ D0.out))
          | (go_at_call 58; refine C58a.out.mono ?_; clear C58a; rintro e WX ⟨rfl, hw⟩; obtain rfl := hw.symm; clear hw)
          | (go_at_call 59; refine C59.out.mono ?_; clear C59; rintro e W1 ⟨rfl, t1⟩; have D1 := Hid.mk' t1; clear t1)
          | (go_at_call 46; refine (H46.out _).mono ?_; rintro e WX ⟨rfl, hw⟩; obtain rfl := hw.symm; clear hw; have t2 := D1.out; rw [← E2.out] at t2; have D2 := Hid.mk' t2; clear t2; have C58b := Hid.mk' (H58.out _ _ _ _ _ k1 HK1.out D2.out); have C61 := Hid.mk' (H61.out _ _ _ _ D2.out))
          | (go_at_call 58; refine C58b.out.mono ?_; clear C58b; rintro e WX ⟨rfl, hw⟩; obtain rfl := hw.symm; clear hw)
          | (go_at_call 61; refine C61.out.mono ?_; clear C61; rintro e W3 ⟨rfl, t3⟩; have D2b := Hid.mk' t3; clear t3)
          | (go_at_call 47; refine (H47.out _).mono ?_; rintro e WX ⟨rfl, hw⟩; obtain rfl := hw.symm; clear hw; have F2 := Hid.mk' D2b.out)
          | (go_at_call 60; refine (H60.out _ _ _ _ _ _ _ F2.out).mono ?_; clear F2; rintro e W4 ⟨rfl, t4⟩; rw [← E3.out] at t4; have D3 := Hid.mk' t4; clear t4; have C58c := Hid.mk' (H58.out _ _ _ _ _ k2 HK2.out D3.out); have C62 := Hid.mk' (H62.out _ _ _ _ D3.out))
          | (go_at_call 58; refine C58c.out.mono ?_; clear C58c; rintro e WX ⟨rfl, hw⟩; obtain rfl := hw.symm; clear hw)
          | (go_at_call 62; refine C62.out.mono ?_; clear C62; rintro e W5 ⟨a2, c2, rfl, t5, y5⟩; clear y5; rw [← E4.out] at t5; have D4 := Hid.mk' t5; clear t5; have C63 := Hid.mk' (H63.out _ _ _ _ D4.out))
          | (go_at_call 63; refine C63.out.mono ?_; clear C63; rintro e W7 ⟨rfl, t7, l7⟩; have D5 := Hid.mk' t7; have L7 := Hid.mk' l7; clear t7 l7)
          | fail)
        go_ret3
        exact HPO.out _ D5.out.be hdE
      · have E2 := Hid.mk' (HD2.out.1 rfl)
        have E3 := Hid.mk' (HD3.out.2 rfl)
        have E4 := Hid.mk' (HD4.out.2 h3)
        clear HD2 HD3 HD4
        have h3' : ¬ (nR : Int) = (u8 : Int) := by omega
        have h3'' : ((nR : Int) == (u8 : Int)) = false := by simp; omega
        have hdE : ¬ dE = 0 := fun h => by have := (HFIN.out h).2.1; cases this
        have hdE' : (dE == 0) = false := by simp [hdE]
        clear HFIN HPO2 HB1 HB2 HHV
        go_enter Try.func29, Try.ntmps29
        go_wp2_with (first
          | (go_at_call 57; refine HN.out.mono ?_; clear HN; rintro e W0 ⟨r, a, c, rfl, t0⟩; have D0 := Hid.mk' t0; clear t0; have C58a := Hid.mk' (H58a.out _ _ _ _ D0.out); have C59 := Hid.mk' (H59.out _ _ _ _ D0.out))
          | (go_at_call 58; refine C58a.out.mono ?_; clear C58a; rintro e WX ⟨rfl, hw⟩; obtain rfl := hw.symm; clear hw)
          | (go_at_call 59; refine C59.out.mono ?_; clear C59; rintro e W1 ⟨rfl, t1⟩; have D1 := Hid.mk' t1; clear t1)
          | (go_at_call 46; refine (H46.out _).mono ?_; rintro e WX ⟨rfl, hw⟩; obtain rfl := hw.symm; clear hw; have t2 := D1.out; rw [← E2.out] at t2; have D2 := Hid.mk' t2; clear t2; have C58b := Hid.mk' (H58.out _ _ _ _ _ k1 HK1.out D2.out); have C61 := Hid.mk' (H61.out _ _ _ _ D2.out))
          | (go_at_call 58; refine C58b.out.mono ?_; clear C58b; rintro e WX ⟨rfl, hw⟩; obtain rfl := hw.symm; clear hw)
          | (go_at_call 61; refine C61.out.mono ?_; clear C61; rintro e W3 ⟨rfl, t3⟩; have D2b := Hid.mk' t3; clear t3)
          | (go_at_call 47; refine (H47.out _).mono ?_; rintro e WX ⟨rfl, hw⟩; obtain rfl := hw.symm; clear hw; have F2 := Hid.mk' D2b.out)
          | (go_at_call 60; refine (H60.out _ _ _ _ _ _ _ F2.out).mono ?_; clear F2; rintro e W4 ⟨rfl, t4⟩; rw [← E3.out] at t4; have D3 := Hid.mk' t4; clear t4; have C58c := Hid.mk' (H58.out _ _ _ _ _ k2 HK2.out D3.out); have C62 := Hid.mk' (H62.out _ _ _ _ D3.out))
          | (go_at_call 58; refine C58c.out.mono ?_; clear C58c; rintro e WX ⟨rfl, hw⟩; obtain rfl := hw.symm; clear hw)
          | (go_at_call 62; refine C62.out.mono ?_; clear C62; rintro e W5 ⟨a2, c2, rfl, t5, y5⟩; clear y5; have F3 := Hid.mk' t5; clear t5)
          | (go_at_call 60; refine (H60.out _ _ _ _ _ _ _ F3.out).mono ?_; clear F3; rintro e W6 ⟨rfl, t6⟩; rw [← E4.out] at t6; have D4 := Hid.mk' t6; clear t6; have C63 := Hid.mk' (H63.out _ _ _ _ D4.out))
          | (go_at_call 63; refine C63.out.mono ?_; clear C63; rintro e W7 ⟨rfl, t7, l7⟩; have D5 := Hid.mk' t7; have L7 := Hid.mk' l7; clear t7 l7)
          | fail)
        go_ret3
        exact HPO.out _ D5.out.be hdE
    | true =>
      by_cases h3 : nR = u8
      · have E2 := Hid.mk' (HD2.out.1 rfl)
        have E3 := Hid.mk' (HD3.out.1 rfl)
        have E4 := Hid.mk' (HD4.out.1 h3)
        clear HD2 HD3 HD4
        obtain rfl := h3
        by_cases hdE : dE = 0
        · subst hdE
          have hb1 := of_decide_eq_true HB1.out
          have hb2 := of_decide_eq_true HB2.out
          rw [HHV.out] at hb2
          have hug : 8 ≤ u := hb1.1
          have hu0 : 0 < u := by omega
          have hv16 : v ≤ 16 := by omega
          have hpos : 0 < nR := by have := HU8.out; omega
          clear hb1 hb2 HFIN HPO HB1 HB2 HHV
          go_enter Try.func29, Try.ntmps29
          go_wp2_with (first
            | (go_at_call 57; refine HN.out.mono ?_; clear HN; rintro e W0 ⟨r, a, c, rfl, t0⟩; have D0 := Hid.mk' t0; clear t0; have C58a := Hid.mk' (H58a.out _ _ _ _ D0.out); have C59 := Hid.mk' (H59.out _ _ _ _ D0.out))
            | (go_at_call 58; refine C58a.out.mono ?_; clear C58a; rintro e WX ⟨rfl, hw⟩; obtain rfl := hw.symm; clear hw)
            | (go_at_call 59; refine C59.out.mono ?_; clear C59; rintro e W1 ⟨rfl, t1⟩; have D1 := Hid.mk' t1; clear t1)
            | (go_at_call 46; refine (H46.out _).mono ?_; rintro e WX ⟨rfl, hw⟩; obtain rfl := hw.symm; clear hw; have t2 := D1.out; rw [← E2.out] at t2; have D2 := Hid.mk' t2; clear t2; have C58b := Hid.mk' (H58.out _ _ _ _ _ k1 HK1.out D2.out); have C61 := Hid.mk' (H61.out _ _ _ _ D2.out))
            | (go_at_call 58; refine C58b.out.mono ?_; clear C58b; rintro e WX ⟨rfl, hw⟩; obtain rfl := hw.symm; clear hw)
            | (go_at_call 61; refine C61.out.mono ?_; clear C61; rintro e W3 ⟨rfl, t3⟩; have D2b := Hid.mk' t3; clear t3)
            | (go_at_call 47; refine (H47.out _).mono ?_; rintro e WX ⟨rfl, hw⟩; obtain rfl := hw.symm; clear hw; have t3 := D2b.out; rw [← E3.out] at t3; have D3 := Hid.mk' t3; clear t3; have C58c := Hid.mk' (H58.out _ _ _ _ _ k2 HK2.out D3.out); have C62 := Hid.mk' (H62.out _ _ _ _ D3.out))
            | (go_at_call 58; refine C58c.out.mono ?_; clear C58c; rintro e WX ⟨rfl, hw⟩; obtain rfl := hw.symm; clear hw)
            | (go_at_call 62; refine C62.out.mono ?_; clear C62; rintro e W5 ⟨a2, c2, rfl, t5, y5⟩; obtain ⟨b, hab, hbl, hby⟩ := y5 hpos; obtain rfl := hab.symm; clear hab y5; have Y5 := Hid.mk' hby; have YL := Hid.mk' hbl; clear hby hbl; rw [← E4.out] at t5; have D4 := Hid.mk' t5; clear t5; have C63 := Hid.mk' (H63.out _ _ _ _ D4.out))
            | (go_at_call 63; refine C63.out.mono ?_; clear C63; rintro e W7 ⟨rfl, t7, l7⟩; have D5 := Hid.mk' t7; have L7 := Hid.mk' l7; clear t7 l7)
            | (go_at_call 40; refine (HEM.out _ hu0 hv16).mono ?_; rintro e W8 ⟨rfl, fc, wr, b8, lt8⟩; have c8 := fc.c2; have CL := Hid.mk' (HLD.out _ _ b c2 D5.out.be b8 fc wr hug HU.out (by first | trivial | rfl) (by have := YL.out; have := L7.out.size; omega) (K.byt_below Y5.out L7.out)); clear fc wr b8)
            | (go_at_call 64; refine CL.out.mono ?_; clear CL; rintro e W9 ⟨rfl, f9, b9⟩; have F9 := Hid.mk' f9; have B9 := Hid.mk' b9; clear f9 b9)
            | fail)
          go_ret3
          exact HPO2.out _ _ _ (by first | trivial | rfl) B9.out (HU8.out ▸ F9.out)
        · have hdE' : (dE == 0) = false := by simp [hdE]
          clear HFIN HPO2 HB1 HB2 HHV
          go_enter Try.func29, Try.ntmps29
          go_wp2_with (first
            | (go_at_call 57; refine HN.out.mono ?_; clear HN; rintro e W0 ⟨r, a, c, rfl, t0⟩; have D0 := Hid.mk' t0; clear t0; have C58a := Hid.mk' (H58a.out _ _ _ _ D0.out); have C59 := Hid.mk' (H59.out _ _ _ _ D0.out))
            | (go_at_call 58; refine C58a.out.mono ?_; clear C58a; rintro e WX ⟨rfl, hw⟩; obtain rfl := hw.symm; clear hw)
            | (go_at_call 59; refine C59.out.mono ?_; clear C59; rintro e W1 ⟨rfl, t1⟩; have D1 := Hid.mk' t1; clear t1)
            | (go_at_call 46; refine (H46.out _).mono ?_; rintro e WX ⟨rfl, hw⟩; obtain rfl := hw.symm; clear hw; have t2 := D1.out; rw [← E2.out] at t2; have D2 := Hid.mk' t2; clear t2; have C58b := Hid.mk' (H58.out _ _ _ _ _ k1 HK1.out D2.out); have C61 := Hid.mk' (H61.out _ _ _ _ D2.out))
            | (go_at_call 58; refine C58b.out.mono ?_; clear C58b; rintro e WX ⟨rfl, hw⟩; obtain rfl := hw.symm; clear hw)
            | (go_at_call 61; refine C61.out.mono ?_; clear C61; rintro e W3 ⟨rfl, t3⟩; have D2b := Hid.mk' t3; clear t3)
            | (go_at_call 47; refine (H47.out _).mono ?_; rintro e WX ⟨rfl, hw⟩; obtain rfl := hw.symm; clear hw; have t3 := D2b.out; rw [← E3.out] at t3; have D3 := Hid.mk' t3; clear t3; have C58c := Hid.mk' (H58.out _ _ _ _ _ k2 HK2.out D3.out); have C62 := Hid.mk' (H62.out _ _ _ _ D3.out))
            | (go_at_call 58; refine C58c.out.mono ?_; clear C58c; rintro e WX ⟨rfl, hw⟩; obtain rfl := hw.symm; clear hw)
            | (go_at_call 62; refine C62.out.mono ?_; clear C62; rintro e W5 ⟨a2, c2, rfl, t5, y5⟩; clear y5; rw [← E4.out] at t5; have D4 := Hid.mk' t5; clear t5; have C63 := Hid.mk' (H63.out _ _ _ _ D4.out))
            | (go_at_call 63; refine C63.out.mono ?_; clear C63; rintro e W7 ⟨rfl, t7, l7⟩; have D5 := Hid.mk' t7; have L7 := Hid.mk' l7; clear t7 l7)
            | fail)
          go_ret3
          exact HPO.out _ D5.out.be hdE
      · have E2 := Hid.mk' (HD2.out.1 rfl)
        have E3 := Hid.mk' (HD3.out.1 rfl)
        have E4 := Hid.mk' (HD4.out.2 h3)
        clear HD2 HD3 HD4
        have h3' : ¬ (nR : Int) = (u8 : Int) := by omega
        have h3'' : ((nR : Int) == (u8 : Int)) = false := by simp; omega
        have hdE : ¬ dE = 0 := fun h => h3 (HFIN.out h).2.2
        have hdE' : (dE == 0) = false := by simp [hdE]
        clear HFIN HPO2 HB1 HB2 HHV
        go_enter Try.func29, Try.ntmps29
        go_wp2_with (first
          | (go_at_call 57; refine HN.out.mono ?_; clear HN; rintro e W0 ⟨r, a, c, rfl, t0⟩; have D0 := Hid.mk' t0; clear t0; have C58a := Hid.mk' (H58a.out _ _ _ _ D0.out); have C59 := Hid.mk' (H59.out _ _ _ _ D0.out))
          | (go_at_call 58; refine C58a.out.mono ?_; clear C58a; rintro e WX ⟨rfl, hw⟩; obtain rfl := hw.symm; clear hw)
          | (go_at_call 59; refine C59.out.mono ?_; clear C59; rintro e W1 ⟨rfl, t1⟩; have D1 := Hid.mk' t1; clear t1)
          | (go_at_call 46; refine (H46.out _).mono ?_; rintro e WX ⟨rfl, hw⟩; obtain rfl := hw.symm; clear hw; have t2 := D1.out; rw [← E2.out] at t2; have D2 := Hid.mk' t2; clear t2; have C58b := Hid.mk' (H58.out _ _ _ _ _ k1 HK1.out D2.out); have C61 := Hid.mk' (H61.out _ _ _ _ D2.out))
          | (go_at_call 58; refine C58b.out.mono ?_; clear C58b; rintro e WX ⟨rfl, hw⟩; obtain rfl := hw.symm; clear hw)
          | (go_at_call 61; refine C61.out.mono ?_; clear C61; rintro e W3 ⟨rfl, t3⟩; have D2b := Hid.mk' t3; clear t3)
          | (go_at_call 47; refine (H47.out _).mono ?_; rintro e WX ⟨rfl, hw⟩; obtain rfl := hw.symm; clear hw; have t3 := D2b.out; rw [← E3.out] at t3; have D3 := Hid.mk' t3; clear t3; have C58c := Hid.mk' (H58.out _ _ _ _ _ k2 HK2.out D3.out); have C62 := Hid.mk' (H62.out _ _ _ _ D3.out))
          | (go_at_call 58; refine C58c.out.mono ?_; clear C58c; rintro e WX ⟨rfl, hw⟩; obtain rfl := hw.symm; clear hw)
          | (go_at_call 62; refine C62.out.mono ?_; clear C62; rintro e W5 ⟨a2, c2, rfl, t5, y5⟩; clear y5; have F3 := Hid.mk' t5; clear t5)
          | (go_at_call 60; refine (H60.out _ _ _ _ _ _ _ F3.out).mono ?_; clear F3; rintro e W6 ⟨rfl, t6⟩; rw [← E4.out] at t6; have D4 := Hid.mk' t6; clear t6; have C63 := Hid.mk' (H63.out _ _ _ _ D4.out))
          | (go_at_call 63; refine C63.out.mono ?_; clear C63; rintro e W7 ⟨rfl, t7, l7⟩; have D5 := Hid.mk' t7; have L7 := Hid.mk' l7; clear t7 l7)
          | fail)
        go_ret3
        exact HPO.out _ D5.out.be hdE
end Go.Proofs.Ytdajeabhhkgibaa
