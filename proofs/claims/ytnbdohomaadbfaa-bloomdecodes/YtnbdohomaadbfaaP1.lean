import Derived.Test.YtnbdohomaadbfaaP0
namespace Go.Proofs.Ytnbdohomaadbfaa
open Go.RowKit
set_option linter.unusedVariables false
set_option linter.unusedSimpArgs false

namespace K
set_option maxRecDepth 100000 in
set_option maxHeartbeats 1000000 in
theorem qnew_x (a : Option Addr) (l : List UInt8) (n cap : Nat) (w : World) (hl : l.length = n) (hb : Byt w a l) (hn : n ≤ 140737488351232) :
    Calls Try.prog 65 #[.slice a n cap] w fun e w' => ∃ r a c, e = .returned (.pointer (some ⟨r, 0, none⟩)) ∧ RD w' 148 r a c l ⟨0, 0, 0⟩ ∧ w.heap.size ≤ r ∧ r < w'.heap.size ∧ (∀ ad, a = some ad → w.heap.size ≤ ad.block ∧ ad.block < w'.heap.size) ∧ Below w.heap.size w w' := by
  have O0 := Hid.mk' (own0 w)
  have B0 := Hid.mk' (byt_below hb (below0 w))
  have S0 : Hid (([] : List UInt8).length + l.length ≤ 140737488355328) := by show _ ≤ _; simp; omega
  have Z0 := Hid.mk' (below0 w).size
  clear hb
  go_enter Try.func65, Try.ntmps65
  go_wp2_with (first | (at_builtin; refine wpList_app rfl (.tmp 3) (.tmp 4) rfl w.heap.size (.slice (some ⟨w.heap.size, 0, none⟩) 0 0) [] rfl O0.out a n cap l rfl hl B0.out S0.out Z0.out ?_) | fail)
  intro v w1 own1 gr1
  have own1' : OwnB w1 w.heap.size v l := by simpa using own1
  have b1 : Below w.heap.size w w1 := (below0 w).grown gr1 Z0.out (fun k hk => (World.ownsRow.lt O0.out k hk).1)
  obtain ⟨a2, c2, rfl, rd, hp⟩ := rd_of_own (w := w1) (T := 148) own1' (by omega)
  have z1 := b1.size
  obtain ⟨W, hW⟩ : ∃ W, W = w1.alloc (.cells #[.slice a2 l.length c2, .int .i64 0, .int .i64 0, .int .i64 0] 148) := ⟨_, rfl⟩
  rw [← hW] at rd
  have HRD := Hid.mk' rd
  have ZW : Hid (w1.heap.size < W.heap.size) := by show _ < _; rw [hW]; simp
  have B2 : Hid (Below w.heap.size w W) := by show Below _ _ _; rw [hW]; exact b1.alloc (by omega) _
  have HP : Hid (∀ ad, a2 = some ad → w.heap.size ≤ ad.block ∧ ad.block < W.heap.size) := fun ad e => ⟨(hp ad e).1, by have := (hp ad e).2; have := ZW.out; omega⟩
  rw [hl] at hW
  have HW := Hid.mk' hW
  clear own1 own1' rd hp b1 gr1 O0 B0 S0 Z0 hW
  go_wp2
  rw [← HW.out]
  go_ret
  exact ⟨_, a2, c2, rfl, HRD.out, z1, ZW.out, HP.out, B2.out⟩
end K
/-- The document's Reader that was made since. -/
structure DJ (w W : World) (r : Nat) (a : Option Addr) (c : Nat) (L : List UInt8) (s : K.St) : Prop where
  rd : K.RD W 148 r a c L s
  be : Below w.heap.size w W
  le : w.heap.size ≤ r
theorem DJ.on {w W W' : World} {r c : Nat} {a : Option Addr} {L : List UInt8} {s s' : K.St} (h : DJ w W r a c L s) (o : K.On W W' 148 r a c L s') : DJ w W' r a c L s' :=
  ⟨o.1, h.be.trans (o.2.below _ h.le h.be.size), h.le⟩
theorem DJ.below {w W W' : World} {r c : Nat} {a : Option Addr} {L : List UInt8} {s : K.St} (h : DJ w W r a c L s) (b : Below W.heap.size W W') : DJ w W' r a c L s :=
  ⟨h.rd.below b, h.be.trans (b.mono h.be.size), h.le⟩
/-- What NewReader tells. -/
def RjPost (L : List UInt8) (w : World) (e : Ending) (w' : World) : Prop := ∃ r a c, e = .returned (.pointer (some ⟨r, 0, none⟩)) ∧ DJ w w' r a c L d0
/-- A filter of the document's beside a Reader. -/
structure RK (w W : World) (q g u v r : Nat) : Prop where
  rw : RW W q g u v (fun _ => false)
  nq : q ≠ r
  ng : g ≠ r
  lq : w.heap.size ≤ q
  lg : w.heap.size ≤ g
theorem RK.on {w W W' : World} {q g u v r c : Nat} {a : Option Addr} {L : List UInt8} {s : K.St} (h : RK w W q g u v r) (o : K.On W W' 148 r a c L s) : RK w W' q g u v r :=
  ⟨h.rw.of (o.2.block q h.rw.rc.lt h.nq) (o.2.block g h.rw.rb.lt h.ng), h.nq, h.ng, h.lq, h.lg⟩
/-- What New tells. -/
def RnPost (w : World) (W : World) (u v r : Nat) (e : Ending) (w' : World) : Prop := ∃ q g, e = .returned (.tuple #[.pointer (some ⟨q, 0, none⟩), .int .i64 0]) ∧ RK w w' q g u v r ∧ Below W.heap.size W w'
/-- What Raw tells. -/
def RvPost (W : World) (r : Nat) (a : Option Addr) (c : Nat) (L R : List UInt8) (n : Nat) (s : K.St) (e : Ending) (w' : World) : Prop := ∃ a2 c2, e = .returned (.slice a2 n c2) ∧ K.On W w' 148 r a c L s ∧ (0 < n → ∃ b, a2 = some ⟨b, 0, none⟩ ∧ K.Byt w' a2 R ∧ b < w'.heap.size ∧ b ≠ r ∧ ∀ g bits f, RB w' g bits f → b ≠ g)
/-- What the document's Decode tells. -/
def RcPost (L : List UInt8) (w : World) (e : Ending) (w' : World) : Prop := Below w.heap.size w w' ∧ ((K.doneE L (d4 L) ≠ 0 ∧ e = .returned (.tuple #[.pointer none, .int .i64 (K.doneE L (d4 L)), .int .i64 (K.doneP L (d4 L))])) ∨ (K.doneE L (d4 L) = 0 ∧ ∃ q g v : Nat, dV L = (v : Int) ∧ e = .returned (.tuple #[.pointer (some ⟨q, 0, none⟩), .int .i64 0, .int .i64 0]) ∧ RW w' q g (dU L) v (bitAt (ldF (dR L) (dU L / 8)))))
theorem own_ne {W : World} {base b n c : Nat} {R : List UInt8} (h : K.OwnB W base (.slice (some ⟨b, 0, none⟩) n c) R) {g bits : Nat} {f : Nat → Bool} (hg : RB W g bits f) : b ≠ g := by
  rintro rfl
  rcases h.2 with ⟨e, _⟩ | ⟨g', cap, cur, e, _, hb, _⟩
  · cases e
  · cases e
    obtain ⟨x, hx, _⟩ := hg
    rw [hb] at hx
    cases hx
theorem own_nr {W : World} {base b n c r cap : Nat} {a : Option Addr} {L R : List UInt8} {s : K.St} (h : K.OwnB W base (.slice (some ⟨b, 0, none⟩) n c) R) (hr : K.RD W 148 r a cap L s) : b ≠ r := by
  rintro rfl
  rcases h.2 with ⟨e, _⟩ | ⟨g', cap, cur, e, _, hb, _⟩
  · cases e
  · cases e
    have hx := hr.row
    rw [hb] at hx
    cases hx
theorem okP_zero : okP 0 = false := by decide
theorem d3_bad {L : List UInt8} (h : okB (dU L) = false) : okP (dV L) = false := by
  have e : d2 L = (d1 L).fl 2 0 := if_neg (by rw [h]; simp)
  have hb : ¬ (d2 L).bad = 0 := by rw [e]; exact fl_bad_ne _ _ _ (by omega)
  unfold dV K.rByte
  rw [if_neg hb]
  exact okP_zero
theorem done_eq (L : List UInt8) (s : K.St) : (if s.bad = 0 ∧ s.k < L.length then (22 : Int) else s.bad) = K.doneE L s := by
  unfold K.doneE
  by_cases h : s.bad = 0
  · by_cases h2 : s.k < L.length
    · rw [if_pos ⟨h, h2⟩, if_pos h, if_pos h2]
    · rw [if_neg (fun x => h2 x.2), if_pos h, if_neg h2, h]
  · rw [if_neg (fun x => h x.1), if_neg h]
theorem done_pl (L : List UInt8) (s : K.St) (he : K.doneE L s ≠ 0) : (if s.bad = 0 ∧ s.k < L.length then (s.k : Int) else s.wh) = K.doneP L s := by
  unfold K.doneE at he
  unfold K.doneP
  by_cases h : s.bad = 0
  · by_cases h2 : s.k < L.length
    · rw [if_pos ⟨h, h2⟩, if_pos h, if_pos h2]
    · rw [if_pos h, if_neg h2] at he
      exact absurd rfl he
  · rw [if_neg (fun x => h x.1), if_neg h]
/-- The bits behind k of them. -/
def fB (f : Nat → Bool) (k i : Nat) : Bool := if i < k then f i else false
theorem shr8_bit (x r : Nat) : (((x : Int) / 2 ^ r).tmod 2 == 1) = x.testBit r := by
  have e : (x : Int) / 2 ^ r = ((x / 2 ^ r : Nat) : Int) := by simp
  rw [Nat.testBit_eq_decide_div_mod_eq, e]
  generalize x / 2 ^ r = z
  rw [Int.tmod_eq_emod_of_nonneg (by omega)]
  by_cases h : z % 2 = 1
  · rw [decide_eq_true h]
    simp
    omega
  · rw [decide_eq_false h]
    simp
    omega
set_option maxRecDepth 100000 in
set_option maxHeartbeats 16000000 in
theorem rdecode_any (a0 : Option Addr) (cap : Nat) (L : List UInt8) (w : World) (hl : L.length ≤ 140737488351232) (hb : K.Byt w a0 L) :
    Calls Try.prog 30 #[.slice a0 L.length cap] w (RcPost L w) := by
  have HN : Hid (Calls Try.prog 65 #[.slice a0 L.length cap] w (RjPost L w)) := (K.qnew_x a0 L L.length cap w rfl hb hl).mono (by
    rintro e w' ⟨r, a, c, rfl, rd, le, _, _, be⟩
    exact ⟨r, a, c, rfl, rd, be, le⟩)
  have hu := dU_le L
  obtain ⟨v, hv, hv2⟩ := dV_nat L
  have HPO : Hid (∀ W x, Below w.heap.size w W → K.doneE L (d4 L) ≠ 0 → x = K.doneP L (d4 L) → RcPost L w (.returned (.tuple #[.pointer none, .int .i64 (K.doneE L (d4 L)), .int .i64 x])) W) := fun W x b h hx => ⟨b, .inl ⟨h, by rw [hx]⟩⟩
  have HPO2 : Hid (∀ W q g, K.doneE L (d4 L) = 0 → Below w.heap.size w W → RW W q g (dU L) v (bitAt (ldF (dR L) (dU L / 8))) → RcPost L w (.returned (.tuple #[.pointer (some ⟨q, 0, none⟩), .int .i64 0, .int .i64 0])) W) := fun W q g h b f => ⟨b, .inr ⟨h, q, g, v, hv, rfl, f⟩⟩
  have H66a : Hid (∀ W r a c, DJ w W r a c L d0 → Calls Try.prog 66 #[.pointer (some ⟨r, 0, none⟩)] W fun e w' => e = .returned (.int .i64 0) ∧ w' = W) := fun W r a c h => K.qat_any W h.rd
  have H67 : Hid (∀ W r a c, DJ w W r a c L d0 → Calls Try.prog 67 #[.pointer (some ⟨r, 0, none⟩), .int .u64 65536] W fun e w' => e = .returned (.int .u64 (dU L : Int)) ∧ DJ w w' r a c L (d1 L)) := fun W r a c h => (K.quint_any 65536 (by omega) W h.rd).mono (by
    rintro e w' ⟨rfl, o⟩
    exact ⟨rfl, h.on o⟩)
  have H19t : Hid (okB (dU L) = true → ∀ W, Calls Try.prog 19 #[.int .i64 (dU L : Int), .int .i64 1] W fun e w' => e = .returned (.tuple #[.pointer (some ⟨W.heap.size + 1, 0, none⟩), .int .i64 0]) ∧ Below W.heap.size W w') := fun ho W => by
    have h := of_decide_eq_true ho
    exact (rnew_ok (dU L) 1 W h.1 h.2.1 h.2.2 (by omega) (by omega)).mono (by
      rintro e w' ⟨rfl, _, be, _⟩
      exact ⟨rfl, be⟩)
  have H19f : Hid (okB (dU L) = false → ∀ W, Calls Try.prog 19 #[.int .i64 (dU L : Int), .int .i64 1] W fun e w' => e = .returned (.tuple #[.pointer none, .int .i64 2]) ∧ w' = W) := fun ho W => rnew_no (dU L) 1 W hu (fun h => by rw [ho] at h; cases h.1)
  have H19o : Hid (okB (dU L) = true → okP (dV L) = true → ∀ W r a c s, DJ w W r a c L s → Calls Try.prog 19 #[.int .i64 (dU L : Int), .int .i64 (v : Int)] W (RnPost w W (dU L) v r)) := fun ho hp W r a c s hd => by
    have h := of_decide_eq_true ho
    rw [hv] at hp
    have h2 := of_decide_eq_true hp
    have l1 := hd.rd.lt
    have l2 := hd.be.size
    exact (rnew_ok (dU L) v W h.1 h.2.1 h.2.2 (by omega) (by omega)).mono (by
      rintro e w' ⟨rfl, rw, be, _⟩
      exact ⟨_, _, rfl, ⟨rw, by omega, by omega, by omega, by omega⟩, be⟩)
  have H19n : Hid (okP (dV L) = false → ∀ W, Calls Try.prog 19 #[.int .i64 (dU L : Int), .int .i64 (v : Int)] W fun e w' => e = .returned (.tuple #[.pointer none, .int .i64 2]) ∧ w' = W) := fun ho W => rnew_no (dU L) v W hu (fun h => by rw [← hv, ho] at h; cases h.2)
  have H68 : Hid (∀ W r a c s e p, DJ w W r a c L s → Calls Try.prog 68 #[.pointer (some ⟨r, 0, none⟩), .int .i64 e, .int .i64 p] W fun x w' => x = .returned (.tuple #[]) ∧ K.On W w' 148 r a c L (s.fl e p)) := fun W r a c s e p h => K.qfail_any e p W h.rd
  have H66 : Hid (∀ W r a c s (k : Nat), s.k = k → DJ w W r a c L s → Calls Try.prog 66 #[.pointer (some ⟨r, 0, none⟩)] W fun e w' => e = .returned (.int .i64 (k : Int)) ∧ w' = W) := fun W r a c s k hk h => by subst hk; exact K.qat_any W h.rd
  have H69 : Hid (∀ W r a c, DJ w W r a c L (d2 L) → Calls Try.prog 69 #[.pointer (some ⟨r, 0, none⟩)] W fun e w' => e = .returned (.int .u8 (v : Int)) ∧ DJ w w' r a c L (d2b L)) := fun W r a c h => (K.qbyte_any W h.rd).mono (by
    rintro e w' ⟨rfl, o⟩
    exact ⟨by rw [← hv]; rfl, h.on o⟩)
  have H70 : Hid (∀ W r a c, DJ w W r a c L (d3 L) → Calls Try.prog 70 #[.pointer (some ⟨r, 0, none⟩), .int .i64 8192] W (RvPost W r a c L (dR L) (dR L).length (d3b L))) := fun W r a c h => (K.qraw_any 8192 (by omega) W h.rd).mono (by
    rintro e w' ⟨x, base, rfl, ow, o⟩
    obtain ⟨a2, c2, rfl, h1, h2, h3⟩ := ow.open
    refine ⟨a2, c2, rfl, o, fun h0 => ?_⟩
    obtain ⟨g, cp, e, k1, k2, k3, k4⟩ := ow.open1 h0
    cases e
    exact ⟨g, rfl, h2, k4, own_nr ow o.1, fun g' bits f hg => own_ne ow hg⟩)
  have H71 : Hid (∀ W r a c, DJ w W r a c L (d4 L) → Calls Try.prog 71 #[.pointer (some ⟨r, 0, none⟩)] W fun e w' => e = .returned (.tuple #[.int .i64 (K.doneE L (d4 L)), .int .i64 (if (d4 L).bad = 0 ∧ (d4 L).k < L.length then ((d4 L).k : Int) else (d4 L).wh)]) ∧ K.On W w' 148 r a c L (d4 L)) := fun W r a c h => (K.qdone_any W h.rd).mono (by
    rintro e w' ⟨rfl, o⟩
    rw [done_eq]
    exact ⟨rfl, o⟩)
  have HPL := Hid.mk' (done_pl L (d4 L))
  have HDO := Hid.mk' (fun h => dec_ok (L := L) h)
  have H3B := Hid.mk' (fun h => d3_bad (L := L) h)
  have e8 : (dU L : Int).tdiv 8 = ((dU L / 8 : Nat) : Int) := by rw [Int.tdiv_eq_ediv_of_nonneg (by omega)]; omega
  have e9 : (dU L : Int) / 8 = ((dU L / 8 : Nat) : Int) := by omega
  have hu8 : dU L / 8 ≤ 8192 := by omega
  have HU := Hid.mk' hu
  have HD2 : Hid ((okB (dU L) = true → d2 L = d1 L) ∧ (okB (dU L) = false → d2 L = (d1 L).fl 2 0)) := ⟨fun h => if_pos h, fun h => if_neg (by rw [h]; simp)⟩
  have HD3 : Hid ((okP (dV L) = true → d3 L = (d2b L).fl 0 ((d2 L).k : Int)) ∧ (okP (dV L) = false → d3 L = (d2b L).fl 2 ((d2 L).k : Int))) := ⟨fun h => by rw [K.St.fl_ok]; exact if_pos h, fun h => if_neg (by rw [h]; simp)⟩
  have HD4 : Hid (((dR L).length = dU L / 8 → d4 L = d3b L) ∧ (¬ (dR L).length = dU L / 8 → d4 L = (d3b L).fl 21 ((d3 L).k : Int))) := ⟨fun h => if_pos h, fun h => if_neg h⟩
  have HBT : Hid (∀ k, k < 8 * (dU L / 8) → bitAt (ldF (dR L) (dU L / 8)) k = ((dR L).getD (k / 8) 0).toNat.testBit (k % 8)) := fun k hk => by rw [bit_ldF, decide_eq_true (by omega), Bool.true_and]
  have HRL : Hid ((dR L).length ≤ 9223372036854775807) := by
    show _ ≤ _
    unfold dR K.rRaw
    split
    · split
      · simp [K.cut]; omega
      · simp
    · simp
  have HHV := Hid.mk' hv
  clear hv hb
  generalize bitAt (ldF (dR L) (dU L / 8)) = BF at *
  generalize (if (d4 L).bad = 0 ∧ (d4 L).k < L.length then ((d4 L).k : Int) else (d4 L).wh) = dQ at *
  generalize d1 L = s1 at *
  generalize hk1 : (d2 L).k = k1 at *
  generalize hk2 : (d3 L).k = k2 at *
  have HK1 := Hid.mk' hk1
  have HK2 := Hid.mk' hk2
  clear hk1 hk2
  generalize dR L = R at *
  generalize dU L = u at *
  generalize d2 L = s2 at *
  generalize d2b L = s2b at *
  generalize d3 L = s3 at *
  generalize d3b L = s3b at *
  generalize d4 L = s4 at *
  generalize K.doneE L s4 = dE at *
  generalize K.doneP L s4 = dP at *
  generalize hb1 : okB u = b1 at *
  generalize hb2 : okP (dV L) = b2 at *
  generalize hnR : R.length = nR at *
  have HnR := Hid.mk' hnR
  have HB1 := Hid.mk' hb1
  generalize hu8e : u / 8 = u8 at *
  have HU8 := Hid.mk' hu8e
  have hRl := HRL.out
  clear hnR hb1 hb2 HRL hu8e
  have HFIN : Hid (dE = 0 → b1 = true ∧ b2 = true ∧ nR = u8) := fun h => ⟨(HDO.out h).1, (HDO.out h).2.1, (HDO.out h).2.2.1⟩
  clear HDO
  cases b1 with
  | false =>
    obtain rfl : b2 = false := H3B.out rfl
    by_cases h3 : nR = u8
    · have E2 := Hid.mk' (HD2.out.2 rfl)
      have E3 := Hid.mk' (HD3.out.2 rfl)
      have E4 := Hid.mk' (HD4.out.1 h3)
      have X19a := Hid.mk' (H19f.out rfl)
      have X19b := Hid.mk' (H19n.out rfl)
      clear HD2 HD3 HD4 H19t H19f H19o H19n H3B
      obtain rfl := h3
      have hdE : ¬ dE = 0 := fun h => by have := (HFIN.out h).1; cases this
      have hdE' : (dE == 0) = false := by simp [hdE]
      clear HFIN HPO2 HB1 HHV
      go_enter Try.func30, Try.ntmps30
      go_wp2_with (first
        | (go_at_call 65; refine HN.out.mono ?_; clear HN; rintro e W0 ⟨r, a, c, rfl, t0⟩; have D0 := Hid.mk' t0; clear t0; have C66a := Hid.mk' (H66a.out _ _ _ _ D0.out); have C67 := Hid.mk' (H67.out _ _ _ _ D0.out))
        | (go_at_call 66; refine C66a.out.mono ?_; clear C66a; rintro e WX ⟨rfl, hw⟩; obtain rfl := hw.symm; clear hw)
        | (go_at_call 67; refine C67.out.mono ?_; clear C67; rintro e W1 ⟨rfl, t1⟩; have D1 := Hid.mk' t1; clear t1)
        | (go_at_call 19; refine (X19a.out _).mono ?_; clear X19a; rintro e WX ⟨rfl, hw⟩; obtain rfl := hw.symm; clear hw; have F1 := Hid.mk' D1.out)
        | (go_at_call 68; refine (H68.out _ _ _ _ _ _ _ F1.out).mono ?_; rintro e W2 ⟨rfl, o2⟩; have t2 := F1.out.on o2; clear o2 F1; rw [← E2.out] at t2; have D2 := Hid.mk' t2; clear t2; have C66b := Hid.mk' (H66.out _ _ _ _ _ k1 HK1.out D2.out); have C69 := Hid.mk' (H69.out _ _ _ _ D2.out))
        | (go_at_call 66; refine C66b.out.mono ?_; clear C66b; rintro e WX ⟨rfl, hw⟩; obtain rfl := hw.symm; clear hw)
        | (go_at_call 69; refine C69.out.mono ?_; clear C69; rintro e W3 ⟨rfl, t3⟩; have F2 := Hid.mk' t3; clear t3)
        | (go_at_call 19; refine (X19b.out _).mono ?_; clear X19b; rintro e WX ⟨rfl, hw⟩; obtain rfl := hw.symm; clear hw)
        | (go_at_call 68; refine (H68.out _ _ _ _ _ _ _ F2.out).mono ?_; rintro e W5 ⟨rfl, o5⟩; have t5 := F2.out.on o5; clear o5 F2; rw [← E3.out] at t5; have D3 := Hid.mk' t5; clear t5; have C66c := Hid.mk' (H66.out _ _ _ _ _ k2 HK2.out D3.out); have C70 := Hid.mk' (H70.out _ _ _ _ D3.out))
        | (go_at_call 66; refine C66c.out.mono ?_; clear C66c; rintro e WX ⟨rfl, hw⟩; obtain rfl := hw.symm; clear hw)
        | (go_at_call 70; refine C70.out.mono ?_; clear C70; rintro e W6 ⟨a2, c2, rfl, o6, y6⟩; clear y6; have t6 := D3.out.on o6; clear o6; rw [← E4.out] at t6; have D4 := Hid.mk' t6; clear t6; have C71 := Hid.mk' (H71.out _ _ _ _ D4.out))
        | (go_at_call 71; refine C71.out.mono ?_; clear C71; rintro e W8 ⟨rfl, o8⟩; have D5 := Hid.mk' (D4.out.on o8); have O8 := Hid.mk' o8; clear o8)
        | fail)
      go_ret3
      exact HPO.out _ _ D5.out.be hdE (HPL.out hdE)
    · have E2 := Hid.mk' (HD2.out.2 rfl)
      have E3 := Hid.mk' (HD3.out.2 rfl)
      have E4 := Hid.mk' (HD4.out.2 h3)
      have X19a := Hid.mk' (H19f.out rfl)
      have X19b := Hid.mk' (H19n.out rfl)
      clear HD2 HD3 HD4 H19t H19f H19o H19n H3B
      have h3' : ¬ (nR : Int) = (u8 : Int) := by omega
      have h3'' : ((nR : Int) == (u8 : Int)) = false := by simp; omega
      have hdE : ¬ dE = 0 := fun h => by have := (HFIN.out h).1; cases this
      have hdE' : (dE == 0) = false := by simp [hdE]
      clear HFIN HPO2 HB1 HHV
      go_enter Try.func30, Try.ntmps30
      go_wp2_with (first
        | (go_at_call 65; refine HN.out.mono ?_; clear HN; rintro e W0 ⟨r, a, c, rfl, t0⟩; have D0 := Hid.mk' t0; clear t0; have C66a := Hid.mk' (H66a.out _ _ _ _ D0.out); have C67 := Hid.mk' (H67.out _ _ _ _ D0.out))
        | (go_at_call 66; refine C66a.out.mono ?_; clear C66a; rintro e WX ⟨rfl, hw⟩; obtain rfl := hw.symm; clear hw)
        | (go_at_call 67; refine C67.out.mono ?_; clear C67; rintro e W1 ⟨rfl, t1⟩; have D1 := Hid.mk' t1; clear t1)
        | (go_at_call 19; refine (X19a.out _).mono ?_; clear X19a; rintro e WX ⟨rfl, hw⟩; obtain rfl := hw.symm; clear hw; have F1 := Hid.mk' D1.out)
        | (go_at_call 68; refine (H68.out _ _ _ _ _ _ _ F1.out).mono ?_; rintro e W2 ⟨rfl, o2⟩; have t2 := F1.out.on o2; clear o2 F1; rw [← E2.out] at t2; have D2 := Hid.mk' t2; clear t2; have C66b := Hid.mk' (H66.out _ _ _ _ _ k1 HK1.out D2.out); have C69 := Hid.mk' (H69.out _ _ _ _ D2.out))
        | (go_at_call 66; refine C66b.out.mono ?_; clear C66b; rintro e WX ⟨rfl, hw⟩; obtain rfl := hw.symm; clear hw)
        | (go_at_call 69; refine C69.out.mono ?_; clear C69; rintro e W3 ⟨rfl, t3⟩; have F2 := Hid.mk' t3; clear t3)
        | (go_at_call 19; refine (X19b.out _).mono ?_; clear X19b; rintro e WX ⟨rfl, hw⟩; obtain rfl := hw.symm; clear hw)
        | (go_at_call 68; refine (H68.out _ _ _ _ _ _ _ F2.out).mono ?_; rintro e W5 ⟨rfl, o5⟩; have t5 := F2.out.on o5; clear o5 F2; rw [← E3.out] at t5; have D3 := Hid.mk' t5; clear t5; have C66c := Hid.mk' (H66.out _ _ _ _ _ k2 HK2.out D3.out); have C70 := Hid.mk' (H70.out _ _ _ _ D3.out))
        | (go_at_call 66; refine C66c.out.mono ?_; clear C66c; rintro e WX ⟨rfl, hw⟩; obtain rfl := hw.symm; clear hw)
        | (go_at_call 70; refine C70.out.mono ?_; clear C70; rintro e W6 ⟨a2, c2, rfl, o6, y6⟩; clear y6; have F3 := Hid.mk' (D3.out.on o6); clear o6)
        | (go_at_call 68; refine (H68.out _ _ _ _ _ _ _ F3.out).mono ?_; rintro e W7 ⟨rfl, o7⟩; have t7 := F3.out.on o7; clear o7 F3; rw [← E4.out] at t7; have D4 := Hid.mk' t7; clear t7; have C71 := Hid.mk' (H71.out _ _ _ _ D4.out))
        | (go_at_call 71; refine C71.out.mono ?_; clear C71; rintro e W8 ⟨rfl, o8⟩; have D5 := Hid.mk' (D4.out.on o8); have O8 := Hid.mk' o8; clear o8)
        | fail)
      go_ret3
      exact HPO.out _ _ D5.out.be hdE (HPL.out hdE)
  | true =>
    cases b2 with
    | false =>
      by_cases h3 : nR = u8
      · have E2 := Hid.mk' (HD2.out.1 rfl)
        have E3 := Hid.mk' (HD3.out.2 rfl)
        have E4 := Hid.mk' (HD4.out.1 h3)
        have X19a := Hid.mk' (H19t.out rfl)
        have X19b := Hid.mk' (H19n.out rfl)
        clear HD2 HD3 HD4 H19t H19f H19o H19n H3B
        obtain rfl := h3
        have hdE : ¬ dE = 0 := fun h => by have := (HFIN.out h).2.1; cases this
        have hdE' : (dE == 0) = false := by simp [hdE]
        clear HFIN HPO2 HB1 HHV
        go_enter Try.func30, Try.ntmps30
        go_wp2_with (first
          | (go_at_call 65; refine HN.out.mono ?_; clear HN; rintro e W0 ⟨r, a, c, rfl, t0⟩; have D0 := Hid.mk' t0; clear t0; have C66a := Hid.mk' (H66a.out _ _ _ _ D0.out); have C67 := Hid.mk' (H67.out _ _ _ _ D0.out))
          | (go_at_call 66; refine C66a.out.mono ?_; clear C66a; rintro e WX ⟨rfl, hw⟩; obtain rfl := hw.symm; clear hw)
          | (go_at_call 67; refine C67.out.mono ?_; clear C67; rintro e W1 ⟨rfl, t1⟩; have D1 := Hid.mk' t1; clear t1)
          | (go_at_call 19; refine (X19a.out _).mono ?_; clear X19a; rintro e W2 ⟨rfl, l2⟩; have t2 := D1.out.below l2; clear l2; rw [← E2.out] at t2; have D2 := Hid.mk' t2; clear t2; have C66b := Hid.mk' (H66.out _ _ _ _ _ k1 HK1.out D2.out); have C69 := Hid.mk' (H69.out _ _ _ _ D2.out))
          | (go_at_call 66; refine C66b.out.mono ?_; clear C66b; rintro e WX ⟨rfl, hw⟩; obtain rfl := hw.symm; clear hw)
          | (go_at_call 69; refine C69.out.mono ?_; clear C69; rintro e W3 ⟨rfl, t3⟩; have F2 := Hid.mk' t3; clear t3)
          | (go_at_call 19; refine (X19b.out _).mono ?_; clear X19b; rintro e WX ⟨rfl, hw⟩; obtain rfl := hw.symm; clear hw)
          | (go_at_call 68; refine (H68.out _ _ _ _ _ _ _ F2.out).mono ?_; rintro e W5 ⟨rfl, o5⟩; have t5 := F2.out.on o5; clear o5 F2; rw [← E3.out] at t5; have D3 := Hid.mk' t5; clear t5; have C66c := Hid.mk' (H66.out _ _ _ _ _ k2 HK2.out D3.out); have C70 := Hid.mk' (H70.out _ _ _ _ D3.out))
          | (go_at_call 66; refine C66c.out.mono ?_; clear C66c; rintro e WX ⟨rfl, hw⟩; obtain rfl := hw.symm; clear hw)
          | (go_at_call 70; refine C70.out.mono ?_; clear C70; rintro e W6 ⟨a2, c2, rfl, o6, y6⟩; clear y6; have t6 := D3.out.on o6; clear o6; rw [← E4.out] at t6; have D4 := Hid.mk' t6; clear t6; have C71 := Hid.mk' (H71.out _ _ _ _ D4.out))
          | (go_at_call 71; refine C71.out.mono ?_; clear C71; rintro e W8 ⟨rfl, o8⟩; have D5 := Hid.mk' (D4.out.on o8); have O8 := Hid.mk' o8; clear o8)
          | fail)
        go_ret3
        exact HPO.out _ _ D5.out.be hdE (HPL.out hdE)
      · have E2 := Hid.mk' (HD2.out.1 rfl)
        have E3 := Hid.mk' (HD3.out.2 rfl)
        have E4 := Hid.mk' (HD4.out.2 h3)
        have X19a := Hid.mk' (H19t.out rfl)
        have X19b := Hid.mk' (H19n.out rfl)
        clear HD2 HD3 HD4 H19t H19f H19o H19n H3B
        have h3' : ¬ (nR : Int) = (u8 : Int) := by omega
        have h3'' : ((nR : Int) == (u8 : Int)) = false := by simp; omega
        have hdE : ¬ dE = 0 := fun h => by have := (HFIN.out h).2.1; cases this
        have hdE' : (dE == 0) = false := by simp [hdE]
        clear HFIN HPO2 HB1 HHV
        go_enter Try.func30, Try.ntmps30
        go_wp2_with (first
          | (go_at_call 65; refine HN.out.mono ?_; clear HN; rintro e W0 ⟨r, a, c, rfl, t0⟩; have D0 := Hid.mk' t0; clear t0; have C66a := Hid.mk' (H66a.out _ _ _ _ D0.out); have C67 := Hid.mk' (H67.out _ _ _ _ D0.out))
          | (go_at_call 66; refine C66a.out.mono ?_; clear C66a; rintro e WX ⟨rfl, hw⟩; obtain rfl := hw.symm; clear hw)
          | (go_at_call 67; refine C67.out.mono ?_; clear C67; rintro e W1 ⟨rfl, t1⟩; have D1 := Hid.mk' t1; clear t1)
          | (go_at_call 19; refine (X19a.out _).mono ?_; clear X19a; rintro e W2 ⟨rfl, l2⟩; have t2 := D1.out.below l2; clear l2; rw [← E2.out] at t2; have D2 := Hid.mk' t2; clear t2; have C66b := Hid.mk' (H66.out _ _ _ _ _ k1 HK1.out D2.out); have C69 := Hid.mk' (H69.out _ _ _ _ D2.out))
          | (go_at_call 66; refine C66b.out.mono ?_; clear C66b; rintro e WX ⟨rfl, hw⟩; obtain rfl := hw.symm; clear hw)
          | (go_at_call 69; refine C69.out.mono ?_; clear C69; rintro e W3 ⟨rfl, t3⟩; have F2 := Hid.mk' t3; clear t3)
          | (go_at_call 19; refine (X19b.out _).mono ?_; clear X19b; rintro e WX ⟨rfl, hw⟩; obtain rfl := hw.symm; clear hw)
          | (go_at_call 68; refine (H68.out _ _ _ _ _ _ _ F2.out).mono ?_; rintro e W5 ⟨rfl, o5⟩; have t5 := F2.out.on o5; clear o5 F2; rw [← E3.out] at t5; have D3 := Hid.mk' t5; clear t5; have C66c := Hid.mk' (H66.out _ _ _ _ _ k2 HK2.out D3.out); have C70 := Hid.mk' (H70.out _ _ _ _ D3.out))
          | (go_at_call 66; refine C66c.out.mono ?_; clear C66c; rintro e WX ⟨rfl, hw⟩; obtain rfl := hw.symm; clear hw)
          | (go_at_call 70; refine C70.out.mono ?_; clear C70; rintro e W6 ⟨a2, c2, rfl, o6, y6⟩; clear y6; have F3 := Hid.mk' (D3.out.on o6); clear o6)
          | (go_at_call 68; refine (H68.out _ _ _ _ _ _ _ F3.out).mono ?_; rintro e W7 ⟨rfl, o7⟩; have t7 := F3.out.on o7; clear o7 F3; rw [← E4.out] at t7; have D4 := Hid.mk' t7; clear t7; have C71 := Hid.mk' (H71.out _ _ _ _ D4.out))
          | (go_at_call 71; refine C71.out.mono ?_; clear C71; rintro e W8 ⟨rfl, o8⟩; have D5 := Hid.mk' (D4.out.on o8); have O8 := Hid.mk' o8; clear o8)
          | fail)
        go_ret3
        exact HPO.out _ _ D5.out.be hdE (HPL.out hdE)
    | true =>
      by_cases h3 : nR = u8
      · have E2 := Hid.mk' (HD2.out.1 rfl)
        have E3 := Hid.mk' (HD3.out.1 rfl)
        have E4 := Hid.mk' (HD4.out.1 h3)
        have X19a := Hid.mk' (H19t.out rfl)
        have X19b := Hid.mk' (H19o.out rfl rfl)
        clear HD2 HD3 HD4 H19t H19f H19o H19n H3B
        obtain rfl := h3
        by_cases hdE : dE = 0
        · subst hdE
          have hbb := of_decide_eq_true HB1.out
          have hug : 8 ≤ u := hbb.1
          have HMU : Hid (u = 8 * nR) := by have := HU8.out; show _ = _; omega
          have hpos : 0 < nR := by have := HU8.out; omega
          clear hbb HFIN HPO HB1 HHV HPL
          go_enter Try.func30, Try.ntmps30
          go_wp2_with (first
            | (go_at_call 65; refine HN.out.mono ?_; clear HN; rintro e W0 ⟨r, a, c, rfl, t0⟩; have D0 := Hid.mk' t0; clear t0; have C66a := Hid.mk' (H66a.out _ _ _ _ D0.out); have C67 := Hid.mk' (H67.out _ _ _ _ D0.out))
            | (go_at_call 66; refine C66a.out.mono ?_; clear C66a; rintro e WX ⟨rfl, hw⟩; obtain rfl := hw.symm; clear hw)
            | (go_at_call 67; refine C67.out.mono ?_; clear C67; rintro e W1 ⟨rfl, t1⟩; have D1 := Hid.mk' t1; clear t1)
            | (go_at_call 19; refine (X19a.out _).mono ?_; clear X19a; rintro e W2 ⟨rfl, l2⟩; have t2 := D1.out.below l2; clear l2; rw [← E2.out] at t2; have D2 := Hid.mk' t2; clear t2; have C66b := Hid.mk' (H66.out _ _ _ _ _ k1 HK1.out D2.out); have C69 := Hid.mk' (H69.out _ _ _ _ D2.out))
            | (go_at_call 66; refine C66b.out.mono ?_; clear C66b; rintro e WX ⟨rfl, hw⟩; obtain rfl := hw.symm; clear hw)
            | (go_at_call 69; refine C69.out.mono ?_; clear C69; rintro e W3 ⟨rfl, t3⟩; have D2b := Hid.mk' t3; clear t3; have C19 := Hid.mk' (X19b.out _ _ _ _ _ D2b.out))
            | (go_at_call 19; refine C19.out.mono ?_; clear C19; rintro e W4 ⟨q, g, rfl, rk, l4⟩; have RK4 := Hid.mk' rk; have F2 := Hid.mk' (D2b.out.below l4); clear rk l4)
            | (go_at_call 68; refine (H68.out _ _ _ _ _ _ _ F2.out).mono ?_; rintro e W5 ⟨rfl, o5⟩; have RK5 := Hid.mk' (RK4.out.on o5); have t5 := F2.out.on o5; clear o5 F2; rw [← E3.out] at t5; have D3 := Hid.mk' t5; clear t5; have C66c := Hid.mk' (H66.out _ _ _ _ _ k2 HK2.out D3.out); have C70 := Hid.mk' (H70.out _ _ _ _ D3.out))
            | (go_at_call 66; refine C66c.out.mono ?_; clear C66c; rintro e WX ⟨rfl, hw⟩; obtain rfl := hw.symm; clear hw)
            | (go_at_call 70; refine C70.out.mono ?_; clear C70; rintro e W6 ⟨a2, c2, rfl, o6, y6⟩; obtain ⟨b, hab, hby, hbl, hbr, hbn⟩ := y6 hpos; obtain rfl := hab.symm; clear hab y6; have RK6 := Hid.mk' (RK5.out.on o6); have hbg := hbn _ _ _ RK6.out.rw.rb; have Y6 := Hid.mk' hby; have NBR := Hid.mk' hbr; have NBG := Hid.mk' hbg; clear hby hbl hbn hbr hbg; have t6 := D3.out.on o6; clear o6; rw [← E4.out] at t6; have D4 := Hid.mk' t6; clear t6; have C71 := Hid.mk' (H71.out _ _ _ _ D4.out))
            | (go_at_call 71; refine C71.out.mono ?_; clear C71; rintro e W8 ⟨rfl, o8⟩; have RK8 := Hid.mk' (RK6.out.on o8); have Y8 := Hid.mk' (K.Fr.byt o8.2 (fun ad e => by cases e; exact ⟨rfl, NBR.out⟩) Y6.out); have D5 := Hid.mk' (D4.out.on o8); have O8 := Hid.mk' o8; clear o8)
            | fail)
          have HRC := Hid.mk' RK8.out.rw.rc
          have H0 : Hid (RB W8 g u (fB BF 0)) := RK8.out.rw.rb.congr fun i _ => by unfold fB; rw [if_neg (by omega)]
          have HBE := Hid.mk' D5.out.be
          have HLG := Hid.mk' RK8.out.lg
          clear D0 D1 D2 D2b D3 D4 D5 RK4 RK5 RK6 RK8 O8 Y6 E2 E3 E4 HK1 HK2 H66a H67 H68 H66 H69 H70 H71
          go_loopw [16] (fun i wr => ∃ k : Nat, k ≤ u ∧ i = .int .i64 (k : Int) ∧ Hid (RB wr g u (fB BF k)) ∧ Hid (K.Fr g W8 wr)) (fun i _ => u - (intOf i).toNat)
          case atStart => exact ⟨0, by omega, rfl, H0, K.Fr.refl _ _⟩
          case round =>
            obtain ⟨k, hk, rfl, HR, HG⟩ := hrel
            clear H0
            by_cases hku : k < u
            · have hku' : (k : Int) < (u : Int) := by omega
              have hd : k / 8 < nR := by have := HMU.out; omega
              have c0 : wr.cell? ⟨q, 0, none⟩ = some (.slice (some ⟨g, 0, none⟩) u u) := HG.out.cell (p := ⟨q, 0, none⟩) (fun e => HRC.out.ne e.symm) HRC.out.c0
              have cg : wr.cell? ⟨g, k, none⟩ = some (.bool (fB BF k k)) := HR.out.cell hku
              have fg : wr.frozen? ⟨g, k, none⟩ = false := HR.out.frozen _
              have cb : wr.cell? ⟨b, k / 8, none⟩ = some (.int .u8 ((R.getD (k / 8) 0).toNat : Int)) := by
                rcases HG.out.byt (fun ad e => by cases e; exact ⟨rfl, NBG.out⟩) Y8.out with e | ⟨b', off', e, hc⟩
                · have := HnR.out; rw [e] at this; simp at this; omega
                · cases e
                  have := hc (k / 8) (by rw [HnR.out]; exact hd)
                  rw [Nat.zero_add] at this
                  exact this
              have ix := fun wx => index99 g u u k wx hku
              have ix2 := fun wx => index53 b nR c2 (k / 8) wx hd
              have e1 : (k : Int).tdiv 8 = ((k / 8 : Nat) : Int) := by rw [Int.tdiv_eq_ediv_of_nonneg (by omega)]; omega
              have e2 : (k : Int).tmod 8 = ((k % 8 : Nat) : Int) := by rw [Int.tmod_eq_emod_of_nonneg (by omega)]; omega
              have hr8 : k % 8 < 8 := Nat.mod_lt _ (by omega)
              have hx := UInt8.toNat_lt (R.getD (k / 8) 0)
              have hbt := HBT.out k (by have := HMU.out; omega)
              rw [← shr8_bit] at hbt
              have HN : Hid (RB (wr.setCell ⟨g, k, none⟩ (.bool ((((R.getD (k / 8) 0).toNat : Int) / 2 ^ (k % 8)).tmod 2 == 1))).drew g u (fB BF (k + 1))) := (HR.out.set k _).congr fun i _ => by
                unfold fB
                by_cases e : i = k
                · rw [if_pos e, if_pos (by omega), e, hbt]
                · rw [if_neg e]
                  by_cases e2 : i < k
                  · rw [if_pos e2, if_pos (by omega)]
                  · rw [if_neg e2, if_neg (by omega)]
              have HF : Hid (K.Fr g W8 (wr.setCell ⟨g, k, none⟩ (.bool ((((R.getD (k / 8) 0).toNat : Int) / 2 ^ (k % 8)).tmod 2 == 1))).drew) := (HG.out.trans (K.Fr.set g wr ⟨g, k, none⟩ rfl _)).trans (K.Fr.drew g _ 1)
              clear hbt
              generalize (R.getD (k / 8) 0).toNat = x at *
              generalize fB BF k k = ob at *
              generalize k / 8 = d at *
              generalize k % 8 = r8 at *
              go_wp2
              go_region
              go_wp2
              exact ⟨⟨k + 1, by omega, by go_num, HN, HF⟩, by simp [intOf]; omega⟩
            · obtain rfl : k = u := by omega
              have hku' : ¬ (k : Int) < (k : Int) := by omega
              go_wp2
              go_ret3
              refine HPO2.out _ _ _ (by first | trivial | rfl) (HBE.out.trans (HG.out.below _ HLG.out HBE.out.size)) ⟨HRC.out.of (HG.out.block q HRC.out.lt (fun e => HRC.out.ne e.symm)), HR.out.congr fun i hi => ?_⟩
              unfold fB
              rw [if_pos hi]
        · have hdE' : (dE == 0) = false := by simp [hdE]
          clear HFIN HPO2 HB1 HHV
          go_enter Try.func30, Try.ntmps30
          go_wp2_with (first
            | (go_at_call 65; refine HN.out.mono ?_; clear HN; rintro e W0 ⟨r, a, c, rfl, t0⟩; have D0 := Hid.mk' t0; clear t0; have C66a := Hid.mk' (H66a.out _ _ _ _ D0.out); have C67 := Hid.mk' (H67.out _ _ _ _ D0.out))
            | (go_at_call 66; refine C66a.out.mono ?_; clear C66a; rintro e WX ⟨rfl, hw⟩; obtain rfl := hw.symm; clear hw)
            | (go_at_call 67; refine C67.out.mono ?_; clear C67; rintro e W1 ⟨rfl, t1⟩; have D1 := Hid.mk' t1; clear t1)
            | (go_at_call 19; refine (X19a.out _).mono ?_; clear X19a; rintro e W2 ⟨rfl, l2⟩; have t2 := D1.out.below l2; clear l2; rw [← E2.out] at t2; have D2 := Hid.mk' t2; clear t2; have C66b := Hid.mk' (H66.out _ _ _ _ _ k1 HK1.out D2.out); have C69 := Hid.mk' (H69.out _ _ _ _ D2.out))
            | (go_at_call 66; refine C66b.out.mono ?_; clear C66b; rintro e WX ⟨rfl, hw⟩; obtain rfl := hw.symm; clear hw)
            | (go_at_call 69; refine C69.out.mono ?_; clear C69; rintro e W3 ⟨rfl, t3⟩; have D2b := Hid.mk' t3; clear t3; have C19 := Hid.mk' (X19b.out _ _ _ _ _ D2b.out))
            | (go_at_call 19; refine C19.out.mono ?_; clear C19; rintro e W4 ⟨q, g, rfl, rk, l4⟩; have RK4 := Hid.mk' rk; have F2 := Hid.mk' (D2b.out.below l4); clear rk l4)
            | (go_at_call 68; refine (H68.out _ _ _ _ _ _ _ F2.out).mono ?_; rintro e W5 ⟨rfl, o5⟩; have t5 := F2.out.on o5; clear o5 F2; rw [← E3.out] at t5; have D3 := Hid.mk' t5; clear t5; have C66c := Hid.mk' (H66.out _ _ _ _ _ k2 HK2.out D3.out); have C70 := Hid.mk' (H70.out _ _ _ _ D3.out))
            | (go_at_call 66; refine C66c.out.mono ?_; clear C66c; rintro e WX ⟨rfl, hw⟩; obtain rfl := hw.symm; clear hw)
            | (go_at_call 70; refine C70.out.mono ?_; clear C70; rintro e W6 ⟨a2, c2, rfl, o6, y6⟩; clear y6; have t6 := D3.out.on o6; clear o6; rw [← E4.out] at t6; have D4 := Hid.mk' t6; clear t6; have C71 := Hid.mk' (H71.out _ _ _ _ D4.out))
            | (go_at_call 71; refine C71.out.mono ?_; clear C71; rintro e W8 ⟨rfl, o8⟩; have D5 := Hid.mk' (D4.out.on o8); have O8 := Hid.mk' o8; clear o8)
            | fail)
          go_ret3
          exact HPO.out _ _ D5.out.be hdE (HPL.out hdE)
      · have E2 := Hid.mk' (HD2.out.1 rfl)
        have E3 := Hid.mk' (HD3.out.1 rfl)
        have E4 := Hid.mk' (HD4.out.2 h3)
        have X19a := Hid.mk' (H19t.out rfl)
        have X19b := Hid.mk' (H19o.out rfl rfl)
        clear HD2 HD3 HD4 H19t H19f H19o H19n H3B
        have h3' : ¬ (nR : Int) = (u8 : Int) := by omega
        have h3'' : ((nR : Int) == (u8 : Int)) = false := by simp; omega
        have hdE : ¬ dE = 0 := fun h => h3 (HFIN.out h).2.2
        have hdE' : (dE == 0) = false := by simp [hdE]
        clear HFIN HPO2 HB1 HHV
        go_enter Try.func30, Try.ntmps30
        go_wp2_with (first
          | (go_at_call 65; refine HN.out.mono ?_; clear HN; rintro e W0 ⟨r, a, c, rfl, t0⟩; have D0 := Hid.mk' t0; clear t0; have C66a := Hid.mk' (H66a.out _ _ _ _ D0.out); have C67 := Hid.mk' (H67.out _ _ _ _ D0.out))
          | (go_at_call 66; refine C66a.out.mono ?_; clear C66a; rintro e WX ⟨rfl, hw⟩; obtain rfl := hw.symm; clear hw)
          | (go_at_call 67; refine C67.out.mono ?_; clear C67; rintro e W1 ⟨rfl, t1⟩; have D1 := Hid.mk' t1; clear t1)
          | (go_at_call 19; refine (X19a.out _).mono ?_; clear X19a; rintro e W2 ⟨rfl, l2⟩; have t2 := D1.out.below l2; clear l2; rw [← E2.out] at t2; have D2 := Hid.mk' t2; clear t2; have C66b := Hid.mk' (H66.out _ _ _ _ _ k1 HK1.out D2.out); have C69 := Hid.mk' (H69.out _ _ _ _ D2.out))
          | (go_at_call 66; refine C66b.out.mono ?_; clear C66b; rintro e WX ⟨rfl, hw⟩; obtain rfl := hw.symm; clear hw)
          | (go_at_call 69; refine C69.out.mono ?_; clear C69; rintro e W3 ⟨rfl, t3⟩; have D2b := Hid.mk' t3; clear t3; have C19 := Hid.mk' (X19b.out _ _ _ _ _ D2b.out))
          | (go_at_call 19; refine C19.out.mono ?_; clear C19; rintro e W4 ⟨q, g, rfl, rk, l4⟩; have RK4 := Hid.mk' rk; have F2 := Hid.mk' (D2b.out.below l4); clear rk l4)
          | (go_at_call 68; refine (H68.out _ _ _ _ _ _ _ F2.out).mono ?_; rintro e W5 ⟨rfl, o5⟩; have t5 := F2.out.on o5; clear o5 F2; rw [← E3.out] at t5; have D3 := Hid.mk' t5; clear t5; have C66c := Hid.mk' (H66.out _ _ _ _ _ k2 HK2.out D3.out); have C70 := Hid.mk' (H70.out _ _ _ _ D3.out))
          | (go_at_call 66; refine C66c.out.mono ?_; clear C66c; rintro e WX ⟨rfl, hw⟩; obtain rfl := hw.symm; clear hw)
          | (go_at_call 70; refine C70.out.mono ?_; clear C70; rintro e W6 ⟨a2, c2, rfl, o6, y6⟩; clear y6; have F3 := Hid.mk' (D3.out.on o6); clear o6)
          | (go_at_call 68; refine (H68.out _ _ _ _ _ _ _ F3.out).mono ?_; rintro e W7 ⟨rfl, o7⟩; have t7 := F3.out.on o7; clear o7 F3; rw [← E4.out] at t7; have D4 := Hid.mk' t7; clear t7; have C71 := Hid.mk' (H71.out _ _ _ _ D4.out))
          | (go_at_call 71; refine C71.out.mono ?_; clear C71; rintro e W8 ⟨rfl, o8⟩; have D5 := Hid.mk' (D4.out.on o8); have O8 := Hid.mk' o8; clear o8)
          | fail)
        go_ret3
        exact HPO.out _ _ D5.out.be hdE (HPL.out hdE)
end Go.Proofs.Ytnbdohomaadbfaa

namespace Go.Proofs.Ytnbdohomaadbfaa
open Go.RowKit
set_option linter.unusedVariables false
set_option linter.unusedSimpArgs false

/-- The program's filter, as Decode hands it back. -/
def PkPost (L : List UInt8) (v : Nat) (w : World) (e : Ending) (w' : World) : Prop := ∃ q g, e = .returned (.tuple #[.pointer (some ⟨q, 0, none⟩), .int .i64 0, .int .i64 0]) ∧ FW w' q g (dU L) v (ldF (dR L) (dU L / 8)) ∧ Below w.heap.size w w'
def QkPost (L : List UInt8) (v : Nat) (w : World) (e : Ending) (w' : World) : Prop := ∃ q g, e = .returned (.tuple #[.pointer (some ⟨q, 0, none⟩), .int .i64 0, .int .i64 0]) ∧ RW w' q g (dU L) v (bitAt (ldF (dR L) (dU L / 8))) ∧ Below w.heap.size w w'
theorem pdec_no (a0 : Option Addr) (cap : Nat) (B : List UInt8) (W : World) (hl : B.length ≤ 140737488351232) (ha : a0 = none → cap = 0) (hb : K.Byt W a0 B) (hE : ¬ K.doneE B (d4 B) = 0) : Calls Try.prog 29 #[.slice a0 B.length cap] W fun e w' => e = .returned (.tuple #[.pointer none, .int .i64 (K.doneE B (d4 B)), .int .i64 (K.doneP B (d4 B))]) ∧ Below W.heap.size W w' := by
  refine (decode_any a0 cap B W hl ha hb).mono ?_
  rintro e w' ⟨be, ⟨h1, rfl⟩ | ⟨h1, _⟩⟩
  · exact ⟨rfl, be⟩
  · exact absurd h1 hE
theorem pdec_ok {a0 : Option Addr} {cap : Nat} {L : List UInt8} {w : World} (hl : L.length ≤ 140737488351232) (ha : a0 = none → cap = 0) (hb : K.Byt w a0 L) {v : Nat} (hv : dV L = (v : Int)) (hE : K.doneE L (d4 L) = 0) : Calls Try.prog 29 #[.slice a0 L.length cap] w (PkPost L v w) := by
  refine (decode_any a0 cap L w hl ha hb).mono ?_
  rintro e w' ⟨be, ⟨h1, _⟩ | ⟨h1, q, g, v', hv', rfl, f⟩⟩
  · exact absurd hE h1
  · obtain rfl : v = v' := by omega
    exact ⟨q, g, rfl, f.fw, be⟩
theorem qdec_ok {a0 : Option Addr} {cap : Nat} {L : List UInt8} {w : World} (hl : L.length ≤ 140737488351232) (hb : K.Byt w a0 L) {v : Nat} (hv : dV L = (v : Int)) (hE : K.doneE L (d4 L) = 0) : Calls Try.prog 30 #[.slice a0 L.length cap] w (QkPost L v w) := by
  refine (rdecode_any a0 cap L w hl hb).mono ?_
  rintro e w' ⟨be, ⟨h1, _⟩ | ⟨h1, q, g, v', hv', rfl, f⟩⟩
  · exact absurd hE h1
  · obtain rfl : v = v' := by omega
    exact ⟨q, g, rfl, f, be⟩
theorem qdec_no {a0 : Option Addr} {cap : Nat} {L : List UInt8} {w : World} (hl : L.length ≤ 140737488351232) (hb : K.Byt w a0 L) (hE : ¬ K.doneE L (d4 L) = 0) : Calls Try.prog 30 #[.slice a0 L.length cap] w fun e w' => e = .returned (.tuple #[.pointer none, .int .i64 (K.doneE L (d4 L)), .int .i64 (K.doneP L (d4 L))]) ∧ Below w.heap.size w w' := by
  refine (rdecode_any a0 cap L w hl hb).mono ?_
  rintro e w' ⟨be, ⟨h1, rfl⟩ | ⟨h1, _⟩⟩
  · exact ⟨rfl, be⟩
  · exact absurd h1 hE
theorem hand_byt {w : World} {g : Nat} {l : List UInt8} (hg : w.heap[g]? = some (.cells (K.bs (l ++ K.marks)) 5 (0, 0))) : K.Byt w (some ⟨g, 0, none⟩) l :=
  .inr ⟨g, 0, rfl, fun j hj => by rw [Nat.zero_add, ← K.own_at l j hj]; exact (cell_of_row w g j _ _ _ hg).trans (K.bs_get _ j (by simp; omega))⟩
set_option maxRecDepth 100000 in
set_option maxHeartbeats 8000000 in
theorem decodes_all (a0 : Option Addr) (cap : Nat) (L : List UInt8) (w : World) (hl : L.length ≤ 140737488351232) (hb : K.Byt w a0 L) :
    Calls Try.prog 4 #[.slice a0 L.length cap] w fun e w' => e = .returned (.bool true) ∧ Below w.heap.size w w' := by
  have C28 := Hid.mk' (K.hand_any a0 L cap w hb hl)
  have HBW : Hid (∀ W, Below w.heap.size w W → K.Byt W a0 L) := fun W h => K.byt_below hb h
  have HKE : Hid (∀ W g, W.heap[g]? = some (.cells (K.bs (L ++ K.marks)) 5 (0, 0)) → Below w.heap.size w W → Calls Try.prog 31 #[.slice (some ⟨g, 0, none⟩) L.length (L.length + 9), .slice a0 L.length cap] W fun e w' => e = .returned (.bool true) ∧ Below W.heap.size W w') := fun W g hg be => (K.kept_any g a0 L cap W hg (HBW.out W be) hl).mono (by
    rintro e w' ⟨rfl, m, rfl⟩
    exact ⟨rfl, K.below_drewN (Below.refl _ _) m⟩)
  by_cases hE : K.doneE L (d4 L) = 0
  · obtain ⟨o1, o2, o3, v, hv, hLL⟩ := dec_ok hE
    clear hLL
    have hp2 := of_decide_eq_true o2
    have hob := of_decide_eq_true o1
    have C29 : Hid (∀ W g, W.heap[g]? = some (.cells (K.bs (L ++ K.marks)) 5 (0, 0)) → Calls Try.prog 29 #[.slice (some ⟨g, 0, none⟩) L.length (L.length + 9)] W (PkPost L v W)) := fun W g hg => pdec_ok hl (fun e => by cases e) (hand_byt hg) hv hE
    have C30 : Hid (∀ W, Below w.heap.size w W → Calls Try.prog 30 #[.slice a0 L.length cap] W (QkPost L v W)) := fun W be => qdec_ok hl (HBW.out W be) hv hE
    have C27 : Hid (∀ W qf gf qg gg, FW W qf gf (dU L) v (ldF (dR L) (dU L / 8)) → RW W qg gg (dU L) v (bitAt (ldF (dR L) (dU L / 8))) → Calls Try.prog 27 #[.pointer (some ⟨qf, 0, none⟩), .pointer (some ⟨qg, 0, none⟩)] W fun e w' => e = .returned (.bool true) ∧ Below W.heap.size W w') := fun W qf gf qg gg f g =>
      alike_ok qf gf qg gg (dU L) v _ W f g (by have := within_ldF (dR L) (dU L / 8); rw [show 8 * (dU L / 8) = dU L by omega] at this; exact this) (ldF_lt _ _) o1 (by omega)
    clear hb hE o1 o2 o3 hv hp2 hob
    go_enter Try.func4, Try.ntmps4
    go_wp2_with (first
      | (go_at_call 28; refine C28.out.mono ?_; clear C28; rintro e W1 ⟨rfl, r1, b1⟩; have R1 := Hid.mk' r1; have B1 := Hid.mk' b1; clear r1 b1; have LT1 : Hid (w.heap.size < W1.heap.size) := (Array.getElem?_eq_some_iff.1 R1.out).1)
      | (go_at_call 29; refine (C29.out _ _ R1.out).mono ?_; clear C29; rintro e W2 ⟨qf, gf, rfl, f2, b2⟩; have F2 := Hid.mk' f2; have B2 := Hid.mk' (B1.out.trans (b2.mono B1.out.size)); have R2 := Hid.mk' ((b2.block _ LT1.out).trans R1.out); have S2 := Hid.mk' b2.size; clear f2 b2)
      | (go_at_call 30; refine (C30.out _ B2.out).mono ?_; clear C30; rintro e W3 ⟨qg, gg, rfl, f3, b3⟩; have B3 := Hid.mk' (B2.out.trans (b3.mono B2.out.size)); have D27 := Hid.mk' (C27.out _ qf gf qg gg (F2.out.below b3) f3); have R3 := Hid.mk' ((b3.block _ (Nat.lt_of_lt_of_le LT1.out S2.out)).trans R2.out); have S3 := Hid.mk' (Nat.le_trans S2.out b3.size); clear f3 b3)
      | (go_at_call 27; refine D27.out.mono ?_; clear D27; rintro e W4 ⟨rfl, b4⟩; have B4 := Hid.mk' (B3.out.trans (b4.mono B3.out.size)); have D31 := Hid.mk' (HKE.out _ _ ((b4.block _ (Nat.lt_of_lt_of_le LT1.out S3.out)).trans R3.out) B4.out); clear b4)
      | (go_at_call 31; refine D31.out.mono ?_; clear D31; rintro e W5 ⟨rfl, b5⟩; have B5 := Hid.mk' (B4.out.trans (b5.mono B4.out.size)); clear b5)
      | fail)
    go_ret
    exact ⟨rfl, B5.out⟩
  · have C29 : Hid (∀ W g, W.heap[g]? = some (.cells (K.bs (L ++ K.marks)) 5 (0, 0)) → Calls Try.prog 29 #[.slice (some ⟨g, 0, none⟩) L.length (L.length + 9)] W fun e w' => e = .returned (.tuple #[.pointer none, .int .i64 (K.doneE L (d4 L)), .int .i64 (K.doneP L (d4 L))]) ∧ Below W.heap.size W w') := fun W g hg => pdec_no _ _ L W hl (fun e => by cases e) (hand_byt hg) hE
    have C30 : Hid (∀ W, Below w.heap.size w W → Calls Try.prog 30 #[.slice a0 L.length cap] W fun e w' => e = .returned (.tuple #[.pointer none, .int .i64 (K.doneE L (d4 L)), .int .i64 (K.doneP L (d4 L))]) ∧ Below W.heap.size W w') := fun W be => qdec_no hl (HBW.out W be) hE
    clear hb hE
    generalize K.doneE L (d4 L) = dE at *
    generalize K.doneP L (d4 L) = dP at *
    go_enter Try.func4, Try.ntmps4
    go_wp2_with (first
      | (go_at_call 28; refine C28.out.mono ?_; clear C28; rintro e W1 ⟨rfl, r1, b1⟩; have R1 := Hid.mk' r1; have B1 := Hid.mk' b1; clear r1 b1; have LT1 : Hid (w.heap.size < W1.heap.size) := (Array.getElem?_eq_some_iff.1 R1.out).1)
      | (go_at_call 29; refine (C29.out _ _ R1.out).mono ?_; clear C29; rintro e W2 ⟨rfl, b2⟩; have B2 := Hid.mk' (B1.out.trans (b2.mono B1.out.size)); have R2 := Hid.mk' ((b2.block _ LT1.out).trans R1.out); have S2 := Hid.mk' b2.size; clear b2)
      | (go_at_call 30; refine (C30.out _ B2.out).mono ?_; clear C30; rintro e W3 ⟨rfl, b3⟩; have B3 := Hid.mk' (B2.out.trans (b3.mono B2.out.size)); have R3 := Hid.mk' ((b3.block _ (Nat.lt_of_lt_of_le LT1.out S2.out)).trans R2.out); have S3 := Hid.mk' (Nat.le_trans S2.out b3.size); clear b3)
      | (go_at_call 27; refine (alike_nil _).mono ?_; rintro e W4 ⟨rfl, b4⟩; have B4 := Hid.mk' (B3.out.trans (b4.mono B3.out.size)); have D31 := Hid.mk' (HKE.out _ _ ((b4.block _ (Nat.lt_of_lt_of_le LT1.out S3.out)).trans R3.out) B4.out); clear b4)
      | (go_at_call 31; refine D31.out.mono ?_; clear D31; rintro e W5 ⟨rfl, b5⟩; have B5 := Hid.mk' (B4.out.trans (b5.mono B4.out.size)); clear b5)
      | fail)
    go_ret
    exact ⟨rfl, B5.out⟩
end Go.Proofs.Ytnbdohomaadbfaa

