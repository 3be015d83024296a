import Derived.Test.YtdajeabhhkgibaaVv
namespace Go.Proofs.Ytdajeabhhkgibaa
open Go.RowKit
set_option linter.unusedVariables false
set_option linter.unusedSimpArgs false

/-- What New tells. -/
def NwPost (bits p : Nat) (W : World) (e : Ending) (w' : World) : Prop := ∃ q g, e = .returned (.tuple #[.pointer (some ⟨q, 0, none⟩), .int .i64 0]) ∧ FAt W.heap.size w' q g bits p (fun _ => 0) ∧ Below W.heap.size W w'
theorem new_post (bits probes : Nat) (w : World) (h1 : 8 ≤ bits) (h2 : bits ≤ 65536) (h3 : bits % 8 = 0) (h4 : 1 ≤ probes) (h5 : probes ≤ 16) : Calls Try.prog 18 #[.int .i64 (bits : Int), .int .i64 (probes : Int)] w (NwPost bits probes w) :=
  (new_ok bits probes w h1 h2 h3 h4 h5).mono (by
    rintro e w' ⟨rfl, fc, wr, be, lt⟩
    exact ⟨_, _, rfl, ⟨⟨fc, wr⟩, by omega, by omega⟩, be⟩)
/-- What Encode tells. -/
def EnPost (E : List UInt8) (W : World) (e : Ending) (w' : World) : Prop := ∃ b cv, e = .returned (.slice (some ⟨b, 0, none⟩) E.length cv) ∧ (∀ W2, Below w'.heap.size w' W2 → K.Byt W2 (some ⟨b, 0, none⟩) E) ∧ Below W.heap.size W w'
theorem enc_post (q g bits probes : Nat) (ws : Nat → Nat) (w : World) (hF : FW w q g bits probes ws) (hw : ∀ i, ws i < 18446744073709551616) (hb0 : 8 ≤ bits) (hb1 : bits ≤ 65536) (hp : probes ≤ 16) :
    Calls Try.prog 34 #[.pointer (some ⟨q, 0, none⟩)] w (EnPost (encF bits probes ws) w) :=
  (enc_any q g bits probes ws w hF hw hb0 hb1 hp).mono (by
    rintro e w' ⟨b, cv, rfl, ow, be⟩
    refine ⟨b, cv, rfl, fun W2 h2 => ?_, be⟩
    obtain ⟨a, c, e, k1, k2, k3⟩ := (ow.below h2).open
    cases e
    exact k2)
theorem same_post (a1 a2 : Option Addr) (E : List UInt8) (c1 c2 : Nat) (w : World) (h1 : K.Byt w a1 E) (h2 : K.Byt w a2 E) (hl : E.length ≤ 10000) : Calls Try.prog 35 #[.slice a1 E.length c1, .slice a2 E.length c2] w fun e w' => e = .returned (.bool true) ∧ Below w.heap.size w w' :=
  (K.same_any a1 a2 E E.length c1 c2 w rfl h1 h2 (by omega)).mono (by
    rintro e w' ⟨rfl, m, rfl⟩
    exact ⟨rfl, K.below_drewN (Below.refl _ _) m⟩)
theorem ThreeF.mk0 {w W1 W2 W3 : World} {qa ga qb gb qc gc bits p : Nat} {z : Nat → Nat} (f1 : FAt w.heap.size W1 qa ga bits p z) (b1 : Below w.heap.size w W1) (f2 : FAt W1.heap.size W2 qb gb bits p z) (b2 : Below W1.heap.size W1 W2) (f3 : FAt W2.heap.size W3 qc gc bits p z) (b3 : Below W2.heap.size W2 W3) : ThreeF w.heap.size w W3 qa ga qb gb qc gc bits p z z z := by
  have k1 := f1.fw.wr.lt
  have k2 := f1.fw.fc.lt
  have k3 := f2.fw.wr.lt
  have k4 := f2.fw.fc.lt
  have k5 := f1.lg
  have k6 := f2.lg
  have k7 := f3.lg
  have k8 := f2.lq
  have k9 := f3.lq
  have s1 := b1.size
  have s2 := b2.size
  have bb := b1.trans (b2.mono s1)
  exact ⟨(f1.fw.below b2).below b3, f2.fw.below b3, f3.fw, bb.trans (b3.mono (by omega)), by omega, by omega, by omega, by omega, by omega, by omega, by omega, by omega, by omega, by omega, by omega, by omega⟩
/-- How far the loop is. -/
structure OI (w W : World) (qa ga qb gb qc gc bits p : Nat) (AA : List (List UInt8) → Nat → Nat) (L : List (List UInt8)) (k : Nat) (XB XC : List (List UInt8)) : Prop where
  t : ThreeF w.heap.size w W qa ga qb gb qc gc bits p (AA (L.take k)) (AA XB) (AA XC)
  b1 : ∀ x ∈ XB, x ∈ L
  b2 : ∀ x ∈ L.take k, x ∈ XB
  c1 : ∀ x ∈ XC, x ∈ L
theorem OI.next {w W W' : World} {qa ga qb gb qc gc bits p : Nat} {AA : List (List UInt8) → Nat → Nat} {L : List (List UInt8)} {k : Nat} {XB XC : List (List UInt8)} (h : OI w W qa ga qb gb qc gc bits p AA L k XB XC) {x y : List UInt8} {d : Nat} (hx : L[k]? = some x) (hy : L[d]? = some y) (D : List (List UInt8)) (hD : ∀ z ∈ D, z = x)
    (t : ThreeF w.heap.size w W' qa ga qb gb qc gc bits p (AA (L.take k ++ [x])) (AA (XB ++ [y] ++ [x])) (AA (XC ++ D))) : OI w W' qa ga qb gb qc gc bits p AA L (k + 1) (XB ++ [y] ++ [x]) (XC ++ D) := by
  have e : L.take (k + 1) = L.take k ++ [x] := by rw [List.take_add_one, hx, Option.toList]
  have mx := List.mem_of_getElem? hx
  have my := List.mem_of_getElem? hy
  refine ⟨by rw [e]; exact t, fun z hz => ?_, fun z hz => ?_, fun z hz => ?_⟩
  · simp only [List.mem_append, List.mem_singleton] at hz
    rcases hz with (hz | rfl) | rfl
    · exact h.b1 z hz
    · exact my
    · exact mx
  · rw [e] at hz
    simp only [List.mem_append, List.mem_singleton] at hz ⊢
    rcases hz with hz | rfl
    · exact .inl (.inl (h.b2 z hz))
    · exact .inr rfl
  · rcases List.mem_append.1 hz with hz | hz
    · exact h.c1 z hz
    · rw [hD z hz]; exact mx
set_option maxRecDepth 100000 in
set_option maxHeartbeats 8000000 in
theorem order_all (a1 : Option Addr) (L : List (List UInt8)) (c1 : Nat) (x y : Int) (w : World) (hL : All32 L) (hn : L.length ≤ 4398046511104) (hl1 : Hl w a1 L) :
    Calls Try.prog 7 #[.slice a1 L.length c1, .int .i64 x, .int .i64 y] w fun e w' => e = .returned (.bool true) ∧ Below w.heap.size w w' := by
  obtain ⟨m, hm⟩ : ∃ m : Nat, x % 64 = (m : Int) := ⟨(x % 64).toNat, by omega⟩
  obtain ⟨r, hr⟩ : ∃ r : Nat, y % 16 = (r : Int) := ⟨(y % 16).toNat, by omega⟩
  have hm1 : m < 64 := by omega
  have hr1 : r < 16 := by omega
  have H11a : Hid (∀ W, Calls Try.prog 11 #[.int .i64 x, .int .i64 64] W fun e w' => e = .returned (.int .i64 (m : Int)) ∧ w' = W) := fun W => by have := which_any x 64 W (by omega) (by omega); rw [show ((64 : Nat) : Int) = 64 from rfl, hm] at this; exact this
  have H11b : Hid (∀ W, Calls Try.prog 11 #[.int .i64 y, .int .i64 16] W fun e w' => e = .returned (.int .i64 (r : Int)) ∧ w' = W) := fun W => by have := which_any y 16 W (by omega) (by omega); rw [show ((16 : Nat) : Int) = 16 from rfl, hr] at this; exact this
  clear hm hr
  obtain ⟨bits, hbits⟩ : ∃ b : Nat, 8 * (1 + m) = b := ⟨_, rfl⟩
  obtain ⟨p, hp⟩ : ∃ b : Nat, 1 + r = b := ⟨_, rfl⟩
  have eb : 8 * (1 + (m : Int)) = (bits : Int) := by omega
  have ep : 1 + (r : Int) = (p : Int) := by omega
  have hb8 : 8 ≤ bits := by omega
  have hbm : bits ≤ 512 := by omega
  have hb0 : 0 < bits := by omega
  have hp1 : 1 ≤ p := by omega
  have hp2 : p ≤ 16 := by omega
  have H18a : Hid (∀ W, Calls Try.prog 18 #[.int .i64 (bits : Int), .int .i64 (p : Int)] W (NwPost bits p W)) := fun W => new_post bits p W hb8 (by omega) (by omega) hp1 hp2
  have H18b := Hid.mk' H18a.out
  have H18c := Hid.mk' H18a.out
  have HLT : Hid (∀ X i, addL bits hb0 p (fun _ => 0) X i < 18446744073709551616) := fun X i => addL_lt hb0 p (fun i => by omega) X i
  have HSN : Hid (∀ X h, addL bits hb0 p (fun _ => 0) (X ++ [h]) = setAll (addL bits hb0 p (fun _ => 0) X) (spotL h bits hb0 p)) := fun X h => addL_snoc _ hb0 p _ X h
  have HSM : Hid (∀ X, (∀ x ∈ X, x ∈ L) → (∀ x ∈ L, x ∈ X) → addL bits hb0 p (fun _ => 0) X = addL bits hb0 p (fun _ => 0) L) := fun X h1 h2 => addL_same bits hb0 p h1 h2
  have HOR : Hid (∀ X, (∀ x ∈ X, x ∈ L) → orW (addL bits hb0 p (fun _ => 0) X) (addL bits hb0 p (fun _ => 0) L) ((bits + 63) / 64) = addL bits hb0 p (fun _ => 0) L) := fun X h1 => orW_sub bits hb0 p h1
  have HNIL : Hid (addL bits hb0 p (fun _ => 0) [] = fun _ => 0) := rfl
  have HCN : Hid (∃ c : Nat, c ≤ 1000000 ∧ cntW (addL bits hb0 p (fun _ => 0) L) ((bits + 63) / 64) = c ∧ (0 < L.length → 0 < c) ∧ (L.length = 0 → c = 0)) := by
    refine ⟨_, ?_, rfl, fun h => cnt_added hb0 hp1 h, fun h => ?_⟩
    · have := cntW_le (addL bits hb0 p (fun _ => 0) L) ((bits + 63) / 64)
      omega
    · rw [List.eq_nil_of_length_eq_zero h]
      exact cntW_zero _
  generalize addL bits hb0 p (fun _ => 0) = AA at *
  have HADA : Hid (∀ W qa ga qb gb qc gc X XB XC h, h.length = 32 → ThreeF w.heap.size w W qa ga qb gb qc gc bits p (AA X) (AA XB) (AA XC) → Calls Try.prog 12 #[.pointer (some ⟨qa, 0, none⟩), .agg (bs h)] W fun e w' => e = .returned (.tuple #[]) ∧ ThreeF w.heap.size w w' qa ga qb gb qc gc bits p (AA (X ++ [h])) (AA XB) (AA XC)) := fun W qa ga qb gb qc gc X XB XC h hh hT =>
    (add_any qa ga bits p (AA X) h W hh hb0 (by omega) hp2 hT.a (HLT.out X)).mono (by
      rintro e w' ⟨rfl, hf, hk⟩
      refine ⟨rfl, ?_⟩
      rw [HSN.out]
      exact hT.addA hf hk)
  have HADB : Hid (∀ W qa ga qb gb qc gc X XB XC h, h.length = 32 → ThreeF w.heap.size w W qa ga qb gb qc gc bits p (AA X) (AA XB) (AA XC) → Calls Try.prog 12 #[.pointer (some ⟨qb, 0, none⟩), .agg (bs h)] W fun e w' => e = .returned (.tuple #[]) ∧ ThreeF w.heap.size w w' qa ga qb gb qc gc bits p (AA X) (AA (XB ++ [h])) (AA XC)) := fun W qa ga qb gb qc gc X XB XC h hh hT =>
    (add_any qb gb bits p (AA XB) h W hh hb0 (by omega) hp2 hT.b (HLT.out XB)).mono (by
      rintro e w' ⟨rfl, hf, hk⟩
      refine ⟨rfl, ?_⟩
      rw [HSN.out]
      exact hT.addB hf hk)
  have HADC : Hid (∀ W qa ga qb gb qc gc X XB XC h, h.length = 32 → ThreeF w.heap.size w W qa ga qb gb qc gc bits p (AA X) (AA XB) (AA XC) → Calls Try.prog 12 #[.pointer (some ⟨qc, 0, none⟩), .agg (bs h)] W fun e w' => e = .returned (.tuple #[]) ∧ ThreeF w.heap.size w w' qa ga qb gb qc gc bits p (AA X) (AA XB) (AA (XC ++ [h]))) := fun W qa ga qb gb qc gc X XB XC h hh hT =>
    (add_any qc gc bits p (AA XC) h W hh hb0 (by omega) hp2 hT.c (HLT.out XC)).mono (by
      rintro e w' ⟨rfl, hf, hk⟩
      refine ⟨rfl, ?_⟩
      rw [HSN.out]
      exact hT.addC hf hk)
  have HJN : Hid (∀ W qa ga qb gb qc gc XC, (∀ x ∈ XC, x ∈ L) → ThreeF w.heap.size w W qa ga qb gb qc gc bits p (AA L) (AA L) (AA XC) → Calls Try.prog 14 #[.pointer (some ⟨qc, 0, none⟩), .pointer (some ⟨qa, 0, none⟩)] W fun e w' => e = .returned (.int .i64 0) ∧ ThreeF w.heap.size w w' qa ga qb gb qc gc bits p (AA L) (AA L) (AA L)) := fun W qa ga qb gb qc gc XC hX hT =>
    (join_any qc gc qa ga bits p (AA XC) (AA L) W hT.c hT.a hT.d.2.1.symm (fun e => hT.c.fc.ne e.symm) hT.d.2.2.2.2.1 (HLT.out XC) (HLT.out L) (by omega)).mono (by
      rintro e w' ⟨rfl, hf, hk⟩
      rw [HOR.out XC hX] at hf
      exact ⟨rfl, hT.joinC hf hk⟩)
  have HEA : Hid (∀ W qa ga qb gb qc gc wb wc, ThreeF w.heap.size w W qa ga qb gb qc gc bits p (AA L) wb wc → Calls Try.prog 34 #[.pointer (some ⟨qa, 0, none⟩)] W (EnPost (encF bits p (AA L)) W)) := fun W qa ga qb gb qc gc wb wc hT => enc_post qa ga bits p (AA L) W hT.a (HLT.out L) hb8 (by omega) hp2
  have HEB : Hid (∀ W qa ga qb gb qc gc wa wc, ThreeF w.heap.size w W qa ga qb gb qc gc bits p wa (AA L) wc → Calls Try.prog 34 #[.pointer (some ⟨qb, 0, none⟩)] W (EnPost (encF bits p (AA L)) W)) := fun W qa ga qb gb qc gc wa wc hT => enc_post qb gb bits p (AA L) W hT.b (HLT.out L) hb8 (by omega) hp2
  have HEC : Hid (∀ W qa ga qb gb qc gc wa wb, ThreeF w.heap.size w W qa ga qb gb qc gc bits p wa wb (AA L) → Calls Try.prog 34 #[.pointer (some ⟨qc, 0, none⟩)] W (EnPost (encF bits p (AA L)) W)) := fun W qa ga qb gb qc gc wa wb hT => enc_post qc gc bits p (AA L) W hT.c (HLT.out L) hb8 (by omega) hp2
  have HSA : Hid (∀ W b1 b2 c1 c2, K.Byt W (some ⟨b1, 0, none⟩) (encF bits p (AA L)) → K.Byt W (some ⟨b2, 0, none⟩) (encF bits p (AA L)) → Calls Try.prog 35 #[.slice (some ⟨b1, 0, none⟩) (encF bits p (AA L)).length c1, .slice (some ⟨b2, 0, none⟩) (encF bits p (AA L)).length c2] W fun e w' => e = .returned (.bool true) ∧ Below W.heap.size W w') := fun W b1 b2 c1 c2 h1 h2 => same_post _ _ _ c1 c2 W h1 h2 (encF_len bits p (AA L) (by omega))
  obtain ⟨c, hc0, hc1, hc2, hc3⟩ := HCN.out
  have HST : Hid (∀ W qa ga qb gb qc gc wb wc, ThreeF w.heap.size w W qa ga qb gb qc gc bits p (AA L) wb wc → (Calls Try.prog 33 #[.pointer (some ⟨qa, 0, none⟩)] W fun e w' => e = .returned (.int .i64 (c : Int)) ∧ w' = W) ∧ (Calls Try.prog 32 #[.pointer (some ⟨qa, 0, none⟩)] W fun e w' => e = .returned (.int .i64 (bits : Int)) ∧ w' = W)) := fun W qa ga qb gb qc gc wb wc hT => by
    have := set_any qa ga bits p (AA L) W hT.a (HLT.out L) (by omega)
    rw [hc1] at this
    exact ⟨this, bits_any qa ga bits p W hT.a.fc⟩
  have HMK : Hid (∀ W1 W2 W3 qa ga qb gb qc gc, FAt w.heap.size W1 qa ga bits p (fun _ => 0) → Below w.heap.size w W1 → FAt W1.heap.size W2 qb gb bits p (fun _ => 0) → Below W1.heap.size W1 W2 → FAt W2.heap.size W3 qc gc bits p (fun _ => 0) → Below W2.heap.size W2 W3 → OI w W3 qa ga qb gb qc gc bits p AA L 0 [] []) := fun W1 W2 W3 qa ga qb gb qc gc f1 b1 f2 b2 f3 b3 =>
    ⟨by rw [List.take_zero, HNIL.out]; exact ThreeF.mk0 f1 b1 f2 b2 f3 b3, fun z hz => (by cases hz), fun z hz => (by rw [List.take_zero] at hz; cases hz), fun z hz => (by cases hz)⟩
  generalize encF bits p (AA L) = EN at *
  have HL1 := Hid.mk' (fun W (h : Below w.heap.size w W) => hl1.below hL h)
  have HA1 := Hid.mk' hL
  have HCN2 := Hid.mk' (And.intro hc0 (And.intro hc2 hc3))
  clear hl1 hL HLT HSN HOR HNIL HCN hc0 hc1 hc2 hc3 hbits hp
  generalize hnL : L.length = n at *
  have HNL := Hid.mk' hnL
  clear hnL
  go_enter Try.func7, Try.ntmps7
  go_wp2_with (first
    | (go_at_call 11; refine (H11a.out _).mono ?_; rintro e W0 ⟨rfl, hw⟩; obtain rfl := hw.symm; clear hw H11a)
    | (go_at_call 11; refine (H11b.out _).mono ?_; rintro e W0 ⟨rfl, hw⟩; obtain rfl := hw.symm; clear hw H11b)
    | (go_at_call 18; refine (H18a.out _).mono ?_; rintro e W1 ⟨qa, ga, rfl, f1, b1⟩; have F1 := Hid.mk' f1; have B1 := Hid.mk' b1; clear f1 b1 H18a)
    | (go_at_call 18; refine (H18b.out _).mono ?_; rintro e W2 ⟨qb, gb, rfl, f2, b2⟩; have F2 := Hid.mk' f2; have B2 := Hid.mk' b2; clear f2 b2 H18b)
    | (go_at_call 18; refine (H18c.out _).mono ?_; rintro e W3 ⟨qc, gc, rfl, f3, b3⟩; have T0 := Hid.mk' (HMK.out _ _ _ _ _ _ _ _ _ F1.out B1.out F2.out B2.out f3 b3); clear f3 b3 H18c F1 B1 F2 B2 HMK)
    | fail)
  clear eb ep
  go_loopw [13] (fun i wr => ∃ k : Nat, k ≤ n ∧ i = .int .i64 (k : Int) ∧ Hid (∃ XB XC, OI w wr qa ga qb gb qc gc bits p AA L k XB XC)) (fun i _ => n - (intOf i).toNat)
  case atStart => exact ⟨0, by omega, rfl, ⟨_, _, T0.out⟩⟩
  case round =>
    obtain ⟨k, hk, rfl, HT⟩ := hrel
    obtain ⟨XB, XC, ht⟩ := HT.out
    have HO := Hid.mk' ht
    clear T0 ht HT
    by_cases hkn : k < n
    · have hkn' : (k : Int) < (n : Int) := by omega
      obtain ⟨d, hd⟩ : ∃ d : Nat, n = d + k + 1 := ⟨n - 1 - k, by omega⟩
      have hds : (n : Int) - 1 - (k : Int) = (d : Int) := by omega
      have hdn : d < n := by omega
      clear hd
      obtain ⟨b, off, rfl, hs⟩ := (HL1.out wr HO.out.t.be).at (i := k) (by rw [HNL.out]; exact hkn)
      obtain ⟨h, hh⟩ : ∃ h, L[k]? = some h := ⟨L[k]'(by rw [HNL.out]; exact hkn), List.getElem?_eq_getElem _⟩
      obtain ⟨h2, hh2⟩ : ∃ h, L[d]? = some h := ⟨L[d]'(by rw [HNL.out]; exact hdn), List.getElem?_eq_getElem _⟩
      have HRB : Hid (∀ W, Below w.heap.size w W → W.rangeAt b (off + 32 * k) (hcs h) ∧ W.rangeAt b (off + 32 * d) (hcs h2)) := fun W hb => by
        obtain ⟨b', off', e, hs'⟩ := (HL1.out W hb).at (i := k) (by rw [HNL.out]; exact hkn)
        cases e
        exact ⟨hs' k h hh, hs' d h2 hh2⟩
      have HH := Hid.mk' (HA1.out.get hh)
      have HH2 := Hid.mk' (HA1.out.get hh2)
      have ix := fun wx => indexH b off n c1 k wx hkn
      have ix2 := fun wx => indexH b off n c1 d wx hdn
      have HNX := Hid.mk' (fun W' D hD => HO.out.next (W' := W') hh hh2 D hD)
      have R1 := Hid.mk' (HRB.out _ HO.out.t.be).1
      have C1 := Hid.mk' (HADA.out wr qa ga qb gb qc gc _ _ _ h HH.out HO.out.t)
      clear hs hh hh2 HL1 HA1 HJN HEA HEB HEC HSA HST HCN2 HSM HO
      rcases Nat.mod_two_eq_zero_or_one k with hk2 | hk2
      · have hr2 : (k : Int).tmod 2 = 0 := by rw [Int.tmod_eq_emod_of_nonneg (by omega)]; omega
        clear hk2
        go_wp2_with (first
          | (with_reducible refine at_ld ?_; refine wpList_ld (.tmp 66) rfl rfl b (off + 32 * k) rfl h HH.out R1.out ?_)
          | (go_at_call 12; refine C1.out.mono ?_; clear C1; rintro e W4 ⟨rfl, t4⟩; have R2 := Hid.mk' (HRB.out _ t4.be).2; have C2 := Hid.mk' (HADB.out _ _ _ _ _ _ _ _ _ _ h2 HH2.out t4); clear t4)
          | (with_reducible refine at_ld ?_; refine wpList_ld (.tmp 76) rfl rfl b (off + 32 * d) rfl h2 HH2.out R2.out ?_)
          | (go_at_call 12; refine C2.out.mono ?_; clear C2; rintro e W5 ⟨rfl, t5⟩; have R3 := Hid.mk' (HRB.out _ t5.be).1; have C3 := Hid.mk' (HADB.out _ _ _ _ _ _ _ _ _ _ h HH.out t5); clear t5)
          | (with_reducible refine at_ld ?_; refine wpList_ld (.tmp 82) rfl rfl b (off + 32 * k) rfl h HH.out R3.out ?_)
          | (go_at_call 12; refine C3.out.mono ?_; clear C3; rintro e W6 ⟨rfl, t6⟩; have R4 := Hid.mk' (HRB.out _ t6.be).1; have C4 := Hid.mk' (HADC.out _ _ _ _ _ _ _ _ _ _ h HH.out t6); clear t6)
          | (with_reducible refine at_ld ?_; refine wpList_ld (.tmp 91) rfl rfl b (off + 32 * k) rfl h HH.out R4.out ?_)
          | (go_at_call 12; refine C4.out.mono ?_; clear C4; rintro e W7 ⟨rfl, t7⟩; have T7 := Hid.mk' (HNX.out _ [h] (fun z hz => List.mem_singleton.1 hz) t7); clear t7)
          | fail)
        exact ⟨⟨k + 1, by omega, by go_num, ⟨_, _, T7.out⟩⟩, by simp [intOf]; omega⟩
      · have hr2 : (k : Int).tmod 2 = 1 := by rw [Int.tmod_eq_emod_of_nonneg (by omega)]; omega
        clear hk2
        go_wp2_with (first
          | (with_reducible refine at_ld ?_; refine wpList_ld (.tmp 66) rfl rfl b (off + 32 * k) rfl h HH.out R1.out ?_)
          | (go_at_call 12; refine C1.out.mono ?_; clear C1; rintro e W4 ⟨rfl, t4⟩; have R2 := Hid.mk' (HRB.out _ t4.be).2; have C2 := Hid.mk' (HADB.out _ _ _ _ _ _ _ _ _ _ h2 HH2.out t4); clear t4)
          | (with_reducible refine at_ld ?_; refine wpList_ld (.tmp 76) rfl rfl b (off + 32 * d) rfl h2 HH2.out R2.out ?_)
          | (go_at_call 12; refine C2.out.mono ?_; clear C2; rintro e W5 ⟨rfl, t5⟩; have R3 := Hid.mk' (HRB.out _ t5.be).1; have C3 := Hid.mk' (HADB.out _ _ _ _ _ _ _ _ _ _ h HH.out t5); clear t5)
          | (with_reducible refine at_ld ?_; refine wpList_ld (.tmp 82) rfl rfl b (off + 32 * k) rfl h HH.out R3.out ?_)
          | (go_at_call 12; refine C3.out.mono ?_; clear C3; rintro e W6 ⟨rfl, t6⟩; have T7 := Hid.mk' (HNX.out _ [] (fun z hz => by cases hz) (by rw [List.append_nil]; exact t6)); clear t6)
          | fail)
        exact ⟨⟨k + 1, by omega, by go_num, ⟨_, _, T7.out⟩⟩, by simp [intOf]; omega⟩
    · obtain rfl : k = n := by omega
      have hkn' : ¬ (k : Int) < (k : Int) := by omega
      have hTM : L.take k = L := by rw [← HNL.out, List.take_length]
      have T1 : Hid (ThreeF w.heap.size w wr qa ga qb gb qc gc bits p (AA L) (AA L) (AA XC)) := by
        have t := HO.out.t
        have b2 := HO.out.b2
        rw [hTM] at t b2
        rw [HSM.out XB HO.out.b1 b2] at t
        exact t
      have HXC := Hid.mk' HO.out.c1
      have HJ := Hid.mk' (fun W => HJN.out W qa ga qb gb qc gc XC HXC.out)
      clear hTM HADA HADB HADC HJN HSM HO HL1 HA1
      have E1 := Hid.mk' (HEA.out _ _ _ _ _ _ _ _ _ T1.out)
      obtain ⟨hc0, hc2, hc3⟩ := HCN2.out
      clear HCN2
      rcases Nat.eq_zero_or_pos k with hz | hz
      · have cz := hc3 hz
        subst hz cz
        clear hc2 hc3
        go_wp2_with (first
          | (go_at_call 34; refine E1.out.mono ?_; clear E1; rintro e W4 ⟨b4, c4, rfl, y4, l4⟩; have Y4 := Hid.mk' y4; have T4 := Hid.mk' (T1.out.below l4); have E2 := Hid.mk' (HEB.out _ _ _ _ _ _ _ _ _ T4.out); clear y4 l4 T1)
          | (go_at_call 34; refine E2.out.mono ?_; clear E2; rintro e W5 ⟨b5, c5, rfl, y5, l5⟩; have T5 := Hid.mk' (T4.out.below l5); have S1 := Hid.mk' (HSA.out _ _ _ c4 c5 (Y4.out _ l5) (y5 _ (Below.refl _ _))); clear y5 l5 T4 Y4)
          | (go_at_call 35; refine S1.out.mono ?_; clear S1; rintro e W6 ⟨rfl, l6⟩; have J6 := Hid.mk' (HJ.out _ (T5.out.below l6)); clear l6 T5)
          | (go_at_call 14; refine J6.out.mono ?_; clear J6; rintro e W7 ⟨rfl, t7⟩; have T7 := Hid.mk' t7; clear t7; have E4 := Hid.mk' (HEA.out _ _ _ _ _ _ _ _ _ T7.out))
          | (go_at_call 34; refine E4.out.mono ?_; clear E4; rintro e W8 ⟨b8, c8, rfl, y8, l8⟩; have Y8 := Hid.mk' y8; have T8 := Hid.mk' (T7.out.below l8); have E5 := Hid.mk' (HEC.out _ _ _ _ _ _ _ _ _ T8.out); clear y8 l8 T7)
          | (go_at_call 34; refine E5.out.mono ?_; clear E5; rintro e W9 ⟨b9, c9, rfl, y9, l9⟩; have T9 := Hid.mk' (T8.out.below l9); have S2 := Hid.mk' (HSA.out _ _ _ c8 c9 (Y8.out _ l9) (y9 _ (Below.refl _ _))); clear y9 l9 T8 Y8)
          | (go_at_call 35; refine S2.out.mono ?_; clear S2; rintro e W10 ⟨rfl, l10⟩; have T10 := Hid.mk' (T9.out.below l10); have Q1 := Hid.mk' (HST.out _ _ _ _ _ _ _ _ _ T10.out); clear l10 T9)
          | (go_at_call 33; refine Q1.out.1.mono ?_; rintro e W11 ⟨rfl, hw⟩; obtain rfl := hw.symm; clear hw)
          | (go_at_call 32; refine Q1.out.2.mono ?_; rintro e W11 ⟨rfl, hw⟩; obtain rfl := hw.symm; clear hw)
          | fail)
        go_ret
        exact ⟨rfl, T10.out.be⟩
      · have cz := hc2 hz
        have cz' : (0 : Int) < (c : Int) := by omega
        have hz' : (0 : Int) < (k : Int) := by omega
        clear hc2 hc3
        go_wp2_with (first
          | (go_at_call 34; refine E1.out.mono ?_; clear E1; rintro e W4 ⟨b4, c4, rfl, y4, l4⟩; have Y4 := Hid.mk' y4; have T4 := Hid.mk' (T1.out.below l4); have E2 := Hid.mk' (HEB.out _ _ _ _ _ _ _ _ _ T4.out); clear y4 l4 T1)
          | (go_at_call 34; refine E2.out.mono ?_; clear E2; rintro e W5 ⟨b5, c5, rfl, y5, l5⟩; have T5 := Hid.mk' (T4.out.below l5); have S1 := Hid.mk' (HSA.out _ _ _ c4 c5 (Y4.out _ l5) (y5 _ (Below.refl _ _))); clear y5 l5 T4 Y4)
          | (go_at_call 35; refine S1.out.mono ?_; clear S1; rintro e W6 ⟨rfl, l6⟩; have J6 := Hid.mk' (HJ.out _ (T5.out.below l6)); clear l6 T5)
          | (go_at_call 14; refine J6.out.mono ?_; clear J6; rintro e W7 ⟨rfl, t7⟩; have T7 := Hid.mk' t7; clear t7; have E4 := Hid.mk' (HEA.out _ _ _ _ _ _ _ _ _ T7.out))
          | (go_at_call 34; refine E4.out.mono ?_; clear E4; rintro e W8 ⟨b8, c8, rfl, y8, l8⟩; have Y8 := Hid.mk' y8; have T8 := Hid.mk' (T7.out.below l8); have E5 := Hid.mk' (HEC.out _ _ _ _ _ _ _ _ _ T8.out); clear y8 l8 T7)
          | (go_at_call 34; refine E5.out.mono ?_; clear E5; rintro e W9 ⟨b9, c9, rfl, y9, l9⟩; have T9 := Hid.mk' (T8.out.below l9); have S2 := Hid.mk' (HSA.out _ _ _ c8 c9 (Y8.out _ l9) (y9 _ (Below.refl _ _))); clear y9 l9 T8 Y8)
          | (go_at_call 35; refine S2.out.mono ?_; clear S2; rintro e W10 ⟨rfl, l10⟩; have T10 := Hid.mk' (T9.out.below l10); have Q1 := Hid.mk' (HST.out _ _ _ _ _ _ _ _ _ T10.out); clear l10 T9)
          | (go_at_call 33; refine Q1.out.1.mono ?_; rintro e W11 ⟨rfl, hw⟩; obtain rfl := hw.symm; clear hw)
          | (go_at_call 32; refine Q1.out.2.mono ?_; rintro e W11 ⟨rfl, hw⟩; obtain rfl := hw.symm; clear hw)
          | fail)
        go_ret
        exact ⟨rfl, T10.out.be⟩
end Go.Proofs.Ytdajeabhhkgibaa
