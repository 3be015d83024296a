import Derived.Test.YtefoipjbbfcjhaaDoorDy
namespace Go.Proofs.YtefoipjbbfcjhaaDoor
open Go.RowKit
set_option linter.unusedVariables false
set_option linter.unusedSimpArgs false

theorem rd_sV {w : World} {base n c : Nat} {a : Option Addr} {A : List Nat} (h : w.ownsRow base 9 1 (.slice a n c) n (sV A)) : Rd w a (A.map fun n : Nat => Value.string (Utf8.encode (n : Int))) := own_rd h
set_option maxRecDepth 100000 in
set_option maxHeartbeats 4000000 in
/-- The loop alone. -/
theorem scriptR_of (s t : ByteArray) (w : World) (hs : s.size ≤ 1048576) (ht : t.size ≤ 1048576)
    (HRO : Hid (∀ (A B : List Nat) aA aB cA cB W, Chs W aA A.length (fun i => .string (Utf8.encode ((A.getD i 0 : Nat) : Int))) → Chs W aB B.length (fun i => .string (Utf8.encode ((B.getD i 0 : Nat) : Int))) → (∀ n ∈ A, Chr n) → (∀ n ∈ B, Chr n) → A.length ≤ 1048576 → B.length ≤ 1048576 → (2000 < A.length ∨ 2000 < B.length) →
      Calls Tryd.prog 17 #[.slice aA A.length cA, .slice aB B.length cB] W fun e w' => ∃ v, e = .returned v ∧ w'.ownsRow W.heap.size 34 7 v (scrL A B).length (pV (scrL A B)) ∧ Below W.heap.size W w')) :
    Calls Tryd.prog 7 #[.string s, .string t] w fun e w' => ∃ v, e = .returned v ∧ w'.ownsRow w.heap.size 34 7 v (scr s t).length (pV (scr s t)) ∧ Below w.heap.size w w' := by
  have HS : Hid (scr s t = if Lib.validD s.data.toList = true ∧ Lib.validD t.data.toList = true then scrL (rn s) (rn t) else []) := rfl
  have HV := Hid.mk' (fun W => Q.utf8_any s W (by omega))
  have HU := Hid.mk' (fun W => Q.utf8_any t W (by omega))
  have HP := Hid.mk' (fun W => split_any s W (by omega))
  have HQ := Hid.mk' (fun W => split_any t W (by omega))
  have HCA := Hid.mk' (rn_chr (s := s))
  have HCB := Hid.mk' (rn_chr (s := t))
  generalize scr s t = SC at *
  generalize hv1 : Lib.validD s.data.toList = V1 at *
  generalize hv2 : Lib.validD t.data.toList = V2 at *
  clear hv1 hv2
  cases V1
  · have HS' : Hid (SC = []) := by show _ = _; rw [HS.out]; rfl
    go_enter Tryd.func7, Tryd.ntmps7
    go_wp2_with (first
      | (go_at_call 8; refine (HV.out _).mono ?_; rintro e W1 ⟨rfl, rfl⟩)
      | fail)
    go_ret
    exact ⟨_, rfl, by rw [HS'.out]; exact World.ownsRow_nil _ _ _ _, Below.refl _ _⟩
  cases V2
  · have HS' : Hid (SC = []) := by show _ = _; rw [HS.out]; rfl
    go_enter Tryd.func7, Tryd.ntmps7
    go_wp2_with (first
      | (go_at_call_of 8 s; refine (HV.out _).mono ?_; rintro e W1 ⟨rfl, rfl⟩)
      | (go_at_call_of 8 t; refine (HU.out _).mono ?_; rintro e W1 ⟨rfl, rfl⟩)
      | fail)
    go_ret
    exact ⟨_, rfl, by rw [HS'.out]; exact World.ownsRow_nil _ _ _ _, Below.refl _ _⟩
  have HS' : Hid (SC = scrL (rn s) (rn t)) := by show _ = _; rw [HS.out]; rfl
  have hrs := rn_len s
  have hrt := rn_len t
  have HS2 := Hid.mk' hs
  have HA1 : Hid (∀ n ∈ rn s, Chr n) := HCA.out rfl
  have HB1 : Hid (∀ n ∈ rn t, Chr n) := HCB.out rfl
  have HP1 := Hid.mk' (fun W => HP.out W rfl)
  have HQ1 := Hid.mk' (fun W => HQ.out W rfl)
  clear HCA HCB HP HQ HS
  generalize rn s = A at *
  generalize rn t = B at *
  have hla0 : A.length ≤ 1048576 := by omega
  have hlb0 : B.length ≤ 1048576 := by omega
  have hbig : (2000 < A.length) ∨ (¬ 2000 < A.length ∧ 2000 < B.length) ∨ (¬ 2000 < A.length ∧ ¬ 2000 < B.length) := by omega
  rcases hbig with q1 | ⟨q1, q2⟩ | ⟨q1, q2⟩
  · have HR := Hid.mk' (fun aA aB cA cB W h1 h2 => HRO.out A B aA aB cA cB W h1 h2 HA1.out HB1.out hla0 hlb0 (.inl q1))
    have q1' : (2000 : Int) < (A.length : Int) := by omega
    go_enter Tryd.func7, Tryd.ntmps7
    go_wp2_with (first
      | (go_at_call_of 8 s; refine (HV.out _).mono ?_; rintro e W1 ⟨rfl, hw⟩; obtain rfl := hw.symm)
      | (go_at_call_of 8 t; refine (HU.out _).mono ?_; rintro e W1 ⟨rfl, hw⟩; obtain rfl := hw.symm)
      | (go_at_call_of 16 s; refine (HP1.out _).mono ?_; rintro e W2 ⟨va, rfl, own2, b2⟩; obtain ⟨aA, cA, rfl⟩ := own_sl own2; have RA2 := Hid.mk' (rd_sV own2); have B2 := Hid.mk' b2; clear own2 b2)
      | (go_at_call_of 16 t; refine (HQ1.out _).mono ?_; rintro e W3 ⟨vb, rfl, own3, b3⟩; obtain ⟨aB, cB, rfl⟩ := own_sl own3; have RB := Hid.mk' (rd_sV own3); have RA := Hid.mk' (RA2.out.below b3); have B3 := Hid.mk' (B2.out.trans (b3.mono B2.out.size)); clear own3 b3 RA2 B2)
      | (go_at_call 17; refine (HR.out _ _ _ _ _ (rd_chsS RA.out) (rd_chsS RB.out)).mono ?_; rintro e W4 ⟨v, rfl, own4, b4⟩; have HO4 := Hid.mk' (own_base own4 B3.out.size); have HB4 := Hid.mk' (B3.out.trans (b4.mono B3.out.size)); clear own4 b4)
      | fail)
    go_ret
    exact ⟨v, rfl, by rw [HS'.out]; exact HO4.out, HB4.out⟩
  · have HR := Hid.mk' (fun aA aB cA cB W h1 h2 => HRO.out A B aA aB cA cB W h1 h2 HA1.out HB1.out hla0 hlb0 (.inr q2))
    have q1' : ¬ (2000 : Int) < (A.length : Int) := by omega
    have q2' : (2000 : Int) < (B.length : Int) := by omega
    go_enter Tryd.func7, Tryd.ntmps7
    go_wp2_with (first
      | (go_at_call_of 8 s; refine (HV.out _).mono ?_; rintro e W1 ⟨rfl, hw⟩; obtain rfl := hw.symm)
      | (go_at_call_of 8 t; refine (HU.out _).mono ?_; rintro e W1 ⟨rfl, hw⟩; obtain rfl := hw.symm)
      | (go_at_call_of 16 s; refine (HP1.out _).mono ?_; rintro e W2 ⟨va, rfl, own2, b2⟩; obtain ⟨aA, cA, rfl⟩ := own_sl own2; have RA2 := Hid.mk' (rd_sV own2); have B2 := Hid.mk' b2; clear own2 b2)
      | (go_at_call_of 16 t; refine (HQ1.out _).mono ?_; rintro e W3 ⟨vb, rfl, own3, b3⟩; obtain ⟨aB, cB, rfl⟩ := own_sl own3; have RB := Hid.mk' (rd_sV own3); have RA := Hid.mk' (RA2.out.below b3); have B3 := Hid.mk' (B2.out.trans (b3.mono B2.out.size)); clear own3 b3 RA2 B2)
      | (go_at_call 17; refine (HR.out _ _ _ _ _ (rd_chsS RA.out) (rd_chsS RB.out)).mono ?_; rintro e W4 ⟨v, rfl, own4, b4⟩; have HO4 := Hid.mk' (own_base own4 B3.out.size); have HB4 := Hid.mk' (B3.out.trans (b4.mono B3.out.size)); clear own4 b4)
      | fail)
    go_ret
    exact ⟨v, rfl, by rw [HS'.out]; exact HO4.out, HB4.out⟩
  · have HL := Hid.mk' (fun aA aB cA cB W h1 h2 => lengths_abs A.length B.length (fun i => A.getD i 0) (fun j => B.getD j 0) (lc A B) (fil A B) aA aB cA cB W (fun n => Utf8.encode (n : Int)) (fun i j hi hj => enc_inj (HA1.out _ (by simp [List.getD, hi])) (HB1.out _ (by simp [List.getD, hj]))) (lcF A B) h1 h2 (by omega) (by omega))
    have q1' : ¬ (2000 : Int) < (A.length : Int) := by omega
    have q2' : ¬ (2000 : Int) < (B.length : Int) := by omega
    have HS3 : Hid (SC = rest A B 0 0 0 0) := by show _ = _; rw [HS'.out, scrL, if_neg (by omega)]
    have HEQ : Hid (∀ i j, i < A.length → j < B.length → (Utf8.encode ((A.getD i 0 : Nat) : Int) = Utf8.encode ((B.getD j 0 : Nat) : Int) ↔ A.getD i 0 = B.getD j 0)) := fun i j hi hj => enc_inj (HA1.out _ (by simp [List.getD, hi])) (HB1.out _ (by simp [List.getD, hj]))
    have HLE := Hid.mk' (lc_le A B)
    clear HRO HS' HA1 HB1
    go_enter Tryd.func7, Tryd.ntmps7
    go_wp2_with (first
      | (go_at_call_of 8 s; refine (HV.out _).mono ?_; rintro e W1 ⟨rfl, hw⟩; obtain rfl := hw.symm)
      | (go_at_call_of 8 t; refine (HU.out _).mono ?_; rintro e W1 ⟨rfl, hw⟩; obtain rfl := hw.symm)
      | (go_at_call_of 16 s; refine (HP1.out _).mono ?_; rintro e W2 ⟨va, rfl, own2, b2⟩; obtain ⟨aA, cA, rfl⟩ := own_sl own2; have RA2 := Hid.mk' (rd_sV own2); have B2 := Hid.mk' b2; clear own2 b2)
      | (go_at_call_of 16 t; refine (HQ1.out _).mono ?_; rintro e W3 ⟨vb, rfl, own3, b3⟩; obtain ⟨aB, cB, rfl⟩ := own_sl own3; have RB := Hid.mk' (rd_sV own3); have RA := Hid.mk' (RA2.out.below b3); have B3 := Hid.mk' (B2.out.trans (b3.mono B2.out.size)); clear own3 b3 RA2 B2)
      | (go_at_call 18; refine (HL.out _ _ _ _ _ (rd_chsS RA.out) (rd_chsS RB.out)).mono ?_; rintro e W4 ⟨T, cT, rfl, Bl, HTab⟩; have HT := Hid.mk' HTab; have HCA := Hid.mk' (rd_chsS RA.out); have HCB := Hid.mk' (rd_chsS RB.out); clear HTab RA RB HL)
      | fail)
    have H0 : Hid (RS W4 (W4.alloc (.cells #[.slice none 0 0, .int .i64 0, .bool false] 46)) W4.heap.size A.length B.length A B SC 0 0) := by rw [HS3.out]; exact RS.start W4 A B _ _
    have HWB := Hid.mk' HT.out.bel
    have hla : A.length ≤ 2000 := by omega
    have hlb : B.length ≤ 2000 := by omega
    clear HV HU HP1 HQ1 HS3 hrs hrt q1' q2' q1 q2
    have HLa := Hid.mk' hla
    have HLb := Hid.mk' hlb
    have HKP : Hid (∀ wr i j, RS W4 wr W4.heap.size A.length B.length A B SC i j → i < A.length → j < B.length → A.getD i 0 = B.getD j 0 → Calls Tryd.prog 19 #[.pointer (some ⟨W4.heap.size, 0, none⟩)] wr fun e w' => e = .returned (.tuple #[]) ∧ RS W4 w' W4.heap.size A.length B.length A B SC (i + 1) (j + 1)) := fun wr i j h hi hj he => h.keep hi hj (by have := HLb.out; omega) he
    have HAW : Hid (∀ wr i j, RS W4 wr W4.heap.size A.length B.length A B SC i j → i < A.length → j ≤ B.length → (j < B.length → ¬ A.getD i 0 = B.getD j 0 ∧ lc A B i (j + 1) ≤ lc A B (i + 1) j) → Calls Tryd.prog 20 #[.pointer (some ⟨W4.heap.size, 0, none⟩)] wr fun e w' => e = .returned (.tuple #[]) ∧ RS W4 w' W4.heap.size A.length B.length A B SC (i + 1) j) := fun wr i j h hi hj hc => h.away hi hj HLa.out HLb.out hc
    have HIN : Hid (∀ wr i j, RS W4 wr W4.heap.size A.length B.length A B SC i j → i ≤ A.length → j < B.length → (i < A.length → ¬ A.getD i 0 = B.getD j 0 ∧ ¬ lc A B i (j + 1) ≤ lc A B (i + 1) j) → Calls Tryd.prog 21 #[.pointer (some ⟨W4.heap.size, 0, none⟩), .string (Utf8.encode ((B.getD j 0 : Nat) : Int))] wr fun e w' => e = .returned (.tuple #[]) ∧ RS W4 w' W4.heap.size A.length B.length A B SC i (j + 1)) := fun wr i j h hi hj hc => h.into hi hj HLa.out HLb.out hc
    have HFN : Hid (∀ wr i j, RS W4 wr W4.heap.size A.length B.length A B SC i j → i = A.length → j = B.length → ∃ lv, wr.cell? ⟨W4.heap.size, 0, none⟩ = some lv ∧ wr.ownsRow w.heap.size 34 7 lv SC.length (pV SC) ∧ Below w.heap.size w wr) := by
      intro wr i j h hi hj
      obtain ⟨lv, h1, h2⟩ := h.fin hi hj
      have b1 := HWB.out.trans (h.bel.mono HWB.out.size)
      have b2 := B3.out.trans (b1.mono B3.out.size)
      exact ⟨lv, h1, own_base h2 (Nat.le_trans B3.out.size HWB.out.size), b2⟩
    have HTG : Hid (∀ wr i j, RS W4 wr W4.heap.size A.length B.length A B SC i j → Below W3.heap.size W3 wr ∧ Tab W3 wr W3.heap.size T 3 .i64 0 (A.length + 1) (B.length + 1) Bl (lc A B)) := fun wr i j h => ⟨HWB.out.trans (h.bel.mono HWB.out.size), HT.out.grown h.bel⟩
    generalize hgA : A.length = la at *
    generalize hgB : B.length = lb at *
    have HGA := Hid.mk' hgA
    have HGB := Hid.mk' hgB
    clear hgA hgB HT HLa HLb HWB B3 HS2
    generalize hqq : W4.heap.size = q at *
    have HQQ := Hid.mk' hqq
    clear hqq
    go_loopw [9, 10] (fun x y wr => ∃ i j : Nat, i ≤ la ∧ j ≤ lb ∧ x = .int .i64 (i : Int) ∧ y = .int .i64 (j : Int) ∧ Hid (RS W4 wr q la lb A B SC i j)) (fun x y _ => la + lb - (intOf x).toNat - (intOf y).toNat)
    case atStart => exact ⟨0, 0, by omega, by omega, rfl, rfl, H0⟩
    case round =>
      obtain ⟨i, j, hi, hj, rfl, rfl, HR⟩ := hrel
      clear H0
      by_cases hia : i < la
      · have hia' : (i : Int) < (la : Int) := by omega
        by_cases hjb : j < lb
        · have hjb' : (j : Int) < (lb : Int) := by omega
          obtain ⟨hbw, HTw⟩ := HTG.out wr i j HR.out
          obtain ⟨ga, rfl, ca⟩ := HCA.out _ hbw i hia
          obtain ⟨gb, rfl, cb⟩ := HCB.out _ hbw j hjb
          dsimp only at ca cb
          have c1 := HTw.at (i := i) (Nat.zero_le _) (by omega)
          have c2 := HTw.at (i := i + 1) (Nat.zero_le _) (by omega)
          have c4 := HTw.cell (i := i + 1) (j := j) (Nat.zero_le _) (by omega) (by omega)
          have c5 := HTw.cell (i := i) (j := j + 1) (Nat.zero_le _) (by omega) (by omega)
          have l2 := HLE.out (i + 1) j
          have l3 := HLE.out i (j + 1)
          have HK1 := Hid.mk' (fun n => HKP.out (wr.drewN n) i j (HR.out.drew n) hia hjb)
          have HA1 := Hid.mk' (fun n hc => HAW.out (wr.drewN n) i j (HR.out.drew n) hia (Nat.le_of_lt hjb) (fun _ => hc))
          have HI1 := Hid.mk' (fun n hc => HIN.out (wr.drewN n) i j (HR.out.drew n) (Nat.le_of_lt hia) hjb (fun _ => hc))
          have HEq := Hid.mk' (HEQ.out i j hia hjb)
          clear HTw hbw HKP HAW HIN HFN HTG HCA HCB HLE HEQ
          generalize Bl i = b0 at *
          generalize Bl (i + 1) = b1 at *
          generalize A.getD i 0 = ac at *
          generalize B.getD j 0 = bc at *
          generalize lc A B i (j + 1) = x01 at *
          generalize lc A B (i + 1) j = x10 at *
          by_cases hs : ac = bc
          · have hse : Utf8.encode (ac : Int) = Utf8.encode (bc : Int) := by rw [hs]
            have HK2 := Hid.mk' (fun n => HK1.out n hs)
            rw [hse] at ca
            clear HK1 HA1 HI1 HEq hse hs
            generalize Utf8.encode (bc : Int) = eb at *
            go_wp2
            go_quiet (fail)
            go_wp2_with (first
              | (go_at_call 19; refine (HK2.out _).mono ?_; rintro e W5 ⟨rfl, hr5⟩; have HR5 := Hid.mk' hr5; clear hr5)
              | fail)
            go_roundw
            case rel => exact ⟨i + 1, j + 1, by omega, by omega, by go_num, by go_num, HR5⟩
            case measure => simp [intOf]; omega
          · have hse : ¬ Utf8.encode (ac : Int) = Utf8.encode (bc : Int) := fun e => hs (HEq.out.1 e)
            have hse2 := ba_ne hse
            have hjb2 : ((j : Int) == (lb : Int)) = false := by simp; omega
            by_cases hge : x01 ≤ x10
            · have hge' : (x01 : Int) ≤ (x10 : Int) := by omega
              have HA2 := Hid.mk' (fun n => HA1.out n ⟨hs, hge⟩)
              clear HK1 HA1 HI1 HEq hse hs
              generalize Utf8.encode (bc : Int) = eb at *
              generalize Utf8.encode (ac : Int) = ea at *
              go_wp2
              go_quiet (fail)
              go_wp2
              go_quiet (fail)
              go_wp2_with (first
                | (go_at_call 20; refine (HA2.out _).mono ?_; rintro e W5 ⟨rfl, hr5⟩; have HR5 := Hid.mk' hr5; clear hr5)
                | fail)
              go_roundw
              case rel => exact ⟨i + 1, j, by omega, by omega, by go_num, by go_num, HR5⟩
              case measure => simp [intOf]; omega
            · have hge' : ¬ (x01 : Int) ≤ (x10 : Int) := by omega
              have HA2 := Hid.mk' (fun n => HI1.out n ⟨hs, hge⟩)
              clear HK1 HA1 HI1 HEq hse hs
              generalize Utf8.encode (bc : Int) = eb at *
              generalize Utf8.encode (ac : Int) = ea at *
              go_wp2
              go_quiet (fail)
              go_wp2
              go_quiet (fail)
              go_wp2_with (first
                | (go_at_call 21; refine (HA2.out _).mono ?_; rintro e W5 ⟨rfl, hr5⟩; have HR5 := Hid.mk' hr5; clear hr5)
                | fail)
              go_roundw
              case rel => exact ⟨i, j + 1, by omega, by omega, by go_num, by go_num, HR5⟩
              case measure => simp [intOf]; omega
        · obtain rfl : j = lb := by omega
          have HA2 := Hid.mk' (fun n => HAW.out (wr.drewN n) i j (HR.out.drew n) hia (Nat.le_refl _) (fun h => absurd h hjb))
          clear HKP HAW HIN HFN HTG HCA HCB HLE HEQ
          go_wp2
          go_quiet (fail)
          go_wp2
          go_quiet (fail)
          go_wp2_with (first
            | (go_at_call 20; refine (HA2.out _).mono ?_; rintro e W5 ⟨rfl, hr5⟩; have HR5 := Hid.mk' hr5; clear hr5)
            | fail)
          go_roundw
          case rel => exact ⟨i + 1, j, by omega, by omega, by go_num, by go_num, HR5⟩
          case measure => simp [intOf]; omega
      · have hia' : ¬ (i : Int) < (la : Int) := by omega
        by_cases hjb : j < lb
        · have hjb' : (j : Int) < (lb : Int) := by omega
          obtain ⟨hbw, HTw⟩ := HTG.out wr i j HR.out
          obtain ⟨gb, rfl, cb⟩ := HCB.out _ hbw j hjb
          dsimp only at cb
          have HA2 := Hid.mk' (fun n => HIN.out (wr.drewN n) i j (HR.out.drew n) hi hjb (fun h => absurd h hia))
          clear HTw hbw HKP HAW HIN HFN HTG HCA HCB HLE HEQ
          generalize B.getD j 0 = bc at *
          generalize Utf8.encode (bc : Int) = eb at *
          go_wp2
          go_quiet (fail)
          go_wp2
          go_quiet (fail)
          go_wp2_with (first
            | (go_at_call 21; refine (HA2.out _).mono ?_; rintro e W5 ⟨rfl, hr5⟩; have HR5 := Hid.mk' hr5; clear hr5)
            | fail)
          go_roundw
          case rel => exact ⟨i, j + 1, by omega, by omega, by go_num, by go_num, HR5⟩
          case measure => simp [intOf]; omega
        · have hjb' : ¬ (j : Int) < (lb : Int) := by omega
          obtain ⟨lv, hc0, own5, b5⟩ := HFN.out wr i j HR.out (by omega) (by omega)
          have HO5 := Hid.mk' own5
          have HB5 := Hid.mk' b5
          clear HKP HAW HIN HFN HTG HCA HCB HLE HEQ own5 b5
          go_wp2
          go_ret
          exact ⟨lv, rfl, HO5.out, HB5.out⟩
end Go.Proofs.YtefoipjbbfcjhaaDoor
